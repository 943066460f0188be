/- The program's reader of paths: words, names, numbers, quoted strings. The program's reader of paths: numbers, what stands in brackets, steps. The program's reader of paths: what stands in brackets, steps, paths; Parse. The program's Parse of paths. -/
import Derived.Test.YtjpmnlefjmdelaaGreatDoorXcJ
import Derived.Test.YtjpmnlefjmdelaaGreatDoorKgJ
set_option linter.unusedSimpArgs false
set_option linter.unusedVariables false
namespace Go.Proofs.YtjpmnlefjmdelaaGreatDoor
open Go.RowKit Go.Sort Go.Proofs.LawFrame

theorem quoP_nil : quoP [] = none := by rw [quoP.eq_def]
theorem quoP_end {c : UInt8} {r : Str} (h : c.toNat = 34) : quoP (c :: r) = some ([], r) := by rw [quoP.eq_def]; simp only [h, if_true]
theorem quoP_esc0 {c : UInt8} (h : ¬ c.toNat = 34) (h2 : c.toNat = 92) : quoP [c] = none := by rw [quoP.eq_def]; simp only [if_neg h, if_pos h2]
theorem quoP_esc {c e : UInt8} {r : Str} (h : ¬ c.toNat = 34) (h2 : c.toNat = 92) : quoP (c :: e :: r) = if e.toNat = 34 then (quoP r).map (fun p => (34 :: p.1, p.2)) else if e.toNat = 92 then (quoP r).map (fun p => (92 :: p.1, p.2)) else if e.toNat = 110 then (quoP r).map (fun p => (10 :: p.1, p.2)) else none := by
  rw [quoP.eq_def]; simp only [if_neg h, if_pos h2]
theorem quoP_lit {c : UInt8} {r : Str} (h : ¬ c.toNat = 34) (h2 : ¬ c.toNat = 92) : quoP (c :: r) = if prt c then (quoP r).map (fun p => (c :: p.1, p.2)) else none := by
  rw [quoP.eq_def]; simp only [if_neg h, if_neg h2]
theorem ext_pre (l : Str) (k : Nat) : (⟨l.toArray⟩ : ByteArray).extract 0 k = ⟨(l.take k).toArray⟩ := by
  apply ByteArray.ext; rw [ByteArray.data_extract]; simp
theorem ext_suf (l : Str) (k : Nat) : (⟨l.toArray⟩ : ByteArray).extract k l.length = ⟨(l.drop k).toArray⟩ := by
  apply ByteArray.ext; rw [ByteArray.data_extract]; simp
  exact List.take_of_length_le (by simp)
theorem strl_id (l : Str) : (⟨l.toArray⟩ : ByteArray).toList = l := by rw [ByteArray.toList_eq]
theorem str_beq (a b : Str) : (a == b) = decide (a = b) := by rw [Bool.eq_iff_iff, beq_iff_eq, decide_eq_true_eq]
theorem cutP_take (u r : Str) (h : u.length ≤ r.length) : (cutP u r).isSome = decide (r.take u.length = u) := by
  rw [Bool.eq_iff_iff, decide_eq_true_eq, Option.isSome_iff_exists]
  constructor
  · rintro ⟨q, hq⟩
    rw [(cutP_iff u r q).1 hq]; simp
  · intro h2
    exact ⟨r.drop u.length, (cutP_iff u r _).2 (by conv => lhs; rw [← List.take_append_drop u.length r, h2])⟩
set_option maxHeartbeats 1000000 in
theorem hasPre_any (r u : Str) (w : World) : Calls Tryz.prog 210 #[sV r, sV u] w fun e w' => e = .returned (.bool (cutP u r).isSome) ∧ w = w' := by
  by_cases h : u.length ≤ r.length
  · have hp := cutP_take u r h
    have hx : (((⟨r.toArray⟩ : ByteArray).extract 0 u.length).toList == u) = (cutP u r).isSome := by rw [ext_pre, strl_id, str_beq, hp]
    clear hp
    generalize (cutP u r).isSome = B at *
    go_enter Tryz.func210, Tryz.ntmps210
    go_wp2
    go_ret
    exact ⟨rfl, rfl⟩
  · have hp : (cutP u r).isSome = false := by
      cases hc : cutP u r with
      | none => rfl
      | some q => have := cutP_len hc; omega
    rw [hp]
    clear hp
    go_enter Tryz.func210, Tryz.ntmps210
    go_wp2
    go_ret
    exact ⟨rfl, rfl⟩
set_option maxHeartbeats 1000000 in
theorem cut1_any (r u : Str) (w : World) : Calls Tryz.prog 198 #[sV r, sV u] w fun e w' => e = .returned (.tuple #[sV ((cutP u r).getD r), .bool (cutP u r).isSome]) ∧ w = w' := by
  have C := hasPre_any r u w
  cases hc : cutP u r with
  | none =>
    rw [hc] at C
    have C := Lib.hid C
    clear hc
    go_enter Tryz.func198, Tryz.ntmps198
    go_wp2_with fail
    refine C.out.mono ?_
    rintro e w1 ⟨rfl, rfl⟩
    go_wp2
    exact bodyPost_ret (v := .tuple #[sV r, .bool false]) (by simp [results, Tryz.results198, go_sem]) rfl ⟨rfl, rfl⟩
  | some q =>
    rw [hc] at C
    have C := Lib.hid C
    have hl := cutP_len hc
    have hq : r.drop u.length = q := by rw [(cutP_iff u r q).1 hc]; simp
    have hx : (⟨r.toArray⟩ : ByteArray).extract u.length r.length = ⟨q.toArray⟩ := by rw [ext_suf, hq]
    clear hc hq
    have hul : u.length ≤ r.length := by omega
    clear hl
    go_enter Tryz.func198, Tryz.ntmps198
    go_wp2_with fail
    refine C.out.mono ?_
    rintro e w1 ⟨rfl, rfl⟩
    go_wp2
    exact bodyPost_ret (v := .tuple #[sV q, .bool true]) (by simp [results, Tryz.results198, go_sem, hx]) rfl ⟨rfl, rfl⟩
set_option maxHeartbeats 1000000 in
theorem cut_any (r u : Str) (w : World) : Calls Tryz.prog 177 #[sV r, sV u] w fun e w' => e = .returned (.tuple #[sV ((cutP u r).getD r), .bool (cutP u r).isSome]) ∧ w = w' := by
  have C := Lib.hid (cut1_any r u w)
  generalize (cutP u r).getD r = q at *
  generalize (cutP u r).isSome = b at *
  go_enter Tryz.func177, Tryz.ntmps177
  go_wp2_with fail
  refine C.out.mono ?_
  rintro e w1 ⟨rfl, rfl⟩
  go_wp2
  exact bodyPost_ret (v := .tuple #[sV q, .bool b]) (by simp [results, Tryz.results177, go_sem]) rfl ⟨rfl, rfl⟩
set_option maxHeartbeats 1000000 in
theorem accept_any {rb : Nat} {r u : Str} {w : World} (o : Own w rb [sV r] 124) :
    Calls Tryz.prog 147 #[.pointer (some ⟨rb, 0, none⟩), sV u] w fun e w' => e = .returned (.bool (cutP u r).isSome) ∧ But rb w w' ∧ Own w' rb [sV ((cutP u r).getD r)] 124 := by
  have C := Lib.hid (cut_any r u w)
  generalize (cutP u r).getD r = q at *
  generalize (cutP u r).isSome = b at *
  have c0 := o.cell (i := 0) rfl
  have f0 := o.frozen 0
  have HO := Lib.hid o
  clear o
  go_enter Tryz.func147, Tryz.ntmps147
  go_wp2_with fail
  refine C.out.mono ?_
  rintro e w1 ⟨rfl, rfl⟩
  go_wp2
  go_ret
  exact ⟨rfl, (But.refl _ _).set 0 _, HO.out.set 0 _⟩
theorem accept_no {rb : Nat} {r u : Str} {w : World} (o : Own w rb [sV r] 124) (h : cutP u r = none) :
    Calls Tryz.prog 147 #[.pointer (some ⟨rb, 0, none⟩), sV u] w fun e w' => e = .returned (.bool false) ∧ But rb w w' ∧ Own w' rb [sV r] 124 := by
  have C := accept_any (u := u) o
  rw [h] at C; exact C
theorem accept_yes {rb : Nat} {r u q : Str} {w : World} (o : Own w rb [sV r] 124) (h : cutP u r = some q) :
    Calls Tryz.prog 147 #[.pointer (some ⟨rb, 0, none⟩), sV u] w fun e w' => e = .returned (.bool true) ∧ But rb w w' ∧ Own w' rb [sV q] 124 := by
  have C := accept_any (u := u) o
  rw [h] at C; exact C
set_option maxHeartbeats 1000000 in
theorem nameR_any {rb : Nat} {r : Str} {w : World} (o : Own w rb [sV r] 124) :
    Calls Tryz.prog 149 #[.pointer (some ⟨rb, 0, none⟩)] w fun e w' => e = .returned (sV (r.takeWhile nmByte)) ∧ But rb w w' ∧ Own w' rb [sV (r.dropWhile nmByte)] 124 := by
  have C := Lib.hid (nameLength_any r w)
  have hx : (⟨r.toArray⟩ : ByteArray).extract 0 (nlen r) = ⟨(r.takeWhile nmByte).toArray⟩ := by rw [ext_pre, take_nlen]
  have hy : (⟨r.toArray⟩ : ByteArray).extract (nlen r) r.length = ⟨(r.dropWhile nmByte).toArray⟩ := by rw [ext_suf, drop_nlen]
  have hle := nlen_le r
  generalize r.takeWhile nmByte = a at *
  generalize r.dropWhile nmByte = b at *
  generalize nlen r = k at *
  have c0 := o.cell (i := 0) rfl
  have HO := Lib.hid o
  clear o
  go_enter Tryz.func149, Tryz.ntmps149
  go_wp2_with fail
  refine C.out.mono ?_
  rintro e w1 ⟨rfl, hb⟩
  have o1 := HO.out.all hb
  clear c0 C
  have c0 := o1.cell (i := 0) rfl
  have f0 := o1.frozen 0
  have HO := Lib.hid (And.intro (But.allow (b := rb) hb) o1)
  clear o1 hb
  go_wp2
  go_ret
  refine ⟨by simp only [hx]; rfl, ?_, ?_⟩
  · exact HO.out.1.set 0 _
  · exact HO.out.2.set 0 _

/-- what a reading of a string gives -/
structure QS (rb : Nat) (w : World) (res : Option (Str × Str)) (e : Ending) (w' : World) : Prop where
  but : But rb w w'
  ok : ∀ v q, res = some (v, q) → e = .returned (.tuple #[sV v, .bool true]) ∧ Own w' rb [sV q] 124
  no : res = none → ∃ v r', e = .returned (.tuple #[sV v, .bool false]) ∧ Own w' rb [sV r'] 124
/-- what has been read of a string, and what is left -/
def QuI (r acc rr : Str) : Prop := quoP r = (quoP rr).map (fun p => (acc ++ p.1, p.2))
theorem QuI.start (r : Str) : QuI r [] r := by unfold QuI; cases quoP r <;> simp
theorem QuI.step {r acc rr rr' : Str} {x : UInt8} (h : QuI r acc rr) (hs : quoP rr = (quoP rr').map (fun p => (x :: p.1, p.2))) : QuI r (acc ++ [x]) rr' := by
  unfold QuI at *
  rw [h, hs]; cases quoP rr' <;> simp
theorem QuI.fin {r acc rr q : Str} (h : QuI r acc rr) (hs : quoP rr = some ([], q)) : quoP r = some (acc, q) := by
  unfold QuI at h; rw [h, hs]; simp
theorem QuI.bad {r acc rr : Str} (h : QuI r acc rr) (hs : quoP rr = none) : quoP r = none := by
  unfold QuI at h; rw [h, hs]; rfl
set_option maxHeartbeats 1000000 in
theorem isPrintP_any (c : UInt8) (w : World) : Calls Tryz.prog 199 #[.int .u8 c.toNat] w fun e w' => e = .returned (.bool (prt c)) ∧ w = w' := by
  have hm256 : c.toNat < 256 := c.toNat_lt
  go_enter Tryz.func199, Tryz.ntmps199
  go_wp2
  all_goals
    go_ret
    exact ⟨ret_bool (by unfold prt; rw [Bool.eq_iff_iff]; simp; omega), rfl⟩

set_option maxHeartbeats 8000000 in
set_option maxRecDepth 4000 in
theorem quotedP_any {rb : Nat} {r : Str} {w : World} (hl : r.length ≤ 100000) (o : Own w rb [sV r] 124) : Calls Tryz.prog 179 #[.pointer (some ⟨rb, 0, none⟩)] w (QS rb w (quoP r)) := by
  have hpb := o.lt
  obtain ⟨i5, hi5, hz5, hs5, hy5⟩ := info_parts info5
  have HO := Lib.hid o
  clear o
  go_enter Tryz.func179, Tryz.ntmps179
  go_wp2
  go_loopg [4] (r.length + 1) (fun g v wr => ∃ (acc rr : Str), g = rr.length + 1 ∧ acc.length + rr.length ≤ r.length ∧ But rb w wr ∧ wr.ownsRow w.heap.size 5 1 v acc.length (bC acc) ∧ Own wr rb [sV rr] 124 ∧ Hid (QuI r acc rr))
  case atStart => exact ⟨[], r, rfl, by simp, But.refl _ _, own_nil _ _ _ _, HO.out, Lib.hid (QuI.start r)⟩
  case round =>
    obtain ⟨acc, rr, hg, hal, hb, hown, o, HE⟩ := hrel
    have HG := Lib.hid hg
    clear hg HO
    obtain ⟨ao, cap, hu, -, -, -⟩ := (Flat.of_own hown).out
    subst hu
    have HAL := Lib.hid hal
    have hacc : acc.length ≤ 100000 := by omega
    have hrrl : rr.length ≤ 100000 := by omega
    clear hal hl
    generalize hN : acc.length = N at *
    have HN := Lib.hid hN
    clear hN
    have HS0 := Lib.hid (And.intro hb (And.intro hown o))
    clear hb hown o
    obtain ⟨r1, hr1⟩ : ∃ q, rr = q := ⟨_, rfl⟩
    cases rr with
    | nil =>
      have hz : r1.isEmpty = true := by rw [← hr1]; rfl
      have HR := Lib.hid hr1
      clear hr1
      rw [HR.out] at HS0
      have C := Lib.hid (accept_no (u := [34]) HS0.out.2.2 (by rw [← HR.out]; rfl))
      go_wp2_with fail
      refine C.out.mono ?_
      rintro e w1 ⟨rfl, hbi, oi⟩
      have HS1 := Lib.hid (And.intro (HS0.out.1.trans hbi) (And.intro (row_but HS0.out.2.1 hbi (by omega)) oi))
      clear C hbi oi HS0
      have C := Lib.hid (accept_no (u := [92, 34]) HS1.out.2.2 (by rw [← HR.out]; rfl))
      go_wp2_with fail
      refine C.out.mono ?_
      rintro e w2 ⟨rfl, hbi, oi⟩
      have HS2 := Lib.hid (And.intro (HS1.out.1.trans hbi) (And.intro (row_but HS1.out.2.1 hbi (by omega)) oi))
      clear C hbi oi HS1
      have C := Lib.hid (accept_no (u := [92, 92]) HS2.out.2.2 (by rw [← HR.out]; rfl))
      go_wp2_with fail
      refine C.out.mono ?_
      rintro e w3 ⟨rfl, hbi, oi⟩
      have HS3 := Lib.hid (And.intro (HS2.out.1.trans hbi) (And.intro (row_but HS2.out.2.1 hbi (by omega)) oi))
      clear C hbi oi HS2
      have C := Lib.hid (accept_no (u := [92, 110]) HS3.out.2.2 (by rw [← HR.out]; rfl))
      go_wp2_with fail
      refine C.out.mono ?_
      rintro e w4 ⟨rfl, hbi, oi⟩
      have HS4 := Lib.hid (And.intro (HS3.out.1.trans hbi) (And.intro (row_but HS3.out.2.1 hbi (by omega)) oi))
      clear C hbi oi HS3
      have c0 := HS4.out.2.2.cell (i := 0) rfl
      go_wp2
      exact bodyPost_ret (v := .tuple #[.string ⟨#[]⟩, .bool false]) (by simp [results, Tryz.results179, go_sem]) rfl ⟨HS4.out.1, fun v q h => (by rw [HE.out.bad quoP_nil] at h; cases h), fun _ => ⟨[], _, rfl, HS4.out.2.2⟩⟩
    | cons c r2 =>
      have hz : r1.isEmpty = false := by rw [← hr1]; rfl
      have hlen : 0 < r1.length := by rw [← hr1]; simp
      have hm : ((⟨r1.toArray⟩ : ByteArray)[0]'hlen).toNat = c.toNat := by subst hr1; rfl
      have HR := Lib.hid hr1
      clear hr1
      rw [HR.out] at HS0
      by_cases h34 : c.toNat = 34
      · have HC := Lib.hid h34
        clear h34
        have HF : Hid (quoP r = some (acc, r2)) := Lib.hid (HE.out.fin (quoP_end HC.out))
        have C := Lib.hid (accept_yes (u := [34]) HS0.out.2.2 (by rw [← HR.out, show c = 34 from UInt8.toNat_inj.1 HC.out]; rfl))
        go_wp2_with fail
        refine C.out.mono ?_
        rintro e w1 ⟨rfl, hbi, oi⟩
        have HS1 := Lib.hid (And.intro (HS0.out.1.trans hbi) (And.intro (row_but HS0.out.2.1 hbi (by omega)) oi))
        clear C hbi oi HS0
        have hcv := conv_own (by rw [HN.out]; exact HS1.out.2.1)
        go_wp2
        exact bodyPost_ret (v := .tuple #[sV acc, .bool true]) (by simp [results, Tryz.results179, go_sem]) rfl ⟨HS1.out.1, fun v q h => (by rw [HF.out] at h; cases h; exact ⟨rfl, HS1.out.2.2⟩), fun h => (by rw [HF.out] at h; cases h)⟩
      have H34 : Hid (¬ (34 : UInt8) = c) := Lib.hid (by rintro rfl; exact h34 rfl)
      have HQ34 := Lib.hid h34
      clear h34
      have C := Lib.hid (accept_no (u := [34]) HS0.out.2.2 (by rw [← HR.out]; simp only [cutP]; rw [if_neg H34.out]))
      go_wp2_with fail
      refine C.out.mono ?_
      rintro e w1 ⟨rfl, hbi, oi⟩
      have HS1 := Lib.hid (And.intro (HS0.out.1.trans hbi) (And.intro (row_but HS0.out.2.1 hbi (by omega)) oi))
      clear C hbi oi HS0
      by_cases h92 : c.toNat = 92
      · have HC : Hid (c = 92) := Lib.hid (UInt8.toNat_inj.1 h92)
        have e92 : (c.toNat : Int) = 92 := by omega
        have H92 := Lib.hid h92
        clear h92
        cases r2 with
        | nil =>
          have HF : Hid (quoP r = none) := Lib.hid (HE.out.bad (quoP_esc0 HQ34.out H92.out))
          have C := Lib.hid (accept_no (u := [92, 34]) HS1.out.2.2 (by rw [← HR.out, HC.out]; rfl))
          go_wp2_with fail
          refine C.out.mono ?_
          rintro e w2 ⟨rfl, hbi, oi⟩
          have HS2 := Lib.hid (And.intro (HS1.out.1.trans hbi) (And.intro (row_but HS1.out.2.1 hbi (by omega)) oi))
          clear C hbi oi HS1
          have C := Lib.hid (accept_no (u := [92, 92]) HS2.out.2.2 (by rw [← HR.out, HC.out]; rfl))
          go_wp2_with fail
          refine C.out.mono ?_
          rintro e w3 ⟨rfl, hbi, oi⟩
          have HS3 := Lib.hid (And.intro (HS2.out.1.trans hbi) (And.intro (row_but HS2.out.2.1 hbi (by omega)) oi))
          clear C hbi oi HS2
          have C := Lib.hid (accept_no (u := [92, 110]) HS3.out.2.2 (by rw [← HR.out, HC.out]; rfl))
          go_wp2_with fail
          refine C.out.mono ?_
          rintro e w4 ⟨rfl, hbi, oi⟩
          have HS4 := Lib.hid (And.intro (HS3.out.1.trans hbi) (And.intro (row_but HS3.out.2.1 hbi (by omega)) oi))
          clear C hbi oi HS3
          have c0 := HS4.out.2.2.cell (i := 0) rfl
          go_wp2
          exact bodyPost_ret (v := .tuple #[.string ⟨#[]⟩, .bool false]) (by simp [results, Tryz.results179, go_sem]) rfl ⟨HS4.out.1, fun v q h => (by rw [HF.out] at h; cases h), fun _ => ⟨[], _, rfl, HS4.out.2.2⟩⟩
        | cons e3 r3 =>
          by_cases he34 : e3.toNat = 34
          · have HE3 : Hid (e3 = 34) := Lib.hid (UInt8.toNat_inj.1 he34)
            have HK := Lib.hid he34
            clear he34
            have HF : Hid (QuI r (acc ++ [34]) r3) := Lib.hid (HE.out.step (by rw [quoP_esc HQ34.out H92.out, if_pos HK.out]))
            have C := Lib.hid (accept_yes (u := [92, 34]) HS1.out.2.2 (by rw [← HR.out, HC.out, HE3.out]; rfl))
            go_wp2_with fail
            refine C.out.mono ?_
            rintro e w2 ⟨rfl, hbi, oi⟩
            have HS2 := Lib.hid (And.intro (HS1.out.1.trans hbi) (And.intro (row_but HS1.out.2.1 hbi (by omega)) oi))
            clear C hbi oi HS1
            have hownA := HS2.out.2.1
            have hsz := HS2.out.1.size
            go_wp2_with (first | (at_builtin; refine wpList_append_own _ rfl (.tmp 29) (.tmp 30) 61 rfl w.heap.size 5 i5 (.int .u8 0) 1 1 Tryz.underlying61 hi5 hz5 hs5 hy5 rfl (by decide) _ _ _ rfl (hownA.alloc _) ⟨w2.heap.size, 0, none⟩ 1 1 [.int .u8 34] rfl rfl (own_src (Own.new _ _ _)) (fun u hu => by simp at hu; subst hu; rfl) (by unfold maxLen; omega) (by omega) (by simp <;> omega) ?_; intro v9 w9 hown9 hgrow9 hnil9))
            go_roundg (r3.length + 1)
            case measure => have := HG.out; simp at this; omega
            case rel => exact ⟨acc ++ [34], r3, rfl, by have := HAL.out; simp at this ⊢; rw [HN.out]; omega, ((HS2.out.1.all (below_alloc w2 _)).grown hgrow9 (fun k hk => own_row hownA k hk)), by rw [bC_snoc, List.length_append, HN.out]; exact hown9, own_kept' (HS2.out.2.2.alloc _) hgrow9 (fun e => by have := own_row hownA rb e; omega), HF⟩
          have Hn34 := Lib.hid he34
          have HX34 : Hid (¬ (34 : UInt8) = e3) := Lib.hid (by rintro rfl; exact he34 rfl)
          clear he34
          have C := Lib.hid (accept_no (u := [92, 34]) HS1.out.2.2 (by rw [← HR.out, HC.out]; simp only [cutP]; rw [if_pos trivial, if_neg HX34.out]))
          go_wp2_with fail
          refine C.out.mono ?_
          rintro e w2 ⟨rfl, hbi, oi⟩
          have HS2 := Lib.hid (And.intro (HS1.out.1.trans hbi) (And.intro (row_but HS1.out.2.1 hbi (by omega)) oi))
          clear C hbi oi HS1
          by_cases he92 : e3.toNat = 92
          · have HE3 : Hid (e3 = 92) := Lib.hid (UInt8.toNat_inj.1 he92)
            have HK := Lib.hid he92
            clear he92
            have HF : Hid (QuI r (acc ++ [92]) r3) := Lib.hid (HE.out.step (by rw [quoP_esc HQ34.out H92.out, if_neg Hn34.out, if_pos HK.out]))
            have C := Lib.hid (accept_yes (u := [92, 92]) HS2.out.2.2 (by rw [← HR.out, HC.out, HE3.out]; rfl))
            go_wp2_with fail
            refine C.out.mono ?_
            rintro e w3 ⟨rfl, hbi, oi⟩
            have HS3 := Lib.hid (And.intro (HS2.out.1.trans hbi) (And.intro (row_but HS2.out.2.1 hbi (by omega)) oi))
            clear C hbi oi HS2
            have hownA := HS3.out.2.1
            have hsz := HS3.out.1.size
            go_wp2_with (first | (at_builtin; refine wpList_append_own _ rfl (.tmp 35) (.tmp 36) 61 rfl w.heap.size 5 i5 (.int .u8 0) 1 1 Tryz.underlying61 hi5 hz5 hs5 hy5 rfl (by decide) _ _ _ rfl (hownA.alloc _) ⟨w3.heap.size, 0, none⟩ 1 1 [.int .u8 92] rfl rfl (own_src (Own.new _ _ _)) (fun u hu => by simp at hu; subst hu; rfl) (by unfold maxLen; omega) (by omega) (by simp <;> omega) ?_; intro v9 w9 hown9 hgrow9 hnil9))
            go_roundg (r3.length + 1)
            case measure => have := HG.out; simp at this; omega
            case rel => exact ⟨acc ++ [92], r3, rfl, by have := HAL.out; simp at this ⊢; rw [HN.out]; omega, ((HS3.out.1.all (below_alloc w3 _)).grown hgrow9 (fun k hk => own_row hownA k hk)), by rw [bC_snoc, List.length_append, HN.out]; exact hown9, own_kept' (HS3.out.2.2.alloc _) hgrow9 (fun e => by have := own_row hownA rb e; omega), HF⟩
          have Hn92 := Lib.hid he92
          have HX92 : Hid (¬ (92 : UInt8) = e3) := Lib.hid (by rintro rfl; exact he92 rfl)
          clear he92
          have C := Lib.hid (accept_no (u := [92, 92]) HS2.out.2.2 (by rw [← HR.out, HC.out]; simp only [cutP]; rw [if_pos trivial, if_neg HX92.out]))
          go_wp2_with fail
          refine C.out.mono ?_
          rintro e w3 ⟨rfl, hbi, oi⟩
          have HS3 := Lib.hid (And.intro (HS2.out.1.trans hbi) (And.intro (row_but HS2.out.2.1 hbi (by omega)) oi))
          clear C hbi oi HS2
          by_cases he110 : e3.toNat = 110
          · have HE3 : Hid (e3 = 110) := Lib.hid (UInt8.toNat_inj.1 he110)
            have HK := Lib.hid he110
            clear he110
            have HF : Hid (QuI r (acc ++ [10]) r3) := Lib.hid (HE.out.step (by rw [quoP_esc HQ34.out H92.out, if_neg Hn34.out, if_neg Hn92.out, if_pos HK.out]))
            have C := Lib.hid (accept_yes (u := [92, 110]) HS3.out.2.2 (by rw [← HR.out, HC.out, HE3.out]; rfl))
            go_wp2_with fail
            refine C.out.mono ?_
            rintro e w4 ⟨rfl, hbi, oi⟩
            have HS4 := Lib.hid (And.intro (HS3.out.1.trans hbi) (And.intro (row_but HS3.out.2.1 hbi (by omega)) oi))
            clear C hbi oi HS3
            have hownA := HS4.out.2.1
            have hsz := HS4.out.1.size
            go_wp2_with (first | (at_builtin; refine wpList_append_own _ rfl (.tmp 41) (.tmp 42) 61 rfl w.heap.size 5 i5 (.int .u8 0) 1 1 Tryz.underlying61 hi5 hz5 hs5 hy5 rfl (by decide) _ _ _ rfl (hownA.alloc _) ⟨w4.heap.size, 0, none⟩ 1 1 [.int .u8 10] rfl rfl (own_src (Own.new _ _ _)) (fun u hu => by simp at hu; subst hu; rfl) (by unfold maxLen; omega) (by omega) (by simp <;> omega) ?_; intro v9 w9 hown9 hgrow9 hnil9))
            go_roundg (r3.length + 1)
            case measure => have := HG.out; simp at this; omega
            case rel => exact ⟨acc ++ [10], r3, rfl, by have := HAL.out; simp at this ⊢; rw [HN.out]; omega, ((HS4.out.1.all (below_alloc w4 _)).grown hgrow9 (fun k hk => own_row hownA k hk)), by rw [bC_snoc, List.length_append, HN.out]; exact hown9, own_kept' (HS4.out.2.2.alloc _) hgrow9 (fun e => by have := own_row hownA rb e; omega), HF⟩
          have Hn110 := Lib.hid he110
          have HX110 : Hid (¬ (110 : UInt8) = e3) := Lib.hid (by rintro rfl; exact he110 rfl)
          clear he110
          have C := Lib.hid (accept_no (u := [92, 110]) HS3.out.2.2 (by rw [← HR.out, HC.out]; simp only [cutP]; rw [if_pos trivial, if_neg HX110.out]))
          go_wp2_with fail
          refine C.out.mono ?_
          rintro e w4 ⟨rfl, hbi, oi⟩
          have HS4 := Lib.hid (And.intro (HS3.out.1.trans hbi) (And.intro (row_but HS3.out.2.1 hbi (by omega)) oi))
          clear C hbi oi HS3
          have HF : Hid (quoP r = none) := Lib.hid (HE.out.bad (by rw [quoP_esc HQ34.out H92.out, if_neg Hn34.out, if_neg Hn92.out, if_neg Hn110.out]))
          have c0 := HS4.out.2.2.cell (i := 0) rfl
          go_wp2
          exact bodyPost_ret (v := .tuple #[.string ⟨#[]⟩, .bool false]) (by simp [results, Tryz.results179, go_sem]) rfl ⟨HS4.out.1, fun v q h => (by rw [HF.out] at h; cases h), fun _ => ⟨[], _, rfl, HS4.out.2.2⟩⟩
      have H92 : Hid (¬ (92 : UInt8) = c) := Lib.hid (by rintro rfl; exact h92 rfl)
      have HQ92 := Lib.hid h92
      have e92 : ¬ (c.toNat : Int) = 92 := by omega
      have e92' : ((c.toNat : Int) == 92) = false := by rw [beq_eq_false_iff_ne]; exact e92
      clear h92
      have C := Lib.hid (accept_no (u := [92, 34]) HS1.out.2.2 (by rw [← HR.out]; simp only [cutP]; rw [if_neg H92.out]))
      go_wp2_with fail
      refine C.out.mono ?_
      rintro e w2 ⟨rfl, hbi, oi⟩
      have HS2 := Lib.hid (And.intro (HS1.out.1.trans hbi) (And.intro (row_but HS1.out.2.1 hbi (by omega)) oi))
      clear C hbi oi HS1
      have C := Lib.hid (accept_no (u := [92, 92]) HS2.out.2.2 (by rw [← HR.out]; simp only [cutP]; rw [if_neg H92.out]))
      go_wp2_with fail
      refine C.out.mono ?_
      rintro e w3 ⟨rfl, hbi, oi⟩
      have HS3 := Lib.hid (And.intro (HS2.out.1.trans hbi) (And.intro (row_but HS2.out.2.1 hbi (by omega)) oi))
      clear C hbi oi HS2
      have C := Lib.hid (accept_no (u := [92, 110]) HS3.out.2.2 (by rw [← HR.out]; simp only [cutP]; rw [if_neg H92.out]))
      go_wp2_with fail
      refine C.out.mono ?_
      rintro e w4 ⟨rfl, hbi, oi⟩
      have HS4 := Lib.hid (And.intro (HS3.out.1.trans hbi) (And.intro (row_but HS3.out.2.1 hbi (by omega)) oi))
      clear C hbi oi HS3
      have c0 := HS4.out.2.2.cell (i := 0) rfl
      have CP := Lib.hid (isPrintP_any c w4)
      go_wp2_with fail
      refine CP.out.mono ?_
      rintro e w5 ⟨rfl, rfl⟩
      clear CP
      cases hp : prt c
      · have HF : Hid (quoP r = none) := Lib.hid (HE.out.bad (by rw [quoP_lit HQ34.out HQ92.out, hp]; rfl))
        go_wp2
        exact bodyPost_ret (v := .tuple #[.string ⟨#[]⟩, .bool false]) (by simp [results, Tryz.results179, go_sem]) rfl ⟨HS4.out.1, fun v q h => (by rw [HF.out] at h; cases h), fun _ => ⟨[], _, rfl, HS4.out.2.2⟩⟩
      · have HF : Hid (QuI r (acc ++ [c]) r2) := Lib.hid (HE.out.step (by rw [quoP_lit HQ34.out HQ92.out, if_pos hp]))
        have hx : (⟨r1.toArray⟩ : ByteArray).extract 1 r1.length = ⟨r2.toArray⟩ := by rw [ext_suf, ← HR.out]; rfl
        have hownA := HS4.out.2.1
        have hsz := HS4.out.1.size
        go_upto_region 3 with (first | (at_builtin; refine wpList_append_own _ rfl (.tmp 5) (.tmp 11) 61 rfl w.heap.size 5 i5 (.int .u8 0) 1 1 Tryz.underlying61 hi5 hz5 hs5 hy5 rfl (by decide) _ _ _ rfl (hownA.alloc _) ⟨w4.heap.size, 0, none⟩ 1 1 [.int .u8 (c.toNat : Int)] rfl rfl (own_src (Own.new _ _ _)) (fun u hu => by simp at hu; subst hu; rfl) (by unfold maxLen; omega) (by omega) (by simp <;> omega) ?_; intro v9 w9 hown9 hgrow9 hnil9))
        have hbut9 := (HS4.out.1.all (below_alloc w4 _)).grown hgrow9 (fun k hk => own_row hownA k hk)
        have o9 := own_kept' (HS4.out.2.2.alloc (.cells #[.int .u8 (c.toNat : Int)] 5)) hgrow9 (fun e => by have := own_row hownA rb e; omega)
        obtain ⟨ao2, cap2, hu2, -, -, -⟩ := (Flat.of_own hown9).out
        subst hu2
        clear c0
        have c0 := o9.cell (i := 0) rfl
        have f0 := o9.frozen 0
        have HS9 := Lib.hid (And.intro hbut9 (And.intro hown9 o9))
        clear hbut9 hown9 o9 hgrow9 hnil9 hownA
        go_wp2
        go_roundg (r2.length + 1)
        case measure => have := HG.out; simp at this; omega
        case rel => exact ⟨acc ++ [c], r2, rfl, by have := HAL.out; simp at this ⊢; rw [HN.out]; omega, HS9.out.1.set 0 _, by rw [bC_snoc, List.length_append, HN.out]; exact row_set HS9.out.2.1 hpb 0 _, HS9.out.2.2.set 0 _, HF⟩
end Go.Proofs.YtjpmnlefjmdelaaGreatDoor
namespace Go.Proofs.YtjpmnlefjmdelaaGreatDoor
open Go.RowKit Go.Sort Go.Proofs.LawFrame

def put4 (W : World) (b : Nat) (v0 v1 v2 v3 : Value) : World := (((W.setCell ⟨b, 0, none⟩ v0).setCell ⟨b, 1, none⟩ v1).setCell ⟨b, 2, none⟩ v2).setCell ⟨b, 3, none⟩ v3
theorem own_put4 {W : World} {b : Nat} {a0 a1 a2 a3 : Value} {t : TypeId} (o : Own W b [a0, a1, a2, a3] t) (v0 v1 v2 v3 : Value) : Own (put4 W b v0 v1 v2 v3) b [v0, v1, v2, v3] t :=
  (((o.set 0 v0).set 1 v1).set 2 v2).set 3 v3
theorem But.put4 {pb b : Nat} {w W : World} (h : But pb w W) (hb : w.heap.size ≤ b) (v0 v1 v2 v3 : Value) : But pb w (put4 W b v0 v1 v2 v3) :=
  (((h.high hb 0 v0).high hb 1 v1).high hb 2 v2).high hb 3 v3
theorem Own.put4 {W : World} {b c : Nat} {cs : List Value} {t : TypeId} (o : Own W b cs t) (hb : b ≠ c) (v0 v1 v2 v3 : Value) : Own (put4 W c v0 v1 v2 v3) b cs t :=
  (((o.set_ne hb 0 v0).set_ne hb 1 v1).set_ne hb 2 v2).set_ne hb 3 v3

/-- digits read so far -/
def IxI (d : Str) (n : Int) (rest : Str) : Prop := idxN 0 d = idxN n rest ∧ 0 ≤ n ∧ n ≤ 65
theorem IxI.start (d : Str) : IxI d 0 d := ⟨rfl, by omega, by omega⟩
theorem IxI.step {d r : Str} {n : Int} {c : UInt8} (h : IxI d n (c :: r)) (hc : dig c = true) : IxI d (min (10 * n + ((c.toNat : Int) - 48)) 65) r := by
  obtain ⟨h1, h2, h3⟩ := h
  unfold dig at hc
  simp at hc
  exact ⟨by rw [h1]; rfl, by omega, by omega⟩
theorem idxOk_nil : idxOk [] = false := rfl
theorem idxOk_zero {d : Str} (h : 1 < d.length) (h2 : d.head? = some 48) : idxOk d = false := by unfold idxOk; rw [decide_eq_true h, decide_eq_true h2]; simp
theorem idxOk_rest {d : Str} (h : d ≠ []) (h2 : ¬ (1 < d.length ∧ d.head? = some 48)) : idxOk d = d.all dig := by
  unfold idxOk
  rw [decide_eq_true h]
  have : (decide (1 < d.length) && decide (d.head? = some 48)) = false := by
    rw [Bool.eq_false_iff]; intro h3; simp only [Bool.and_eq_true, decide_eq_true_eq] at h3; exact h2 h3
  rw [this]; simp
set_option maxHeartbeats 4000000 in
set_option maxRecDepth 1000000 in
theorem parseIndex_any (d : Str) (w : World) (hd : d.all nmByte = true) : Calls Tryz.prog 178 #[sV d] w fun e w' => (∃ n : Int, e = .returned (.tuple #[.int .i64 n, .bool (idxOk d)]) ∧ (idxOk d = true → n = idxN 0 d)) ∧ Below w.heap.size w w' := by
  cases d with
  | nil =>
    go_enter Tryz.func178, Tryz.ntmps178
    go_wp2
    exact bodyPost_ret (v := .tuple #[.int .i64 0, .bool false]) (by simp [results, Tryz.results178, go_sem]) rfl ⟨⟨0, rfl, fun h => (by rw [idxOk_nil] at h; cases h)⟩, Below.refl _ _⟩
  | cons c0 d0 =>
    obtain ⟨d, hdd⟩ : ∃ d, c0 :: d0 = d := ⟨_, rfl⟩
    have hlen : 0 < d.length := by rw [← hdd]; simp
    have hm0 : ((⟨d.toArray⟩ : ByteArray)[0]'hlen).toNat = c0.toNat := by subst hdd; rfl
    have hz : d.isEmpty = false := by rw [← hdd]; rfl
    have hhd : Hid (d.head? = some c0) := Lib.hid (by rw [← hdd]; rfl)
    have hne : Hid (d ≠ []) := Lib.hid (by rw [← hdd]; simp)
    rw [hdd] at hd ⊢
    clear hdd
    have HAN : Hid (∀ c ∈ d, nmByte c = true) := Lib.hid (by simpa using hd)
    clear hd
    by_cases hb0 : 1 < d.length ∧ c0.toNat = 48
    · obtain ⟨hl1, h48⟩ := hb0
      have e48 : (c0.toNat : Int) = 48 := by omega
      have HF : Hid (idxOk d = false) := Lib.hid (idxOk_zero hl1 (by rw [hhd.out, show c0 = 48 from UInt8.toNat_inj.1 h48]))
      go_enter Tryz.func178, Tryz.ntmps178
      go_wp2
      exact bodyPost_ret (v := .tuple #[.int .i64 0, .bool false]) (by simp [results, Tryz.results178, go_sem]) rfl ⟨⟨0, by rw [HF.out], fun h => (by rw [HF.out] at h; cases h)⟩, Below.refl _ _⟩
    have HF : Hid (idxOk d = d.all dig) := Lib.hid (idxOk_rest hne.out (by rintro ⟨h1, h2⟩; rw [hhd.out] at h2; exact hb0 ⟨h1, by cases h2; rfl⟩))
    have HG2 : Hid (∀ (Q : Prop), ((¬ (c0.toNat : Int) = 48) → Q) → ((c0.toNat : Int) = 48 → ¬ 1 < d.length → Q) → Q) := Lib.hid (fun Q h1 h2 => by
      by_cases h : (c0.toNat : Int) = 48
      · exact h2 h (fun h' => hb0 ⟨h', by omega⟩)
      · exact h1 h)
    clear hb0
    have KEY : ∀ (hguard : (¬ (c0.toNat : Int) = 48) ∨ ((c0.toNat : Int) = 48 ∧ ¬ 1 < d.length)), Calls Tryz.prog 178 #[sV d] w fun e w' => (∃ n : Int, e = .returned (.tuple #[.int .i64 n, .bool (idxOk d)]) ∧ (idxOk d = true → n = idxN 0 d)) ∧ Below w.heap.size w w' := by
      intro hguard
      have loop : Hid True := Lib.hid trivial
      rcases hguard with hg1 | ⟨hg1, hg2⟩
      all_goals
        clear HG2 hhd
        have hgq : ((c0.toNat : Int) == 48) = ((c0.toNat : Int) == 48) := rfl
        clear hgq
        go_enter Tryz.func178, Tryz.ntmps178
        go_wp2
        clear hm0 hz
        go_loopw [4] (fun nv w' => ∃ (pos : Nat) (n : Int), w' = w.iter ⟨d.toArray⟩ pos ∧ nv = .int .i64 n ∧ pos ≤ d.length ∧ 0 ≤ n ∧ n ≤ 65 ∧ Hid (IxI d n (d.drop pos)) ∧ Hid (AllTo dig d pos)) (fun _ w' => d.length - w'.iterPos w.heap.size)
        case atStart => exact ⟨0, 0, rfl, rfl, Nat.zero_le _, by omega, by omega, Lib.hid (IxI.start d), Lib.hid (AllTo_zero _ d)⟩
        case round =>
          obtain ⟨pos, n, rfl, rfl, hle, hn0, hn1, HI, HA⟩ := hrel
          by_cases hp : pos < d.length
          · have hps : pos < (⟨d.toArray⟩ : ByteArray).size := hp
            have hnx : ∀ ty, (Instr.next (.pointer (some ⟨w.heap.size, 0, none⟩)) true ty).run Tryz.prog (w.iter ⟨d.toArray⟩ pos) = _ := fun ty => run_next_any w ⟨d.toArray⟩ pos ty hps
            have hmm : ((⟨d.toArray⟩ : ByteArray)[pos]'hps) = d[pos] := rfl
            have h128 := nmByte_low (HAN.out d[pos] (List.getElem_mem hp))
            have hdec := decode_ascii _ pos hps (by rw [hmm]; exact h128)
            rw [hmm] at hdec
            rw [hdec] at hnx
            have HDR : Hid (d.drop pos = d[pos] :: d.drop (pos + 1)) := Lib.hid (List.drop_eq_getElem_cons hp)
            have HC := isDigitI_any (d[pos].toNat : Int) (w.iter ⟨d.toArray⟩ (pos + 1))
            rw [digI_byte] at HC
            clear hmm hdec
            cases hdg : dig d[pos]
            · rw [hdg] at HC
              have HC := Lib.hid HC
              have HDG := Lib.hid hdg
              clear hdg
              generalize d[pos].toNat = m at hnx HC h128
              simp only at hnx
              go_wp2_with fail
              refine HC.out.mono ?_
              rintro e w' ⟨rfl, rfl⟩
              go_wp2
              exact bodyPost_ret (v := .tuple #[.int .i64 0, .bool false]) (by simp [results, Tryz.results178, go_sem]) rfl ⟨⟨0, by rw [HF.out, all_not hp HDG.out], fun h => (by rw [HF.out, all_not hp HDG.out] at h; cases h)⟩, (Below.refl _ _).alloc (Nat.le_refl _) _⟩
            · rw [hdg] at HC
              have HC := Lib.hid HC
              have HDG := Lib.hid hdg
              have h48 : 48 ≤ d[pos].toNat ∧ d[pos].toNat ≤ 57 := by unfold dig at hdg; simpa using hdg
              clear hdg
              have HI2 : Hid (IxI d (min (10 * n + ((d[pos].toNat : Int) - 48)) 65) (d.drop (pos + 1))) := Lib.hid ((HDR.out ▸ HI.out).step HDG.out)
              have HA2 := Lib.hid (AllTo_succ HA.out hp HDG.out)
              clear HDG HDR HI
              generalize d[pos].toNat = m at *
              simp only at hnx
              go_wp2_with fail
              refine HC.out.mono ?_
              rintro e w' ⟨rfl, rfl⟩
              obtain ⟨q, hq⟩ : ∃ q : Int, min (10 * n + ((m : Int) - 48)) 65 = q := ⟨_, rfl⟩
              have hq0 : 0 ≤ q ∧ q ≤ 65 := by omega
              rw [hq] at HI2
              go_wp2
              go_roundw
              case rel => exact ⟨pos + 1, q, rfl, by go_num, hp, hq0.1, hq0.2, HI2, HA2⟩
              case measure => simp; omega
          · have hps : ¬ pos < (⟨d.toArray⟩ : ByteArray).size := hp
            have hnx : ∀ ty, (Instr.next (.pointer (some ⟨w.heap.size, 0, none⟩)) true ty).run Tryz.prog (w.iter ⟨d.toArray⟩ pos) = _ := fun ty => run_next_end w ⟨d.toArray⟩ pos ty hps
            obtain rfl : pos = d.length := by omega
            have HE : Hid (idxOk d = true) := Lib.hid (by rw [HF.out, all_of HA.out])
            have HV : Hid (n = idxN 0 d) := Lib.hid (by have := HI.out.1; rw [List.drop_length] at this; rw [this]; rfl)
            go_wp2
            exact bodyPost_ret (v := .tuple #[.int .i64 n, .bool true]) (by simp [results, Tryz.results178, go_sem]) rfl ⟨⟨n, by rw [HE.out], fun _ => HV.out⟩, (Below.refl _ _).alloc (Nat.le_refl _) _⟩
    exact HG2.out _ (fun h => KEY (Or.inl h)) (fun h h' => KEY (Or.inr ⟨h, h'⟩))
end Go.Proofs.YtjpmnlefjmdelaaGreatDoor
namespace Go.Proofs.YtjpmnlefjmdelaaGreatDoor
open Go.RowKit Go.Sort Go.Proofs.LawFrame

/-- what a reading of a step gives -/
structure QB (rb : Nat) (w : World) (res : Option (S × Str)) (e : Ending) (w' : World) : Prop where
  but : But rb w w'
  ok : ∀ s q, res = some (s, q) → e = .returned (.tuple #[s.val, .bool true]) ∧ Own w' rb [sV q] 124
  no : res = none → ∃ (s : S) (r' : Str), e = .returned (.tuple #[s.val, .bool false]) ∧ Own w' rb [sV r'] 124

set_option maxHeartbeats 8000000 in
set_option maxRecDepth 4000 in
theorem bracketP_any {rb : Nat} {r : Str} {w : World} (hl : r.length ≤ 100000) (o : Own w rb [sV r] 124) : Calls Tryz.prog 148 #[.pointer (some ⟨rb, 0, none⟩)] w (QB rb w (brkP r)) := by
  have hpb := o.lt
  have hb0 := below_alloc w (.cells #[.int .i64 0, .string ⟨#[]⟩, .int .i64 0, .string ⟨#[]⟩] 52)
  have oR0 := Own.new w [.int .i64 0, .string ⟨#[]⟩, .int .i64 0, .string ⟨#[]⟩] 52
  have HS0 := Lib.hid (And.intro (But.allow (b := rb) hb0) (And.intro oR0 (o.all hb0)))
  clear hb0 oR0 o
  have HAN : Hid ((r.takeWhile nmByte).all nmByte = true) := Lib.hid tw_mem
  have hbl : (r.dropWhile nmByte).length ≤ 100000 := by have := dw_len r; omega
  have HBR : Hid (brkP r = brkN (r.takeWhile nmByte) (r.dropWhile nmByte)) := Lib.hid rfl
  have HNM := Lib.hid (fun (w : World) (o : Own w rb [sV r] 124) => nameR_any o)
  generalize r.takeWhile nmByte = a at *
  generalize r.dropWhile nmByte = b at *
  clear hl
  go_enter Tryz.func148, Tryz.ntmps148
  go_upto_region 1 with (fail)
  change Code.wp Tryz.prog _ _ _ (w.alloc (.cells #[.int .i64 0, .string ⟨#[]⟩, .int .i64 0, .string ⟨#[]⟩] 52))
  generalize w.alloc (.cells #[.int .i64 0, .string ⟨#[]⟩, .int .i64 0, .string ⟨#[]⟩] 52) = w0 at *
  have C := Lib.hid (HNM.out _ HS0.out.2.2)
  go_wp2_with fail
  refine C.out.mono ?_
  rintro e w1 ⟨rfl, hb1, o1⟩
  clear C
  have HS1 := Lib.hid (And.intro (HS0.out.1.trans hb1) (And.intro (Own.but HS0.out.2.1 hb1 (by omega)) o1))
  clear hb1 o1 HS0
  cases hc : cutP [93] b with
  | some q =>
    have HC := Lib.hid hc
    clear hc
    have C := Lib.hid (accept_yes (u := [93]) HS1.out.2.2 HC.out)
    go_wp2_with fail
    refine C.out.mono ?_
    rintro e w2 ⟨rfl, hb2, o2⟩
    clear C
    have HS2 := Lib.hid (And.intro (HS1.out.1.trans hb2) (And.intro (Own.but HS1.out.2.1 hb2 (by omega)) o2))
    clear hb2 o2 HS1
    have C := Lib.hid (parseIndex_any a w2 HAN.out)
    go_wp2_with fail
    refine C.out.mono ?_
    rintro e w3 ⟨⟨n, rfl, hn⟩, hb3⟩
    clear C
    have HS3 := Lib.hid (And.intro (HS2.out.1.all hb3) (And.intro (HS2.out.2.1.all hb3) (HS2.out.2.2.all hb3)))
    clear hb3 HS2
    cases hi : idxOk a
    · have HF : Hid (brkP r = none) := Lib.hid (by rw [HBR.out]; unfold brkN; rw [HC.out]; simp [hi])
      clear hn hi
      have oR := HS3.out.2.1
      have q0 := oR.cell (i := 0) rfl
      have q1 := oR.cell (i := 1) rfl
      have q2 := oR.cell (i := 2) rfl
      have q3 := oR.cell (i := 3) rfl
      have g0 := oR.frozen 0
      have g1 := oR.frozen 1
      have g2 := oR.frozen 2
      have g3 := oR.frozen 3
      have HU := Lib.hid (And.intro (own_put4 oR (.int .i64 2) (.string ⟨#[]⟩) (.int .i64 n) (.string ⟨#[]⟩)) (And.intro (HS3.out.1.put4 (Nat.le_refl w.heap.size) (.int .i64 2) (.string ⟨#[]⟩) (.int .i64 n) (.string ⟨#[]⟩)) (Own.put4 (c := w.heap.size) HS3.out.2.2 (by omega) (.int .i64 2) (.string ⟨#[]⟩) (.int .i64 n) (.string ⟨#[]⟩))))
      clear oR
      go_wp2
      clear q0 q1 q2 q3 g0 g1 g2 g3
      change bodyPost Tryz.prog Tryz.f148 _ _ _ (put4 w3 w.heap.size (.int .i64 2) (.string ⟨#[]⟩) (.int .i64 n) (.string ⟨#[]⟩))
      generalize put4 w3 w.heap.size (.int .i64 2) (.string ⟨#[]⟩) (.int .i64 n) (.string ⟨#[]⟩) = U at *
      have c0 := HU.out.1.cell (i := 0) rfl
      have c1 := HU.out.1.cell (i := 1) rfl
      have c2 := HU.out.1.cell (i := 2) rfl
      have c3 := HU.out.1.cell (i := 3) rfl
      exact bodyPost_ret (v := .tuple #[.agg #[.int .i64 2, .string ⟨#[]⟩, .int .i64 n, .string ⟨#[]⟩], .bool false]) (by simp [results, Tryz.results148, go_sem, c0, c1, c2, c3]) rfl ⟨HU.out.2.1, fun s' q' h => (by rw [HF.out] at h; cases h), fun _ => ⟨⟨2, [], n, []⟩, _, rfl, HU.out.2.2⟩⟩
    · have HF : Hid (brkP r = some (⟨2, [], n, []⟩, q)) := Lib.hid (by rw [HBR.out]; unfold brkN; rw [HC.out]; simp [hi, hn hi])
      clear hn hi
      have oR := HS3.out.2.1
      have q0 := oR.cell (i := 0) rfl
      have q1 := oR.cell (i := 1) rfl
      have q2 := oR.cell (i := 2) rfl
      have q3 := oR.cell (i := 3) rfl
      have g0 := oR.frozen 0
      have g1 := oR.frozen 1
      have g2 := oR.frozen 2
      have g3 := oR.frozen 3
      have HU := Lib.hid (And.intro (own_put4 oR (.int .i64 2) (.string ⟨#[]⟩) (.int .i64 n) (.string ⟨#[]⟩)) (And.intro (HS3.out.1.put4 (Nat.le_refl w.heap.size) (.int .i64 2) (.string ⟨#[]⟩) (.int .i64 n) (.string ⟨#[]⟩)) (Own.put4 (c := w.heap.size) HS3.out.2.2 (by omega) (.int .i64 2) (.string ⟨#[]⟩) (.int .i64 n) (.string ⟨#[]⟩))))
      clear oR
      go_wp2
      clear q0 q1 q2 q3 g0 g1 g2 g3
      change bodyPost Tryz.prog Tryz.f148 _ _ _ (put4 w3 w.heap.size (.int .i64 2) (.string ⟨#[]⟩) (.int .i64 n) (.string ⟨#[]⟩))
      generalize put4 w3 w.heap.size (.int .i64 2) (.string ⟨#[]⟩) (.int .i64 n) (.string ⟨#[]⟩) = U at *
      have c0 := HU.out.1.cell (i := 0) rfl
      have c1 := HU.out.1.cell (i := 1) rfl
      have c2 := HU.out.1.cell (i := 2) rfl
      have c3 := HU.out.1.cell (i := 3) rfl
      exact bodyPost_ret (v := .tuple #[.agg #[.int .i64 2, .string ⟨#[]⟩, .int .i64 n, .string ⟨#[]⟩], .bool true]) (by simp [results, Tryz.results148, go_sem, c0, c1, c2, c3]) rfl ⟨HU.out.2.1, fun s' q' h => (by rw [HF.out] at h; cases h; exact ⟨rfl, HU.out.2.2⟩), fun h => (by rw [HF.out] at h; cases h)⟩
  | none =>
    have HC := Lib.hid hc
    clear hc
    have C := Lib.hid (accept_no (u := [93]) HS1.out.2.2 HC.out)
    go_wp2_with fail
    refine C.out.mono ?_
    rintro e w2 ⟨rfl, hb2, o2⟩
    clear C
    have HS2 := Lib.hid (And.intro (HS1.out.1.trans hb2) (And.intro (Own.but HS1.out.2.1 hb2 (by omega)) o2))
    clear hb2 o2 HS1
    by_cases ha : a = []
    · have HF : Hid (brkP r = none) := Lib.hid (by rw [HBR.out]; unfold brkN; rw [HC.out]; simp [ha])
      have hz : a.isEmpty = true := by rw [ha]; rfl
      clear ha
      have oR := HS2.out.2.1
      have q0 := oR.cell (i := 0) rfl
      have q1 := oR.cell (i := 1) rfl
      have q2 := oR.cell (i := 2) rfl
      have q3 := oR.cell (i := 3) rfl
      have g0 := oR.frozen 0
      have g1 := oR.frozen 1
      have g2 := oR.frozen 2
      have g3 := oR.frozen 3
      have HU := Lib.hid (And.intro (own_put4 oR (.int .i64 0) (.string ⟨#[]⟩) (.int .i64 0) (.string ⟨#[]⟩)) (And.intro (HS2.out.1.put4 (Nat.le_refl w.heap.size) (.int .i64 0) (.string ⟨#[]⟩) (.int .i64 0) (.string ⟨#[]⟩)) (Own.put4 (c := w.heap.size) HS2.out.2.2 (by omega) (.int .i64 0) (.string ⟨#[]⟩) (.int .i64 0) (.string ⟨#[]⟩))))
      clear oR
      go_wp2
      clear q0 q1 q2 q3 g0 g1 g2 g3
      change bodyPost Tryz.prog Tryz.f148 _ _ _ (put4 w2 w.heap.size (.int .i64 0) (.string ⟨#[]⟩) (.int .i64 0) (.string ⟨#[]⟩))
      generalize put4 w2 w.heap.size (.int .i64 0) (.string ⟨#[]⟩) (.int .i64 0) (.string ⟨#[]⟩) = U at *
      have c0 := HU.out.1.cell (i := 0) rfl
      have c1 := HU.out.1.cell (i := 1) rfl
      have c2 := HU.out.1.cell (i := 2) rfl
      have c3 := HU.out.1.cell (i := 3) rfl
      exact bodyPost_ret (v := .tuple #[.agg #[.int .i64 0, .string ⟨#[]⟩, .int .i64 0, .string ⟨#[]⟩], .bool false]) (by simp [results, Tryz.results148, go_sem, c0, c1, c2, c3]) rfl ⟨HU.out.2.1, fun s' q' h => (by rw [HF.out] at h; cases h), fun _ => ⟨⟨0, [], 0, []⟩, _, rfl, HU.out.2.2⟩⟩
    have HF0 : Hid (brkP r = keyP a b) := Lib.hid (by rw [HBR.out]; unfold brkN; rw [HC.out]; simp [ha])
    have hz : a.isEmpty = false := by cases a with | nil => exact absurd rfl ha | cons c a => rfl
    clear ha
    cases hc : cutP [61, 34] b with
    | none =>
      have HC2 := Lib.hid hc
      clear hc
      have HF : Hid (brkP r = none) := Lib.hid (by rw [HF0.out]; unfold keyP; rw [HC2.out])
      have C := Lib.hid (accept_no (u := [61, 34]) HS2.out.2.2 HC2.out)
      go_wp2_with fail
      refine C.out.mono ?_
      rintro e w3 ⟨rfl, hb3, o3⟩
      clear C
      have HS3 := Lib.hid (And.intro (HS2.out.1.trans hb3) (And.intro (Own.but HS2.out.2.1 hb3 (by omega)) o3))
      clear hb3 o3 HS2
      have oR := HS3.out.2.1
      have q0 := oR.cell (i := 0) rfl
      have q1 := oR.cell (i := 1) rfl
      have q2 := oR.cell (i := 2) rfl
      have q3 := oR.cell (i := 3) rfl
      have g0 := oR.frozen 0
      have g1 := oR.frozen 1
      have g2 := oR.frozen 2
      have g3 := oR.frozen 3
      have HU := Lib.hid (And.intro (own_put4 oR (.int .i64 0) (.string ⟨#[]⟩) (.int .i64 0) (.string ⟨#[]⟩)) (And.intro (HS3.out.1.put4 (Nat.le_refl w.heap.size) (.int .i64 0) (.string ⟨#[]⟩) (.int .i64 0) (.string ⟨#[]⟩)) (Own.put4 (c := w.heap.size) HS3.out.2.2 (by omega) (.int .i64 0) (.string ⟨#[]⟩) (.int .i64 0) (.string ⟨#[]⟩))))
      clear oR
      go_wp2
      clear q0 q1 q2 q3 g0 g1 g2 g3
      change bodyPost Tryz.prog Tryz.f148 _ _ _ (put4 w3 w.heap.size (.int .i64 0) (.string ⟨#[]⟩) (.int .i64 0) (.string ⟨#[]⟩))
      generalize put4 w3 w.heap.size (.int .i64 0) (.string ⟨#[]⟩) (.int .i64 0) (.string ⟨#[]⟩) = U at *
      have c0 := HU.out.1.cell (i := 0) rfl
      have c1 := HU.out.1.cell (i := 1) rfl
      have c2 := HU.out.1.cell (i := 2) rfl
      have c3 := HU.out.1.cell (i := 3) rfl
      exact bodyPost_ret (v := .tuple #[.agg #[.int .i64 0, .string ⟨#[]⟩, .int .i64 0, .string ⟨#[]⟩], .bool false]) (by simp [results, Tryz.results148, go_sem, c0, c1, c2, c3]) rfl ⟨HU.out.2.1, fun s' q' h => (by rw [HF.out] at h; cases h), fun _ => ⟨⟨0, [], 0, []⟩, _, rfl, HU.out.2.2⟩⟩
    | some q =>
      have HC2 := Lib.hid hc
      have hql : q.length ≤ 100000 := by have := cutP_len hc; omega
      clear hc
      have C := Lib.hid (accept_yes (u := [61, 34]) HS2.out.2.2 HC2.out)
      go_wp2_with fail
      refine C.out.mono ?_
      rintro e w3 ⟨rfl, hb3, o3⟩
      clear C
      have HS3 := Lib.hid (And.intro (HS2.out.1.trans hb3) (And.intro (Own.but HS2.out.2.1 hb3 (by omega)) o3))
      clear hb3 o3 HS2
      have C := Lib.hid (quotedP_any hql HS3.out.2.2)
      go_wp2_with fail
      refine C.out.mono ?_
      rintro e w4 hres
      clear C
      cases hq : quoP q with
      | none =>
        obtain ⟨v, r', rfl, o4⟩ := hres.no hq
        have HS4 := Lib.hid (And.intro (HS3.out.1.trans hres.but) (And.intro (Own.but HS3.out.2.1 hres.but (by omega)) o4))
        have HF : Hid (brkP r = none) := Lib.hid (by rw [HF0.out]; unfold keyP; rw [HC2.out]; simp only [hq])
        clear hres o4 HS3 hq
        have oR := HS4.out.2.1
        have q0 := oR.cell (i := 0) rfl
        have q1 := oR.cell (i := 1) rfl
        have q2 := oR.cell (i := 2) rfl
        have q3 := oR.cell (i := 3) rfl
        have g0 := oR.frozen 0
        have g1 := oR.frozen 1
        have g2 := oR.frozen 2
        have g3 := oR.frozen 3
        have HU := Lib.hid (And.intro (own_put4 oR (.int .i64 3) (sV a) (.int .i64 0) (sV v)) (And.intro (HS4.out.1.put4 (Nat.le_refl w.heap.size) (.int .i64 3) (sV a) (.int .i64 0) (sV v)) (Own.put4 (c := w.heap.size) HS4.out.2.2 (by omega) (.int .i64 3) (sV a) (.int .i64 0) (sV v))))
        clear oR
        go_wp2
        clear q0 q1 q2 q3 g0 g1 g2 g3
        change bodyPost Tryz.prog Tryz.f148 _ _ _ (put4 w4 w.heap.size (.int .i64 3) (sV a) (.int .i64 0) (sV v))
        generalize put4 w4 w.heap.size (.int .i64 3) (sV a) (.int .i64 0) (sV v) = U at *
        have c0 := HU.out.1.cell (i := 0) rfl
        have c1 := HU.out.1.cell (i := 1) rfl
        have c2 := HU.out.1.cell (i := 2) rfl
        have c3 := HU.out.1.cell (i := 3) rfl
        exact bodyPost_ret (v := .tuple #[.agg #[.int .i64 3, sV a, .int .i64 0, sV v], .bool false]) (by simp [results, Tryz.results148, go_sem, c0, c1, c2, c3]) rfl ⟨HU.out.2.1, fun s' q' h => (by rw [HF.out] at h; cases h), fun _ => ⟨⟨3, a, 0, v⟩, _, rfl, HU.out.2.2⟩⟩
      | some p =>
        obtain ⟨v, q2⟩ := p
        obtain ⟨rfl, o4⟩ := hres.ok v q2 hq
        have HS4 := Lib.hid (And.intro (HS3.out.1.trans hres.but) (And.intro (Own.but HS3.out.2.1 hres.but (by omega)) o4))
        have HQ := Lib.hid hq
        clear hres o4 HS3 hq
        cases hc : cutP [93] q2 with
        | none =>
          have HC3 := Lib.hid hc
          clear hc
          have HF : Hid (brkP r = none) := Lib.hid (by rw [HF0.out]; unfold keyP; rw [HC2.out]; simp only [HQ.out, HC3.out])
          have C := Lib.hid (accept_no (u := [93]) HS4.out.2.2 HC3.out)
          go_wp2_with fail
          refine C.out.mono ?_
          rintro e w5 ⟨rfl, hb5, o5⟩
          clear C
          have HS5 := Lib.hid (And.intro (HS4.out.1.trans hb5) (And.intro (Own.but HS4.out.2.1 hb5 (by omega)) o5))
          clear hb5 o5 HS4
          have oR := HS5.out.2.1
          have q0 := oR.cell (i := 0) rfl
          have q1 := oR.cell (i := 1) rfl
          have q2 := oR.cell (i := 2) rfl
          have q3 := oR.cell (i := 3) rfl
          have g0 := oR.frozen 0
          have g1 := oR.frozen 1
          have g2 := oR.frozen 2
          have g3 := oR.frozen 3
          have HU := Lib.hid (And.intro (own_put4 oR (.int .i64 3) (sV a) (.int .i64 0) (sV v)) (And.intro (HS5.out.1.put4 (Nat.le_refl w.heap.size) (.int .i64 3) (sV a) (.int .i64 0) (sV v)) (Own.put4 (c := w.heap.size) HS5.out.2.2 (by omega) (.int .i64 3) (sV a) (.int .i64 0) (sV v))))
          clear oR
          go_wp2
          clear q0 q1 q2 q3 g0 g1 g2 g3
          change bodyPost Tryz.prog Tryz.f148 _ _ _ (put4 w5 w.heap.size (.int .i64 3) (sV a) (.int .i64 0) (sV v))
          generalize put4 w5 w.heap.size (.int .i64 3) (sV a) (.int .i64 0) (sV v) = U at *
          have c0 := HU.out.1.cell (i := 0) rfl
          have c1 := HU.out.1.cell (i := 1) rfl
          have c2 := HU.out.1.cell (i := 2) rfl
          have c3 := HU.out.1.cell (i := 3) rfl
          exact bodyPost_ret (v := .tuple #[.agg #[.int .i64 3, sV a, .int .i64 0, sV v], .bool false]) (by simp [results, Tryz.results148, go_sem, c0, c1, c2, c3]) rfl ⟨HU.out.2.1, fun s' q' h => (by rw [HF.out] at h; cases h), fun _ => ⟨⟨3, a, 0, v⟩, _, rfl, HU.out.2.2⟩⟩
        | some q3 =>
          have HC3 := Lib.hid hc
          clear hc
          have HF : Hid (brkP r = some (⟨3, a, 0, v⟩, q3)) := Lib.hid (by rw [HF0.out]; unfold keyP; rw [HC2.out]; simp only [HQ.out, HC3.out])
          have C := Lib.hid (accept_yes (u := [93]) HS4.out.2.2 HC3.out)
          go_wp2_with fail
          refine C.out.mono ?_
          rintro e w5 ⟨rfl, hb5, o5⟩
          clear C
          have HS5 := Lib.hid (And.intro (HS4.out.1.trans hb5) (And.intro (Own.but HS4.out.2.1 hb5 (by omega)) o5))
          clear hb5 o5 HS4
          have oR := HS5.out.2.1
          have q0 := oR.cell (i := 0) rfl
          have q1 := oR.cell (i := 1) rfl
          have q2 := oR.cell (i := 2) rfl
          have q3 := oR.cell (i := 3) rfl
          have g0 := oR.frozen 0
          have g1 := oR.frozen 1
          have g2 := oR.frozen 2
          have g3 := oR.frozen 3
          have HU := Lib.hid (And.intro (own_put4 oR (.int .i64 3) (sV a) (.int .i64 0) (sV v)) (And.intro (HS5.out.1.put4 (Nat.le_refl w.heap.size) (.int .i64 3) (sV a) (.int .i64 0) (sV v)) (Own.put4 (c := w.heap.size) HS5.out.2.2 (by omega) (.int .i64 3) (sV a) (.int .i64 0) (sV v))))
          clear oR
          go_wp2
          clear q0 q1 q2 q3 g0 g1 g2 g3
          change bodyPost Tryz.prog Tryz.f148 _ _ _ (put4 w5 w.heap.size (.int .i64 3) (sV a) (.int .i64 0) (sV v))
          generalize put4 w5 w.heap.size (.int .i64 3) (sV a) (.int .i64 0) (sV v) = U at *
          have c0 := HU.out.1.cell (i := 0) rfl
          have c1 := HU.out.1.cell (i := 1) rfl
          have c2 := HU.out.1.cell (i := 2) rfl
          have c3 := HU.out.1.cell (i := 3) rfl
          exact bodyPost_ret (v := .tuple #[.agg #[.int .i64 3, sV a, .int .i64 0, sV v], .bool true]) (by simp [results, Tryz.results148, go_sem, c0, c1, c2, c3]) rfl ⟨HU.out.2.1, fun s' q' h => (by rw [HF.out] at h; cases h; exact ⟨rfl, HU.out.2.2⟩), fun h => (by rw [HF.out] at h; cases h)⟩
end Go.Proofs.YtjpmnlefjmdelaaGreatDoor
namespace Go.Proofs.YtjpmnlefjmdelaaGreatDoor
open Go.RowKit Go.Sort Go.Proofs.LawFrame

set_option maxHeartbeats 8000000 in
set_option maxRecDepth 4000 in
theorem stepP_any {rb : Nat} {r : Str} {w : World} (first : Bool) (hl : r.length ≤ 100000) (o : Own w rb [sV r] 124) : Calls Tryz.prog 109 #[.pointer (some ⟨rb, 0, none⟩), .bool first] w (QB rb w (stpP first r)) := by
  have hpb := o.lt
  have hb0 := below_alloc w (.cells #[.int .i64 0, .string ⟨#[]⟩, .int .i64 0, .string ⟨#[]⟩] 52)
  have oR0 := Own.new w [.int .i64 0, .string ⟨#[]⟩, .int .i64 0, .string ⟨#[]⟩] 52
  have HS0 := Lib.hid (And.intro (But.allow (b := rb) hb0) (And.intro oR0 (o.all hb0)))
  clear hb0 oR0 o
  go_enter Tryz.func109, Tryz.ntmps109
  go_upto_region 1 with (fail)
  change Code.wp Tryz.prog _ _ _ (w.alloc (.cells #[.int .i64 0, .string ⟨#[]⟩, .int .i64 0, .string ⟨#[]⟩] 52))
  generalize w.alloc (.cells #[.int .i64 0, .string ⟨#[]⟩, .int .i64 0, .string ⟨#[]⟩] 52) = w0 at *
  cases hc : cutP [91] r with
  | some q =>
    have HC := Lib.hid hc
    have hql : q.length ≤ 100000 := by have := cutP_len hc; omega
    have HF0 : Hid (stpP first r = brkP q) := Lib.hid (by unfold stpP; rw [hc])
    clear hc
    have C := Lib.hid (accept_yes (u := [91]) HS0.out.2.2 HC.out)
    go_wp2_with fail
    refine C.out.mono ?_
    rintro e w1 ⟨rfl, hb1, o1⟩
    clear C
    have HS1 := Lib.hid (And.intro (HS0.out.1.trans hb1) (And.intro (Own.but HS0.out.2.1 hb1 (by omega)) o1))
    clear hb1 o1 HS0
    have C := Lib.hid (bracketP_any hql HS1.out.2.2)
    go_wp2_with fail
    refine C.out.mono ?_
    rintro e w2 hres
    clear C
    cases hq : brkP q with
    | none =>
      obtain ⟨⟨sk, sn, si, sv⟩, r', rfl, o4⟩ := hres.no hq
      have HS4 := Lib.hid (And.intro (HS1.out.1.trans hres.but) (And.intro (Own.but HS1.out.2.1 hres.but (by omega)) o4))
      have HF : Hid (stpP first r = none) := Lib.hid (by rw [HF0.out, hq])
      clear hres o4 HS1 hq
      have oR := HS4.out.2.1
      have q0 := oR.cell (i := 0) rfl
      have q1 := oR.cell (i := 1) rfl
      have q2 := oR.cell (i := 2) rfl
      have q3 := oR.cell (i := 3) rfl
      have g0 := oR.frozen 0
      have g1 := oR.frozen 1
      have g2 := oR.frozen 2
      have g3 := oR.frozen 3
      have HU := Lib.hid (And.intro (own_put4 oR (.int .i64 sk) (sV sn) (.int .i64 si) (sV sv)) (And.intro (HS4.out.1.put4 (Nat.le_refl w.heap.size) (.int .i64 sk) (sV sn) (.int .i64 si) (sV sv)) (Own.put4 (c := w.heap.size) HS4.out.2.2 (by omega) (.int .i64 sk) (sV sn) (.int .i64 si) (sV sv))))
      clear oR
      go_wp2
      clear q0 q1 q2 q3 g0 g1 g2 g3
      change bodyPost Tryz.prog Tryz.f109 _ _ _ (put4 w2 w.heap.size (.int .i64 sk) (sV sn) (.int .i64 si) (sV sv))
      generalize put4 w2 w.heap.size (.int .i64 sk) (sV sn) (.int .i64 si) (sV sv) = U at *
      have c0 := HU.out.1.cell (i := 0) rfl
      have c1 := HU.out.1.cell (i := 1) rfl
      have c2 := HU.out.1.cell (i := 2) rfl
      have c3 := HU.out.1.cell (i := 3) rfl
      exact bodyPost_ret (v := .tuple #[.agg #[.int .i64 sk, sV sn, .int .i64 si, sV sv], .bool false]) (by simp [results, Tryz.results109, go_sem, c0, c1, c2, c3]) rfl ⟨HU.out.2.1, fun s' q' h => (by rw [HF.out] at h; cases h), fun _ => ⟨⟨sk, sn, si, sv⟩, _, rfl, HU.out.2.2⟩⟩
    | some p =>
      obtain ⟨⟨sk, sn, si, sv⟩, q2⟩ := p
      obtain ⟨rfl, o4⟩ := hres.ok _ q2 hq
      have HS4 := Lib.hid (And.intro (HS1.out.1.trans hres.but) (And.intro (Own.but HS1.out.2.1 hres.but (by omega)) o4))
      have HF : Hid (stpP first r = some (⟨sk, sn, si, sv⟩, q2)) := Lib.hid (by rw [HF0.out, hq])
      clear hres o4 HS1 hq
      have oR := HS4.out.2.1
      have q0 := oR.cell (i := 0) rfl
      have q1 := oR.cell (i := 1) rfl
      have q2 := oR.cell (i := 2) rfl
      have q3 := oR.cell (i := 3) rfl
      have g0 := oR.frozen 0
      have g1 := oR.frozen 1
      have g2 := oR.frozen 2
      have g3 := oR.frozen 3
      have HU := Lib.hid (And.intro (own_put4 oR (.int .i64 sk) (sV sn) (.int .i64 si) (sV sv)) (And.intro (HS4.out.1.put4 (Nat.le_refl w.heap.size) (.int .i64 sk) (sV sn) (.int .i64 si) (sV sv)) (Own.put4 (c := w.heap.size) HS4.out.2.2 (by omega) (.int .i64 sk) (sV sn) (.int .i64 si) (sV sv))))
      clear oR
      go_wp2
      clear q0 q1 q2 q3 g0 g1 g2 g3
      change bodyPost Tryz.prog Tryz.f109 _ _ _ (put4 w2 w.heap.size (.int .i64 sk) (sV sn) (.int .i64 si) (sV sv))
      generalize put4 w2 w.heap.size (.int .i64 sk) (sV sn) (.int .i64 si) (sV sv) = U at *
      have c0 := HU.out.1.cell (i := 0) rfl
      have c1 := HU.out.1.cell (i := 1) rfl
      have c2 := HU.out.1.cell (i := 2) rfl
      have c3 := HU.out.1.cell (i := 3) rfl
      exact bodyPost_ret (v := .tuple #[.agg #[.int .i64 sk, sV sn, .int .i64 si, sV sv], .bool true]) (by simp [results, Tryz.results109, go_sem, c0, c1, c2, c3]) rfl ⟨HU.out.2.1, fun s' q' h => (by rw [HF.out] at h; cases h; exact ⟨rfl, HU.out.2.2⟩), fun h => (by rw [HF.out] at h; cases h)⟩
  | none =>
    have HC := Lib.hid hc
    have HF1 : Hid (stpP first r = if first then fldP r else match cutP [46] r with
      | some q => fldP q
      | none => none) := Lib.hid (by unfold stpP; rw [hc]; rfl)
    clear hc
    have C := Lib.hid (accept_no (u := [91]) HS0.out.2.2 HC.out)
    go_wp2_with fail
    refine C.out.mono ?_
    rintro e w1 ⟨rfl, hb1, o1⟩
    clear C
    have HS1 := Lib.hid (And.intro (HS0.out.1.trans hb1) (And.intro (Own.but HS0.out.2.1 hb1 (by omega)) o1))
    clear hb1 o1 HS0
    cases first with
    | true =>
      have HF0 : Hid (stpP true r = fldP r) := Lib.hid (by rw [HF1.out]; rfl)
      clear HF1
      have C := Lib.hid (nameR_any HS1.out.2.2)
      go_wp2_with fail
      refine C.out.mono ?_
      rintro e w2 ⟨rfl, hb2, o2⟩
      clear C
      have HS2 := Lib.hid (And.intro (HS1.out.1.trans hb2) (And.intro (Own.but HS1.out.2.1 hb2 (by omega)) o2))
      clear hb2 o2 HS1
      unfold fldP at HF0
      generalize (r).takeWhile nmByte = a at *
      generalize (r).dropWhile nmByte = b at *
      by_cases ha : a = []
      · have HF : Hid (stpP true r = none) := Lib.hid (by rw [HF0.out, if_pos ha])
        have hz : a.isEmpty = true := by rw [ha]; rfl
        clear ha HF0
        have oR := HS2.out.2.1
        have q0 := oR.cell (i := 0) rfl
        have q1 := oR.cell (i := 1) rfl
        have q2 := oR.cell (i := 2) rfl
        have q3 := oR.cell (i := 3) rfl
        have g0 := oR.frozen 0
        have g1 := oR.frozen 1
        have g2 := oR.frozen 2
        have g3 := oR.frozen 3
        have HU := Lib.hid (And.intro (own_put4 oR (.int .i64 1) (sV a) (.int .i64 0) (.string ⟨#[]⟩)) (And.intro (HS2.out.1.put4 (Nat.le_refl w.heap.size) (.int .i64 1) (sV a) (.int .i64 0) (.string ⟨#[]⟩)) (Own.put4 (c := w.heap.size) HS2.out.2.2 (by omega) (.int .i64 1) (sV a) (.int .i64 0) (.string ⟨#[]⟩))))
        clear oR
        go_wp2
        clear q0 q1 q2 q3 g0 g1 g2 g3
        change bodyPost Tryz.prog Tryz.f109 _ _ _ (put4 w2 w.heap.size (.int .i64 1) (sV a) (.int .i64 0) (.string ⟨#[]⟩))
        generalize put4 w2 w.heap.size (.int .i64 1) (sV a) (.int .i64 0) (.string ⟨#[]⟩) = U at *
        have c0 := HU.out.1.cell (i := 0) rfl
        have c1 := HU.out.1.cell (i := 1) rfl
        have c2 := HU.out.1.cell (i := 2) rfl
        have c3 := HU.out.1.cell (i := 3) rfl
        exact bodyPost_ret (v := .tuple #[.agg #[.int .i64 1, sV a, .int .i64 0, .string ⟨#[]⟩], .bool false]) (by simp [results, Tryz.results109, go_sem, c0, c1, c2, c3]) rfl ⟨HU.out.2.1, fun s' q' h => (by rw [HF.out] at h; cases h), fun _ => ⟨⟨1, a, 0, []⟩, _, rfl, HU.out.2.2⟩⟩
      · have HF : Hid (stpP true r = some (⟨1, a, 0, []⟩, b)) := Lib.hid (by rw [HF0.out, if_neg ha])
        have hz : a.isEmpty = false := by cases a with | nil => exact absurd rfl ha | cons c a => rfl
        clear ha HF0
        have oR := HS2.out.2.1
        have q0 := oR.cell (i := 0) rfl
        have q1 := oR.cell (i := 1) rfl
        have q2 := oR.cell (i := 2) rfl
        have q3 := oR.cell (i := 3) rfl
        have g0 := oR.frozen 0
        have g1 := oR.frozen 1
        have g2 := oR.frozen 2
        have g3 := oR.frozen 3
        have HU := Lib.hid (And.intro (own_put4 oR (.int .i64 1) (sV a) (.int .i64 0) (.string ⟨#[]⟩)) (And.intro (HS2.out.1.put4 (Nat.le_refl w.heap.size) (.int .i64 1) (sV a) (.int .i64 0) (.string ⟨#[]⟩)) (Own.put4 (c := w.heap.size) HS2.out.2.2 (by omega) (.int .i64 1) (sV a) (.int .i64 0) (.string ⟨#[]⟩))))
        clear oR
        go_wp2
        clear q0 q1 q2 q3 g0 g1 g2 g3
        change bodyPost Tryz.prog Tryz.f109 _ _ _ (put4 w2 w.heap.size (.int .i64 1) (sV a) (.int .i64 0) (.string ⟨#[]⟩))
        generalize put4 w2 w.heap.size (.int .i64 1) (sV a) (.int .i64 0) (.string ⟨#[]⟩) = U at *
        have c0 := HU.out.1.cell (i := 0) rfl
        have c1 := HU.out.1.cell (i := 1) rfl
        have c2 := HU.out.1.cell (i := 2) rfl
        have c3 := HU.out.1.cell (i := 3) rfl
        exact bodyPost_ret (v := .tuple #[.agg #[.int .i64 1, sV a, .int .i64 0, .string ⟨#[]⟩], .bool true]) (by simp [results, Tryz.results109, go_sem, c0, c1, c2, c3]) rfl ⟨HU.out.2.1, fun s' q' h => (by rw [HF.out] at h; cases h; exact ⟨rfl, HU.out.2.2⟩), fun h => (by rw [HF.out] at h; cases h)⟩
    | false =>
      cases hc : cutP [46] r with
      | none =>
        have HC2 := Lib.hid hc
        have HF : Hid (stpP false r = none) := Lib.hid (by rw [HF1.out, hc]; rfl)
        clear hc HF1
        have C := Lib.hid (accept_no (u := [46]) HS1.out.2.2 HC2.out)
        go_wp2_with fail
        refine C.out.mono ?_
        rintro e w2 ⟨rfl, hb2, o2⟩
        clear C
        have HS2 := Lib.hid (And.intro (HS1.out.1.trans hb2) (And.intro (Own.but HS1.out.2.1 hb2 (by omega)) o2))
        clear hb2 o2 HS1
        have oR := HS2.out.2.1
        have q0 := oR.cell (i := 0) rfl
        have q1 := oR.cell (i := 1) rfl
        have q2 := oR.cell (i := 2) rfl
        have q3 := oR.cell (i := 3) rfl
        have g0 := oR.frozen 0
        have g1 := oR.frozen 1
        have g2 := oR.frozen 2
        have g3 := oR.frozen 3
        have HU := Lib.hid (And.intro (own_put4 oR (.int .i64 0) (.string ⟨#[]⟩) (.int .i64 0) (.string ⟨#[]⟩)) (And.intro (HS2.out.1.put4 (Nat.le_refl w.heap.size) (.int .i64 0) (.string ⟨#[]⟩) (.int .i64 0) (.string ⟨#[]⟩)) (Own.put4 (c := w.heap.size) HS2.out.2.2 (by omega) (.int .i64 0) (.string ⟨#[]⟩) (.int .i64 0) (.string ⟨#[]⟩))))
        clear oR
        go_wp2
        clear q0 q1 q2 q3 g0 g1 g2 g3
        change bodyPost Tryz.prog Tryz.f109 _ _ _ (put4 w2 w.heap.size (.int .i64 0) (.string ⟨#[]⟩) (.int .i64 0) (.string ⟨#[]⟩))
        generalize put4 w2 w.heap.size (.int .i64 0) (.string ⟨#[]⟩) (.int .i64 0) (.string ⟨#[]⟩) = U at *
        have c0 := HU.out.1.cell (i := 0) rfl
        have c1 := HU.out.1.cell (i := 1) rfl
        have c2 := HU.out.1.cell (i := 2) rfl
        have c3 := HU.out.1.cell (i := 3) rfl
        exact bodyPost_ret (v := .tuple #[.agg #[.int .i64 0, .string ⟨#[]⟩, .int .i64 0, .string ⟨#[]⟩], .bool false]) (by simp [results, Tryz.results109, go_sem, c0, c1, c2, c3]) rfl ⟨HU.out.2.1, fun s' q' h => (by rw [HF.out] at h; cases h), fun _ => ⟨⟨0, [], 0, []⟩, _, rfl, HU.out.2.2⟩⟩
      | some q =>
        have HC2 := Lib.hid hc
        have HF0 : Hid (stpP false r = fldP q) := Lib.hid (by rw [HF1.out, hc]; rfl)
        clear hc HF1
        have C := Lib.hid (accept_yes (u := [46]) HS1.out.2.2 HC2.out)
        go_wp2_with fail
        refine C.out.mono ?_
        rintro e w2 ⟨rfl, hb2, o2⟩
        clear C
        have HS2 := Lib.hid (And.intro (HS1.out.1.trans hb2) (And.intro (Own.but HS1.out.2.1 hb2 (by omega)) o2))
        clear hb2 o2 HS1
        have C := Lib.hid (nameR_any HS2.out.2.2)
        go_wp2_with fail
        refine C.out.mono ?_
        rintro e w3 ⟨rfl, hb3, o3⟩
        clear C
        have HS3 := Lib.hid (And.intro (HS2.out.1.trans hb3) (And.intro (Own.but HS2.out.2.1 hb3 (by omega)) o3))
        clear hb3 o3 HS2
        unfold fldP at HF0
        generalize (q).takeWhile nmByte = a at *
        generalize (q).dropWhile nmByte = b at *
        by_cases ha : a = []
        · have HF : Hid (stpP false r = none) := Lib.hid (by rw [HF0.out, if_pos ha])
          have hz : a.isEmpty = true := by rw [ha]; rfl
          clear ha HF0
          have oR := HS3.out.2.1
          have q0 := oR.cell (i := 0) rfl
          have q1 := oR.cell (i := 1) rfl
          have q2 := oR.cell (i := 2) rfl
          have q3 := oR.cell (i := 3) rfl
          have g0 := oR.frozen 0
          have g1 := oR.frozen 1
          have g2 := oR.frozen 2
          have g3 := oR.frozen 3
          have HU := Lib.hid (And.intro (own_put4 oR (.int .i64 1) (sV a) (.int .i64 0) (.string ⟨#[]⟩)) (And.intro (HS3.out.1.put4 (Nat.le_refl w.heap.size) (.int .i64 1) (sV a) (.int .i64 0) (.string ⟨#[]⟩)) (Own.put4 (c := w.heap.size) HS3.out.2.2 (by omega) (.int .i64 1) (sV a) (.int .i64 0) (.string ⟨#[]⟩))))
          clear oR
          go_wp2
          clear q0 q1 q2 q3 g0 g1 g2 g3
          change bodyPost Tryz.prog Tryz.f109 _ _ _ (put4 w3 w.heap.size (.int .i64 1) (sV a) (.int .i64 0) (.string ⟨#[]⟩))
          generalize put4 w3 w.heap.size (.int .i64 1) (sV a) (.int .i64 0) (.string ⟨#[]⟩) = U at *
          have c0 := HU.out.1.cell (i := 0) rfl
          have c1 := HU.out.1.cell (i := 1) rfl
          have c2 := HU.out.1.cell (i := 2) rfl
          have c3 := HU.out.1.cell (i := 3) rfl
          exact bodyPost_ret (v := .tuple #[.agg #[.int .i64 1, sV a, .int .i64 0, .string ⟨#[]⟩], .bool false]) (by simp [results, Tryz.results109, go_sem, c0, c1, c2, c3]) rfl ⟨HU.out.2.1, fun s' q' h => (by rw [HF.out] at h; cases h), fun _ => ⟨⟨1, a, 0, []⟩, _, rfl, HU.out.2.2⟩⟩
        · have HF : Hid (stpP false r = some (⟨1, a, 0, []⟩, b)) := Lib.hid (by rw [HF0.out, if_neg ha])
          have hz : a.isEmpty = false := by cases a with | nil => exact absurd rfl ha | cons c a => rfl
          clear ha HF0
          have oR := HS3.out.2.1
          have q0 := oR.cell (i := 0) rfl
          have q1 := oR.cell (i := 1) rfl
          have q2 := oR.cell (i := 2) rfl
          have q3 := oR.cell (i := 3) rfl
          have g0 := oR.frozen 0
          have g1 := oR.frozen 1
          have g2 := oR.frozen 2
          have g3 := oR.frozen 3
          have HU := Lib.hid (And.intro (own_put4 oR (.int .i64 1) (sV a) (.int .i64 0) (.string ⟨#[]⟩)) (And.intro (HS3.out.1.put4 (Nat.le_refl w.heap.size) (.int .i64 1) (sV a) (.int .i64 0) (.string ⟨#[]⟩)) (Own.put4 (c := w.heap.size) HS3.out.2.2 (by omega) (.int .i64 1) (sV a) (.int .i64 0) (.string ⟨#[]⟩))))
          clear oR
          go_wp2
          clear q0 q1 q2 q3 g0 g1 g2 g3
          change bodyPost Tryz.prog Tryz.f109 _ _ _ (put4 w3 w.heap.size (.int .i64 1) (sV a) (.int .i64 0) (.string ⟨#[]⟩))
          generalize put4 w3 w.heap.size (.int .i64 1) (sV a) (.int .i64 0) (.string ⟨#[]⟩) = U at *
          have c0 := HU.out.1.cell (i := 0) rfl
          have c1 := HU.out.1.cell (i := 1) rfl
          have c2 := HU.out.1.cell (i := 2) rfl
          have c3 := HU.out.1.cell (i := 3) rfl
          exact bodyPost_ret (v := .tuple #[.agg #[.int .i64 1, sV a, .int .i64 0, .string ⟨#[]⟩], .bool true]) (by simp [results, Tryz.results109, go_sem, c0, c1, c2, c3]) rfl ⟨HU.out.2.1, fun s' q' h => (by rw [HF.out] at h; cases h; exact ⟨rfl, HU.out.2.2⟩), fun h => (by rw [HF.out] at h; cases h)⟩
end Go.Proofs.YtjpmnlefjmdelaaGreatDoor
namespace Go.Proofs.YtjpmnlefjmdelaaGreatDoor
open Go.RowKit Go.Sort Go.Proofs.LawFrame

theorem below_but {B b : Nat} {w W W' : World} (h : Below B w W) (hk : But b W W') (hb : B ≤ b) (hB : B ≤ W.heap.size) : Below B w W' :=
  ⟨hk.os.trans h.os, hk.tape.trans h.tape, hk.output.trans h.output, Nat.le_trans h.size hk.size, fun k hk' => (hk.block k (by omega) (by omega)).trans (h.block k hk')⟩
theorem below_row {w w' w'' : World} {row : Option Nat} (h : Below w.heap.size w w') (hg : w'.grownBy w'' row) (hr : ∀ k, row = some k → w.heap.size ≤ k) : Below w.heap.size w w'' :=
  ⟨hg.os.trans h.os, hg.tape.trans h.tape, hg.output.trans h.output, Nat.le_trans h.size hg.size, fun k hk => (hg.block k (Nat.lt_of_lt_of_le hk h.size) (fun e => by have := hr k e.symm; omega)).trans (h.block k hk)⟩
theorem info52 : (Tryz.prog.info? 52).map (fun i => (i.zero, i.size, i.bytes)) = some (some (.agg #[.int .i64 0, .string ⟨#[]⟩, .int .i64 0, .string ⟨#[]⟩]), 4, 48) := by kernel_rfl
theorem four_one (s : S) : ∀ v ∈ S.cells s, v.oneCell' = true := by
  intro v hv
  simp [S.cells] at hv
  rcases hv with rfl | rfl | rfl | rfl <;> rfl
theorem flatMap_snocS (l : List S) (c : S) : (l ++ [c]).flatMap S.cells = l.flatMap S.cells ++ S.cells c := by simp
/-- the steps read so far -/
def PaI (r : Str) (acc : List S) (rr : Str) : Prop := pathP (r.length + 1) true r = (pathP (rr.length + 1) acc.isEmpty rr).map (fun l => acc ++ l)
theorem PaI.start (r : Str) : PaI r [] r := by unfold PaI; simp only [List.isEmpty_nil]; cases pathP (r.length + 1) true r <;> rfl
theorem PaI.step {r : Str} {acc : List S} {c : UInt8} {r2 q : Str} {s : S} (h : PaI r acc (c :: r2)) (hs : stpP acc.isEmpty (c :: r2) = some (s, q)) : PaI r (acc ++ [s]) q := by
  unfold PaI at *
  have hl := stpP_len hs
  rw [h]
  rw [pathP, hs]
  simp only
  rw [pathP_fuel (c :: r2).length (q.length + 1) false q (by omega) (by omega)]
  rw [show (acc ++ [s]).isEmpty = false by cases acc <;> rfl]
  cases pathP (q.length + 1) false q <;> simp
theorem PaI.bad {r : Str} {acc : List S} {c : UInt8} {r2 : Str} (h : PaI r acc (c :: r2)) (hs : stpP acc.isEmpty (c :: r2) = none) : pathP (r.length + 1) true r = none := by
  unfold PaI at h
  rw [h, pathP, hs]; rfl
theorem PaI.fin {r : Str} {acc : List S} (h : PaI r acc []) : pathP (r.length + 1) true r = some acc := by
  unfold PaI at h
  rw [h]; simp [pathP]

/-- what readPath answers -/
structure QP (w : World) (res : Option (List S)) (e : Ending) (w' : World) : Prop where
  below : Below w.heap.size w w'
  ok : ∀ l, res = some l → ∃ v, e = .returned (.tuple #[v, .bool true]) ∧ Stps w' v l
  no : res = none → e = .returned (.tuple #[.slice none 0 0, .bool false])

set_option maxHeartbeats 8000000 in
set_option maxRecDepth 4000 in
theorem readPath_any (r : Str) (w : World) (hl : r.length ≤ 20000) : Calls Tryz.prog 65 #[sV r] w (QP w (pathP (r.length + 1) true r)) := by
  obtain ⟨i52, hi52, hz52, hs52, hy52⟩ := info_parts info52
  have hb0 := below_alloc w (.cells #[sV r] 124)
  have o0 := Own.new w [sV r] 124
  have HO := Lib.hid (And.intro hb0 o0)
  have hsz0 := hb0.size
  clear hb0 o0
  go_enter Tryz.func65, Tryz.ntmps65
  go_wp2
  change Code.wp Tryz.prog _ _ _ (w.alloc (.cells #[sV r] 124))
  generalize w.alloc (.cells #[sV r] 124) = W at *
  go_loopg [4] r.length (fun g v wr => ∃ (acc : List S) (rr : Str), g = rr.length ∧ acc.length + rr.length ≤ r.length ∧ Below w.heap.size w wr ∧ wr.ownsRow (w.heap.size + 1) 52 4 v acc.length (acc.flatMap S.cells) ∧ Own wr w.heap.size [sV rr] 124 ∧ Hid (PaI r acc rr))
  case atStart => exact ⟨[], r, rfl, by simp, HO.out.1, own_nil _ _ _ _, HO.out.2, Lib.hid (PaI.start r)⟩
  case round =>
    obtain ⟨acc, rr, hg, hal, hb, hown, o, HE⟩ := hrel
    have HG := Lib.hid hg
    clear hg HO
    obtain ⟨ao, cap, hu, -, -, -⟩ := (Flat.of_own hown).out
    subst hu
    have HAL := Lib.hid hal
    have hacc : acc.length ≤ 20000 := by omega
    have hrrl : rr.length ≤ 20000 := by omega
    have hem : ((acc.length : Int) == 0) = acc.isEmpty := by cases acc with
      | nil => rfl
      | cons a acc => rw [List.isEmpty_cons, beq_eq_false_iff_ne]; simp; omega
    clear hal hl
    have HEM := Lib.hid (show acc.isEmpty = acc.isEmpty from rfl)
    obtain ⟨fb, hfb⟩ : ∃ b, acc.isEmpty = b := ⟨_, rfl⟩
    rw [hfb] at hem
    have HFB := Lib.hid hfb
    clear hfb HEM
    generalize hN : acc.length = N at *
    have HN := Lib.hid hN
    clear hN
    have hbsz := hb.size
    have c0 := o.cell (i := 0) rfl
    have HS0 := Lib.hid (And.intro hb (And.intro hown o))
    clear hb hown o
    cases rr with
    | nil =>
      go_wp2
      exact bodyPost_ret (v := .tuple #[.slice ao N cap, .bool true]) (by simp [results, Tryz.results65, go_sem]) rfl ⟨HS0.out.1, fun l h => (by
        rw [HE.out.fin] at h; cases h
        refine ⟨_, rfl, ?_⟩
        have := Flat.of_own HS0.out.2.1
        rw [← HN.out] at this; rw [← HN.out]; exact this), fun h => (by rw [HE.out.fin] at h; cases h)⟩
    | cons c r2 =>
      obtain ⟨rq, hrq⟩ : ∃ q, c :: r2 = q := ⟨_, rfl⟩
      have hz : rq.isEmpty = false := by rw [← hrq]; rfl
      have HR := Lib.hid hrq
      rw [hrq] at c0 HS0 hrrl
      clear hrq
      have C := Lib.hid (stepP_any fb (by omega) HS0.out.2.2)
      go_wp2_with fail
      refine C.out.mono ?_
      rintro e w1 hres
      clear C c0
      have hlow := below_but HS0.out.1 hres.but (Nat.le_refl _) HS0.out.1.size
      have hown1 := row_but HS0.out.2.1 hres.but (by omega)
      have hsz1 := hlow.size
      cases hq : stpP fb rq with
      | none =>
        obtain ⟨⟨sk, sn, si, sv⟩, r', rfl, o1⟩ := hres.no hq
        have HF : Hid (pathP (r.length + 1) true r = none) := Lib.hid (HE.out.bad (by rw [HFB.out, HR.out]; exact hq))
        have HB := Lib.hid (hlow.alloc hlow.size (.cells #[.int .i64 sk, sV sn, .int .i64 si, sV sv] 52))
        clear hres hlow hown1 o1 hq HS0
        go_wp2
        exact bodyPost_ret (v := .tuple #[.slice none 0 0, .bool false]) (by simp [results, Tryz.results65, go_sem]) rfl ⟨HB.out, fun l h => (by rw [HF.out] at h; cases h), fun _ => rfl⟩
      | some p =>
        obtain ⟨⟨sk, sn, si, sv⟩, q⟩ := p
        obtain ⟨rfl, o1⟩ := hres.ok _ q hq
        have HI : Hid (PaI r (acc ++ [⟨sk, sn, si, sv⟩]) q) := Lib.hid (HE.out.step (by rw [HFB.out, HR.out]; exact hq))
        have hql := stpP_len hq
        have hbq := below_alloc w1 (.cells #[.int .i64 sk, sV sn, .int .i64 si, sV sv] 52)
        have oN := Own.new w1 [.int .i64 sk, sV sn, .int .i64 si, sV sv] 52
        have hownA := hown1.alloc (.cells #[.int .i64 sk, sV sn, .int .i64 si, sV sv] 52)
        have oA := o1.all hbq
        have hlowA := hlow.alloc hlow.size (.cells #[.int .i64 sk, sV sn, .int .i64 si, sV sv] 52)
        have hsz2 := hlowA.size
        clear hres hlow hown1 o1 hq HS0
        go_upto_region 5 with (fail)
        change Code.wp Tryz.prog _ _ _ (w1.alloc (.cells #[.int .i64 sk, sV sn, .int .i64 si, sV sv] 52))
        have hV : (w1.alloc (.cells #[.int .i64 sk, sV sn, .int .i64 si, sV sv] 52)).heap.size = w1.heap.size + 1 := size_alloc _ _
        generalize w1.alloc (.cells #[.int .i64 sk, sV sn, .int .i64 si, sV sv] 52) = V at *
        have a0 := oN.cell (i := 0) rfl
        have a1 := oN.cell (i := 1) rfl
        have a2 := oN.cell (i := 2) rfl
        have a3 := oN.cell (i := 3) rfl
        have hVb : w.heap.size + 1 ≤ V.heap.size := oA.lt
        have HV := Lib.hid hV
        clear hV
        have HS2 := Lib.hid (And.intro hlowA (And.intro hownA oA))
        clear hlowA hbq oN oA
        go_wp2_with (first | (at_builtin; refine wpList_append_own _ rfl (.tmp 22) (.tmp 24) 36 rfl (w.heap.size + 1) 52 i52 (.agg #[.int .i64 0, .string ⟨#[]⟩, .int .i64 0, .string ⟨#[]⟩]) 4 48 Tryz.underlying36 hi52 hz52 hs52 hy52 rfl (by decide) _ _ _ rfl (hownA.alloc _) ⟨V.heap.size, 0, none⟩ 1 1 (S.cells ⟨sk, sn, si, sv⟩) rfl rfl (own_src (Own.new _ _ _)) (four_one ⟨sk, sn, si, sv⟩) (by unfold maxLen; omega) (by omega) (by simp; omega) ?_; intro v9 w9 hown9 hgrow9 hnil9))
        have hb9 := below_row (HS2.out.1.alloc HS2.out.1.size (.cells #[.int .i64 sk, sV sn, .int .i64 si, sV sv] 52)) hgrow9 (fun k hk => by have := own_row hownA k hk; omega)
        have o9 := own_kept' (HS2.out.2.2.alloc (.cells #[.int .i64 sk, sV sn, .int .i64 si, sV sv] 52)) hgrow9 (fun e => by have := own_row hownA _ e; omega)
        go_roundg q.length
        case measure => have := HG.out; have := congrArg List.length HR.out; simp at *; omega
        case rel => exact ⟨acc ++ [⟨sk, sn, si, sv⟩], q, rfl, by have := HN.out; have := HAL.out; have := congrArg List.length HR.out; simp at *; omega, hb9, by rw [flatMap_snocS, List.length_append, HN.out]; exact hown9, o9, HI⟩

/-- what Parse answers -/
structure QPa (w : World) (s : Str) (e : Ending) (w' : World) : Prop where
  below : Below w.heap.size w w'
  out : ∃ v, e = .returned (.tuple #[v, .int .i64 (resP s).2]) ∧ Stps w' v (resP s).1
set_option maxHeartbeats 8000000 in
set_option maxRecDepth 4000 in
theorem parsePath_any (s : Str) (w : World) (hs : s.length ≤ 1000000000) : Calls Tryz.prog 28 #[sV s] w (QPa w s) := by
  by_cases hbig : 20000 < s.length
  · have HF : Hid (resP s = ([], 4)) := Lib.hid (by unfold resP; rw [if_pos hbig])
    go_enter Tryz.func28, Tryz.ntmps28
    go_wp2
    exact bodyPost_ret (v := .tuple #[.slice none 0 0, .int .i64 4]) (by simp [results, Tryz.results28, go_sem]) rfl ⟨Below.refl _ _, _, by rw [HF.out], by rw [HF.out]; exact Flat.nil _ _ _ (Nat.zero_le _) _⟩
  have C := Lib.hid (readPath_any s w (by omega))
  have HF0 : Hid (resP s = match pathP (s.length + 1) true s with
    | none => ([], 2)
    | some l => if pathOk l then (l, 0) else ([], 1)) := Lib.hid (by unfold resP; rw [if_neg hbig]; rfl)
  go_enter Tryz.func28, Tryz.ntmps28
  go_wp2_with fail
  refine C.out.mono ?_
  rintro e w1 hres
  clear C
  cases hp : pathP (s.length + 1) true s with
  | none =>
    obtain rfl := hres.no hp
    have HF : Hid (resP s = ([], 2)) := Lib.hid (by rw [HF0.out, hp])
    have HB := Lib.hid hres.below
    clear hres hp
    go_wp2
    exact bodyPost_ret (v := .tuple #[.slice none 0 0, .int .i64 2]) (by simp [results, Tryz.results28, go_sem]) rfl ⟨HB.out, _, by rw [HF.out], by rw [HF.out]; exact Flat.nil _ _ _ (Nat.zero_le _) _⟩
  | some l =>
    obtain ⟨v, rfl, hst⟩ := hres.ok l hp
    have hll := pathP_len _ _ _ _ hp
    have HF : Hid (resP s = if pathOk l then (l, 0) else ([], 1)) := Lib.hid (by rw [HF0.out, hp])
    have HB := Lib.hid (And.intro hres.below hst)
    have CV := Lib.hid (pathValid_any v l w1 hst (by omega))
    obtain ⟨ao, cp, rfl, -, -⟩ := Stps.form hst
    clear hres hp hst hll
    go_wp2_with fail
    refine CV.out.mono ?_
    rintro e w2 ⟨rfl, hb2⟩
    have HB2 := Lib.hid (And.intro (below_all HB.out.1 hb2) (HB.out.2.all hb2))
    clear CV HB hb2
    cases hv : pathOk l
    · have HF2 : Hid (resP s = ([], 1)) := Lib.hid (by rw [HF.out, hv]; rfl)
      go_wp2
      exact bodyPost_ret (v := .tuple #[.slice none 0 0, .int .i64 1]) (by simp [results, Tryz.results28, go_sem]) rfl ⟨HB2.out.1, _, by rw [HF2.out], by rw [HF2.out]; exact Flat.nil _ _ _ (Nat.zero_le _) _⟩
    · have HF2 : Hid (resP s = (l, 0)) := Lib.hid (by rw [HF.out, hv]; rfl)
      go_wp2
      exact bodyPost_ret (v := .tuple #[.slice ao l.length cp, .int .i64 0]) (by simp [results, Tryz.results28, go_sem]) rfl ⟨HB2.out.1, _, by rw [HF2.out], by rw [HF2.out]; exact HB2.out.2⟩
end Go.Proofs.YtjpmnlefjmdelaaGreatDoor
