/- The program's names, steps and paths: which are valid; is one path the beginning of another. The program's Valid and HasPrefix of paths. -/
import Derived.Test.YtjpmnlefjmdelaaGreatDoorXaJ
import Derived.Test.YtjpmnlefjmdelaaGreatDoorWfJ
import Derived.Laws.RangeAny
import Derived.LoopTactic
import Derived.Test.YtjpmnlefjmdelaaGreatDoorKiJ
import Derived.Laws.StructEq
set_option linter.unusedSimpArgs false
set_option linter.unusedVariables false
namespace Go.Proofs.YtjpmnlefjmdelaaGreatDoor
open Go.RowKit Go.Sort Go.Proofs.LawFrame

set_option maxHeartbeats 1000000 in
theorem isDigitI_any (r : Int) (w : World) : Calls Tryz.prog 197 #[.int .i32 r] w fun e w' => e = .returned (.bool (digI r)) ∧ w = w' := by
  go_enter Tryz.func197, Tryz.ntmps197
  go_wp2
  all_goals
    go_ret
    exact ⟨ret_bool (by unfold digI; rw [Bool.eq_iff_iff]; simp; omega), rfl⟩
set_option maxHeartbeats 4000000 in
theorem isNameRune_any (r : Int) (w : World) : Calls Tryz.prog 176 #[.int .i32 r] w fun e w' => e = .returned (.bool (nmI r)) ∧ w = w' := by
  have hcl : (r < 45 ∨ r = 46 ∨ (58 ≤ r ∧ r ≤ 64) ∨ (91 ≤ r ∧ r ≤ 94) ∨ r = 96 ∨ 123 ≤ r) ∨ r = 45 ∨ r = 47 ∨ (48 ≤ r ∧ r ≤ 57) ∨ (65 ≤ r ∧ r ≤ 90) ∨ r = 95 ∨ (97 ≤ r ∧ r ≤ 122) := by omega
  have HD := Lib.hid (isDigitI_any r w)
  go_enter Tryz.func176, Tryz.ntmps176
  go_wp2_with (go_at_call 197; refine HD.out.mono ?_; rintro e w' ⟨rfl, rfl⟩; cases hd : digI r)
  all_goals
    go_ret
    exact ⟨ret_bool (by unfold digI at *; unfold nmI; rw [Bool.eq_iff_iff]; simp at *; omega), rfl⟩
set_option maxHeartbeats 4000000 in
set_option maxRecDepth 1000000 in
theorem nameLength_any (l : Str) (w : World) : Calls Tryz.prog 145 #[sV l] w fun e w' => e = .returned (.int .i64 (nlen l : Nat)) ∧ Below w.heap.size w w' := by
  go_enter Tryz.func145, Tryz.ntmps145
  go_wp2
  go_loopw [] (fun w' => ∃ pos : Nat, w' = w.iter ⟨l.toArray⟩ pos ∧ pos ≤ l.length ∧ Hid (AllTo nmByte l pos)) (fun w' => l.length - w'.iterPos w.heap.size)
  case atStart => exact ⟨0, rfl, Nat.zero_le _, Lib.hid (AllTo_zero _ l)⟩
  case round =>
    obtain ⟨pos, rfl, hle, HA⟩ := hrel
    by_cases hp : pos < l.length
    · have hps : pos < (⟨l.toArray⟩ : ByteArray).size := hp
      have hnx : ∀ ty, (Instr.next (.pointer (some ⟨w.heap.size, 0, none⟩)) true ty).run Tryz.prog (w.iter ⟨l.toArray⟩ pos) = _ := fun ty => run_next_any w ⟨l.toArray⟩ pos ty hps
      have hmm : ((⟨l.toArray⟩ : ByteArray)[pos]'hps) = l[pos] := rfl
      cases hb : nmByte l[pos]
      · have hq : nmI ((Utf8.decode ⟨l.toArray⟩ pos).1 : Int) = false := by
          by_cases h128 : (l[pos]).toNat < 128
          · rw [decode_ascii _ pos hps (by rw [hmm]; exact h128), hmm]; simp only; rw [nmI_byte, hb]
          · have := (decode_high ⟨l.toArray⟩ pos hps (by rw [hmm]; omega)).1
            exact nmI_high (by omega)
        have HB := Lib.hid (And.intro hb hmm)
        clear hb hmm
        generalize Utf8.decode ⟨l.toArray⟩ pos = dc at *
        obtain ⟨dr, dw⟩ := dc
        simp only at hq hnx
        have HC := Lib.hid (isNameRune_any (dr : Int) (w.iter ⟨l.toArray⟩ (pos + dw)))
        rw [hq] at HC
        go_wp2_with (go_at_call 176; refine HC.out.mono ?_; rintro e w' ⟨rfl, rfl⟩)
        go_ret
        exact ⟨by rw [nlen_at HA.out hp HB.out.1]; rfl, (Below.refl _ _).alloc (Nat.le_refl _) _⟩
      · have h128 := nmByte_low hb
        have hq : nmI (l[pos].toNat : Int) = true := by rw [nmI_byte, hb]
        have hd := decode_ascii _ pos hps (by rw [hmm]; exact h128)
        rw [hmm] at hd
        rw [hd] at hnx
        have HB := Lib.hid (And.intro hb hmm)
        clear hb hmm h128 hd
        generalize hmm2 : l[pos].toNat = m at *
        clear hmm2
        simp only at hnx
        have HC := Lib.hid (isNameRune_any (m : Int) (w.iter ⟨l.toArray⟩ (pos + 1)))
        rw [hq] at HC
        go_wp2_with (go_at_call 176; refine HC.out.mono ?_; rintro e w' ⟨rfl, rfl⟩)
        go_roundw
        case rel => exact ⟨pos + 1, rfl, hp, Lib.hid (AllTo_succ HA.out hp HB.out.1)⟩
        case measure => simp; omega
    · have hps : ¬ pos < (⟨l.toArray⟩ : ByteArray).size := hp
      have hnx : ∀ ty, (Instr.next (.pointer (some ⟨w.heap.size, 0, none⟩)) true ty).run Tryz.prog (w.iter ⟨l.toArray⟩ pos) = _ := fun ty => run_next_end w ⟨l.toArray⟩ pos ty hps
      obtain rfl : pos = l.length := by omega
      have hE : nlen l = l.length := nlen_all (all_of HA.out)
      go_wp2
      go_ret
      exact ⟨by rw [hE]; rfl, (Below.refl _ _).alloc (Nat.le_refl _) _⟩
set_option maxHeartbeats 1000000 in
theorem validNameP_any (l : Str) (w : World) : Calls Tryz.prog 105 #[sV l] w fun e w' => e = .returned (.bool (nameOk l)) ∧ Below w.heap.size w w' := by
  rw [nameOk_nlen]
  by_cases h0 : l.length < 1
  · go_enter Tryz.func105, Tryz.ntmps105
    go_wp2
    go_ret
    exact ⟨ret_bool (by rw [decide_eq_false (p := 1 ≤ l.length) (by omega)]; rfl), Below.refl _ _⟩
  by_cases h1 : 40 < l.length
  · go_enter Tryz.func105, Tryz.ntmps105
    go_wp2
    go_ret
    exact ⟨ret_bool (by rw [decide_eq_false (p := l.length ≤ 40) (by omega)]; simp), Below.refl _ _⟩
  have HC := Lib.hid (nameLength_any l w)
  go_enter Tryz.func105, Tryz.ntmps105
  go_wp2_with (go_at_call 145; refine HC.out.mono ?_; rintro e w' ⟨rfl, hb⟩)
  go_ret
  exact ⟨ret_bool (by rw [Bool.eq_iff_iff]; simp; omega), hb⟩
theorem val_str {v : Str} : (Val 12 (.mk 3 0 v [] []) ∧ (T.mk 3 0 v [] []).size ≤ 600) ↔ strOk v = true := by
  constructor
  · rintro ⟨h, -⟩
    rw [Val] at h
    rcases h.1 with ⟨h, -⟩ | ⟨h, -⟩ | ⟨-, -, h⟩ | ⟨h, -⟩
    · omega
    · omega
    · exact h
    · omega
  · intro h
    refine ⟨?_, by simp [T.size, sizeL, sizeF]⟩
    rw [Val]
    exact ⟨Or.inr (Or.inr (Or.inl ⟨rfl, rfl, h⟩)), by simp, by simp, Or.inr rfl, Or.inr rfl, NmTo.zero _, fun t ht => (by cases ht), fun t ht => by cases ht⟩
end Go.Proofs.YtjpmnlefjmdelaaGreatDoor
namespace Go.Proofs.YtjpmnlefjmdelaaGreatDoor
open Go.RowKit Go.Sort Go.Proofs.LawFrame

theorem isEmpty_dec (l : Str) : l.isEmpty = decide (l = []) := by cases l <;> simp
theorem isStr_mk (v : Str) (w : World) : Is w ⟨3, 0, v, none, 0, 0, none, 0, 0⟩ (.mk 3 0 v [] []) :=
  .mk (c := ⟨3, 0, v, none, 0, 0, none, 0, 0⟩) [] [] rfl (Flat.nil _ _ _ (Nat.zero_le _) _) (fun i x t h => by simp at h) rfl (Flat.nil _ _ _ (Nat.zero_le _) _) (fun i x t h => by simp at h) (fun i x t h => by simp at h)
theorem rb_fixed' {w w' : World} {P : Prop} {e : Ending} {b : Bool} (h : RB w P e w') (hb : P ↔ b = true) : e = .returned (.bool b) ∧ Below w.heap.size w w' := by
  obtain ⟨r, h1, h2, h3⟩ := h.out
  refine ⟨?_, h2⟩
  rw [h1]; congr 2
  rw [Bool.eq_iff_iff, h3, hb]
theorem validStr_any (v : Str) (w : World) : Calls Tryz.prog 47 #[.agg #[.int .i64 3, .int .i64 0, sV v, .slice none 0 0, .slice none 0 0]] w fun e w' => e = .returned (.bool (strOk v)) ∧ Below w.heap.size w w' :=
  (valid_any (.mk 3 0 v [] []) ⟨3, 0, v, none, 0, 0, none, 0, 0⟩ w (isStr_mk v w)).mono (fun e w' h => rb_fixed' h val_str)

set_option maxHeartbeats 4000000 in
set_option maxRecDepth 4000 in
theorem validStep_any (s : S) (w : World) : Calls Tryz.prog 62 #[s.val] w fun e w' => e = .returned (.bool (stepOk s)) ∧ Below w.heap.size w w' := by
  obtain ⟨k, nm, ix, vl⟩ := s
  show Calls Tryz.prog 62 #[.agg #[.int .i64 k, sV nm, .int .i64 ix, sV vl]] w _
  have hw0 := below_alloc w (.cells #[.int .i64 k, sV nm, .int .i64 ix, sV vl] 52)
  have o0 := Own.new w [.int .i64 k, sV nm, .int .i64 ix, sV vl] 52
  go_enter Tryz.func62, Tryz.ntmps62
  go_upto_region 1 with (fail)
  change Code.wp Tryz.prog _ _ _ (w.alloc (.cells #[.int .i64 k, sV nm, .int .i64 ix, sV vl] 52))
  generalize w.alloc (.cells #[.int .i64 k, sV nm, .int .i64 ix, sV vl] 52) = V at *
  have a0 := o0.cell (i := 0) rfl
  have a1 := o0.cell (i := 1) rfl
  have a2 := o0.cell (i := 2) rfl
  have a3 := o0.cell (i := 3) rfl
  have HO := Lib.hid (And.intro hw0 o0)
  clear hw0 o0
  by_cases h1 : k = 1
  · subst h1
    have HC := Lib.hid (validNameP_any nm V)
    clear a1 a2 a3
    have a1 := HO.out.2.cell (i := 1) rfl
    go_wp2_with fail
    refine HC.out.mono ?_
    rintro e w1 ⟨rfl, hb⟩
    have oo := HO.out.2.all hb
    have b2 := oo.cell (i := 2) rfl
    have b3 := oo.cell (i := 3) rfl
    have HB := Lib.hid (below_all HO.out.1 hb)
    clear HC a0 a1 HO oo hb
    cases hn : nameOk nm
    · go_wp2
      go_ret
      exact ⟨ret_bool (by simp [stepOk, hn]), HB.out⟩
    · go_wp2
      all_goals
        go_ret
        exact ⟨ret_bool (by first | (simp_all [stepOk, isEmpty_dec]; done) | (simp_all [stepOk, isEmpty_dec]; intros; omega) | (unfold stepOk; rw [Bool.eq_iff_iff]; simp_all [isEmpty_dec])), HB.out⟩
  by_cases h2 : k = 2
  · subst h2
    go_wp2
    all_goals
      go_ret
      exact ⟨ret_bool (by first | (simp_all [stepOk, isEmpty_dec]; done) | (simp_all [stepOk, isEmpty_dec]; intros; omega) | (unfold stepOk; rw [Bool.eq_iff_iff]; simp_all [isEmpty_dec])), HO.out.1⟩
  by_cases h3 : k = 3
  · subst h3
    have HC := Lib.hid (validNameP_any nm V)
    go_wp2_with fail
    refine HC.out.mono ?_
    rintro e w1 ⟨rfl, hb⟩
    have oo := HO.out.2.all hb
    have b3 := oo.cell (i := 3) rfl
    have HB := Lib.hid (And.intro (below_all HO.out.1 hb) oo)
    clear HC a0 a1 a2 a3 HO oo hb
    cases hn : nameOk nm
    · go_wp2
      go_ret
      exact ⟨ret_bool (by simp [stepOk, hn]), HB.out.1⟩
    · have HS := Lib.hid (string_any vl w1)
      go_wp2_with fail
      refine HS.out.mono ?_
      rintro e w2 ⟨rfl, hb2⟩
      have HB2 := Lib.hid (And.intro (below_all HB.out.1 hb2) (HB.out.2.all hb2))
      have HV := Lib.hid (validStr_any vl w2)
      clear HS HB b3 hb2
      go_wp2_with fail
      refine HV.out.mono ?_
      rintro e w3 ⟨rfl, hb3⟩
      have oo := HB2.out.2.all hb3
      have b2 := oo.cell (i := 2) rfl
      have HB3 := Lib.hid (below_all HB2.out.1 hb3)
      clear HB2 HV oo hb3
      cases hv : strOk vl
      · go_wp2
        go_ret
        exact ⟨ret_bool (by simp [stepOk, hn, hv]), HB3.out⟩
      · go_wp2
        all_goals
          go_ret
          exact ⟨ret_bool (by first | (simp_all [stepOk, isEmpty_dec]; done) | (simp_all [stepOk, isEmpty_dec]; intros; omega) | (unfold stepOk; rw [Bool.eq_iff_iff]; simp_all [isEmpty_dec])), HB3.out⟩
  · go_wp2
    go_ret
    exact ⟨ret_bool (by simp [stepOk, h1, h2, h3]), HO.out.1⟩
set_option maxHeartbeats 1000000 in
theorem valid1_any (s : S) (w : World) : Calls Tryz.prog 61 #[s.val] w fun e w' => e = .returned (.bool (!stepOk s)) ∧ Below w.heap.size w w' := by
  obtain ⟨k, nm, ix, vl⟩ := s
  show Calls Tryz.prog 61 #[.agg #[.int .i64 k, sV nm, .int .i64 ix, sV vl]] w _
  have hw0 := below_alloc w (.cells #[.int .i64 k, sV nm, .int .i64 ix, sV vl] 52)
  have o0 := Own.new w [.int .i64 k, sV nm, .int .i64 ix, sV vl] 52
  go_enter Tryz.func61, Tryz.ntmps61
  go_upto_region 1 with (fail)
  change Code.wp Tryz.prog _ _ _ (w.alloc (.cells #[.int .i64 k, sV nm, .int .i64 ix, sV vl] 52))
  generalize w.alloc (.cells #[.int .i64 k, sV nm, .int .i64 ix, sV vl] 52) = V at *
  have a0 := o0.cell (i := 0) rfl
  have a1 := o0.cell (i := 1) rfl
  have a2 := o0.cell (i := 2) rfl
  have a3 := o0.cell (i := 3) rfl
  clear o0
  have HC := Lib.hid (validStep_any ⟨k, nm, ix, vl⟩ V)
  go_wp2_with fail
  refine HC.out.mono ?_
  rintro e w1 ⟨rfl, hb⟩
  clear HC
  cases hs : stepOk ⟨k, nm, ix, vl⟩
  · go_wp2
    go_ret
    exact ⟨ret_bool (by rw [hs]; rfl), below_all hw0 hb⟩
  · go_wp2
    go_ret
    exact ⟨ret_bool (by rw [hs]; rfl), below_all hw0 hb⟩

/-- the slice v holds these steps -/
abbrev Stps (w : World) (v : Value) (l : List S) : Prop := Flat w v l.length (l.flatMap S.cells)
theorem Stps.form {w : World} {v : Value} {l : List S} (h : Stps w v l) : ∃ ao cap, v = .slice ao l.length cap ∧ l.length ≤ cap ∧ cap ≤ maxLen := by
  obtain ⟨ao, cap, h1, h2, h3, -⟩ := h.out
  exact ⟨ao, cap, h1, h2, h3⟩
theorem Stps.at {w wr : World} {ao : Option Addr} {n cap : Nat} {l : List S} (h : Stps w (.slice ao n cap) l) (hb : Below w.heap.size w wr) {i : Nat} {s : S} (hk : l[i]? = some s) :
    ∃ (b off : Nat), ao = some ⟨b, off, none⟩ ∧ b < w.heap.size ∧ wr.cell? ⟨b, off + i * 4, none⟩ = some (.int .i64 s.k) ∧ wr.cell? ⟨b, off + i * 4 + 1, none⟩ = some (sV s.nm) ∧ wr.cell? ⟨b, off + i * 4 + 2, none⟩ = some (.int .i64 s.ix) ∧ wr.cell? ⟨b, off + i * 4 + 3, none⟩ = some (sV s.vl) := by
  obtain ⟨ao', cap', h1, h2, h3, h4⟩ := h.out
  cases h1
  obtain ⟨hk', -⟩ := List.getElem?_eq_some_iff.1 hk
  obtain ⟨b, off, rfl, h6, h7⟩ := h4 (by omega)
  have hq : ∀ j x, s.cells[j]? = some x → wr.cell? ⟨b, off + i * 4 + j, none⟩ = some x := fun j x hx => by
    have hj : j < 4 := (List.getElem?_eq_some_iff.1 hx).1
    rw [hb.cell (p := ⟨b, off + i * 4 + j, none⟩) h6, Nat.add_assoc]
    exact h7 (i * 4 + j) x (by rw [flat_get S.cells (m := 4) (fun _ => rfl) l i j s hk hj]; exact hx)
  exact ⟨b, off, rfl, h6, hq 0 _ rfl, hq 1 _ rfl, hq 2 _ rfl, hq 3 _ rfl⟩

set_option maxHeartbeats 2000000 in
set_option maxRecDepth 4000 in
theorem indexValid_any (v : Value) (l : List S) (w : World) (hv : Stps w v l) (hn : l.length ≤ 100000) :
    Calls Tryz.prog 104 #[v, .func (.func 61) #[] #[]] w fun e w' => (∃ n : Int, e = .returned (.int .i64 n) ∧ (0 ≤ n ↔ l.all stepOk = false)) ∧ Below w.heap.size w w' := by
  obtain ⟨ao, cp, rfl, hlc, hlm⟩ := hv.form
  unfold maxLen at hlm
  go_enter Tryz.func104, Tryz.ntmps104
  go_wp2
  go_loopg [8] l.length (fun g i wr => ∃ k : Nat, k ≤ l.length ∧ g = l.length - k ∧ i = .int .i64 k ∧ Below w.heap.size w wr ∧ Hid (AllP (fun s => stepOk s = true) l k))
  case atStart => exact ⟨0, Nat.zero_le _, rfl, rfl, Below.refl _ _, Lib.hid (AllP.zero _ _)⟩
  case round =>
    obtain ⟨k, hk, hg, rfl, hb, HN⟩ := hrel
    have HG := Lib.hid hg
    clear hg
    by_cases hlt : k < l.length
    · have hx := get_some hlt
      generalize l[k] = x at hx
      obtain ⟨b, off, rfl, hbl, q0, q1, q2, q3⟩ := hv.at hb hx
      have HX := Lib.hid hx
      have HB := Lib.hid hb
      clear hx hb
      have C := Lib.hid (valid1_any x wr)
      go_wp2_with fail
      clear q0 q1 q2 q3
      refine C.out.mono ?_
      rintro e w2 ⟨rfl, hb2⟩
      have HB2 := Lib.hid (below_all HB.out hb2)
      clear hb2 HB C
      cases hp : stepOk x
      · go_wp2
        go_ret
        refine ⟨⟨k, rfl, ?_⟩, HB2.out⟩
        constructor
        · intro _
          rw [List.all_eq_false]
          exact ⟨x, List.mem_of_getElem? HX.out, by simp [hp]⟩
        · intro _; omega
      · go_wp2
        go_roundg (l.length - (k + 1))
        case measure => have := HG.out; omega
        case rel => exact ⟨k + 1, by omega, rfl, by go_num, HB2.out, Lib.hid (HN.out.succ HX.out hp)⟩
    · obtain rfl : k = l.length := by omega
      have HB := Lib.hid hb
      clear hb
      go_wp2
      go_ret
      refine ⟨⟨-1, rfl, ?_⟩, HB.out⟩
      constructor
      · intro h; omega
      · intro h
        rw [List.all_eq_true.2 HN.out.full] at h; cases h
set_option maxHeartbeats 2000000 in
theorem pathValid_any (v : Value) (l : List S) (w : World) (hv : Stps w v l) (hn : l.length ≤ 100000) :
    Calls Tryz.prog 24 #[v] w fun e w' => e = .returned (.bool (pathOk l)) ∧ Below w.heap.size w w' := by
  have C := indexValid_any v l w hv hn
  obtain ⟨ao, cp, rfl, hlc, hlm⟩ := hv.form
  unfold maxLen at hlm
  by_cases h16 : 16 < l.length
  · go_enter Tryz.func24, Tryz.ntmps24
    go_wp2
    go_ret
    exact ⟨ret_bool (by unfold pathOk; rw [decide_eq_false (by omega)]; rfl), Below.refl _ _⟩
  have CC : Calls Tryz.prog 60 #[.slice ao l.length cp, .func (.func 61) #[] #[]] w fun e w' => e = .returned (.bool (!l.all stepOk)) ∧ Below w.heap.size w w' := by
    have C := Lib.hid C
    go_enter Tryz.func60, Tryz.ntmps60
    go_wp2_with fail
    refine C.out.mono ?_
    rintro e w2 ⟨⟨n, rfl, hn⟩, hb2⟩
    clear C
    cases hs : l.all stepOk
    · have h0 : 0 ≤ n := hn.2 hs
      go_wp2
      go_ret
      exact ⟨ret_bool (by rw [hs]; rfl), hb2⟩
    · have h0 : ¬ 0 ≤ n := fun h => by have := hn.1 h; rw [hs] at this; cases this
      go_wp2
      go_ret
      exact ⟨ret_bool (by rw [hs]; rfl), hb2⟩
  have CC := Lib.hid CC
  clear C hv
  have hpk : pathOk l = l.all stepOk := by unfold pathOk; rw [decide_eq_true (by omega)]; rfl
  have HP := Lib.hid hpk
  clear hpk
  go_enter Tryz.func24, Tryz.ntmps24
  go_wp2_with fail
  refine CC.out.mono ?_
  rintro e w2 ⟨rfl, hb2⟩
  clear CC
  cases hs : l.all stepOk
  · go_wp2
    go_ret
    exact ⟨ret_bool (by rw [HP.out, hs]), hb2⟩
  · go_wp2
    go_ret
    exact ⟨ret_bool (by rw [HP.out, hs]), hb2⟩
end Go.Proofs.YtjpmnlefjmdelaaGreatDoor
