/- The reference's Alike of equal values; plain. The law PathRemoves. -/
import Derived.Test.YtjpmnlefjmdelaaGreatDoorXzJ
import Derived.Test.YtjpmnlefjmdelaaGreatDoorZaJ
import Derived.Test.YtjpmnlefjmdelaaGreatDoorYe
import Derived.Test.YtjpmnlefjmdelaaGreatDoorYb
set_option linter.unusedSimpArgs false
set_option linter.unusedVariables false
namespace Go.Proofs.YtjpmnlefjmdelaaGreatDoor
open Go.RowKit Go.Sort Go.Proofs.LawFrame

set_option maxHeartbeats 8000000 in
set_option maxRecDepth 4000 in
theorem alike_any : ∀ (N : Nat) (t : T), SizeOf.sizeOf t ≤ N → ∀ (c d : VC) (w : World), Is w c t → Is w d t →
    Calls Tryz.prog 38 #[c.val, d.val] w fun e w' => e = .returned (.bool true) ∧ Below w.heap.size w w' := by
  intro N
  induction N with
  | zero => rintro ⟨k, n, s, l, f⟩ h; simp at h
  | succ N ih =>
    rintro ⟨k, n, s, l, f⟩ hN ⟨k', n', s', la, ln, lc, fa, fn, fc⟩ ⟨k2', n2', s2', la2, ln2, lc2, fa2, fn2, fc2⟩ w hI hJ
    obtain ⟨rfl, rfl, rfl⟩ : k' = k ∧ n' = n ∧ s' = s := hI.same
    obtain ⟨rfl, rfl, rfl⟩ : k2' = k' ∧ n2' = n' ∧ s2' = s' := hJ.same
    have hl := hI.vals
    have hf := hI.flds
    have hl2 := hJ.vals
    have hf2 := hJ.flds
    clear hI hJ
    obtain ⟨rfl, hlc, hlm⟩ := hl.slice
    obtain ⟨rfl, hfc, hfm⟩ := hf.slice
    obtain ⟨rfl, hlc2, hlm2⟩ := hl2.slice
    obtain ⟨rfl, hfc2, hfm2⟩ := hf2.slice
    unfold maxLen at hlm hfm hlm2 hfm2
    have HL := Lib.hid (And.intro hl (And.intro hf (And.intro hl2 hf2)))
    clear hl hf hl2 hf2
    have hw0 : Below w.heap.size w ((w.alloc (.cells #[.int .i64 k2', .int .i64 n2', sV s2', .slice la l.length lc, .slice fa f.length fc] 25)).alloc (.cells #[.int .i64 k2', .int .i64 n2', sV s2', .slice la2 l.length lc2, .slice fa2 f.length fc2] 25)) := ((Below.refl _ _).alloc (Nat.le_refl _) _).alloc (by simp) _
    have oA : Own ((w.alloc (.cells #[.int .i64 k2', .int .i64 n2', sV s2', .slice la l.length lc, .slice fa f.length fc] 25)).alloc (.cells #[.int .i64 k2', .int .i64 n2', sV s2', .slice la2 l.length lc2, .slice fa2 f.length fc2] 25)) w.heap.size [.int .i64 k2', .int .i64 n2', sV s2', .slice la l.length lc, .slice fa f.length fc] 25 := (Own.new _ _ _).alloc _
    have oB : Own ((w.alloc (.cells #[.int .i64 k2', .int .i64 n2', sV s2', .slice la l.length lc, .slice fa f.length fc] 25)).alloc (.cells #[.int .i64 k2', .int .i64 n2', sV s2', .slice la2 l.length lc2, .slice fa2 f.length fc2] 25)) (w.heap.size + 1) [.int .i64 k2', .int .i64 n2', sV s2', .slice la2 l.length lc2, .slice fa2 f.length fc2] 25 := Own.new_at (by rw [size_alloc]) _ _
    go_enter Tryz.func38, Tryz.ntmps38
    go_upto_region 1 with (fail)
    change Code.wp Tryz.prog _ _ _ ((w.alloc (.cells #[.int .i64 k2', .int .i64 n2', sV s2', .slice la l.length lc, .slice fa f.length fc] 25)).alloc (.cells #[.int .i64 k2', .int .i64 n2', sV s2', .slice la2 l.length lc2, .slice fa2 f.length fc2] 25))
    generalize ((w.alloc (.cells #[.int .i64 k2', .int .i64 n2', sV s2', .slice la l.length lc, .slice fa f.length fc] 25)).alloc (.cells #[.int .i64 k2', .int .i64 n2', sV s2', .slice la2 l.length lc2, .slice fa2 f.length fc2] 25)) = V0 at *
    have a0 := oA.cell (i := 0) rfl
    have a1 := oA.cell (i := 1) rfl
    have a2 := oA.cell (i := 2) rfl
    have a3 := oA.cell (i := 3) rfl
    have a4 := oA.cell (i := 4) rfl
    have b0 := oB.cell (i := 0) rfl
    have b1 := oB.cell (i := 1) rfl
    have b2 := oB.cell (i := 2) rfl
    have b3 := oB.cell (i := 3) rfl
    have b4 := oB.cell (i := 4) rfl
    have HO := Lib.hid (And.intro hw0 (And.intro oA oB))
    clear hw0 oA oB
    go_wp2
    clear a0 a1 a2 a3 a4 b0 b1 b2 b3 b4
    go_loopg [5] l.length (fun g i wr => ∃ k : Nat, k ≤ l.length ∧ g = l.length - k ∧ i = .int .i64 k ∧ Below w.heap.size w wr ∧ Own wr w.heap.size [.int .i64 k2', .int .i64 n2', sV s2', .slice la l.length lc, .slice fa f.length fc] 25 ∧ Own wr (w.heap.size + 1) [.int .i64 k2', .int .i64 n2', sV s2', .slice la2 l.length lc2, .slice fa2 f.length fc2] 25)
    case atStart => exact ⟨0, Nat.zero_le _, rfl, rfl, HO.out.1, HO.out.2.1, HO.out.2.2⟩
    case round =>
      obtain ⟨k, hk, hg, rfl, hb, oA, oB⟩ := hrel
      have HG := Lib.hid hg
      clear hg HO
      have p3 := oA.cell (i := 3) rfl
      have q3 := oB.cell (i := 3) rfl
      by_cases hlt : k < l.length
      · have hx := get_some hlt
        generalize l[k] = x at hx
        obtain ⟨b, off, c, rfl, hbl, hIx, x0, x1, x2, x3, x4⟩ := HL.out.1.at hb hx
        obtain ⟨b', off', d, rfl, hbl', hIy, y0, y1, y2, y3, y4⟩ := HL.out.2.2.1.at hb hx
        have hsz : SizeOf.sizeOf x ≤ N := by have := sizeOf_l (k := k2') (n := n2') (s := s2') (f := f) (List.mem_of_getElem? hx); omega
        have cC : ∀ dd os, Calls Tryz.prog 38 #[c.val, d.val] (grow (redrawn wr dd) os) fun e w'' => e = .returned (.bool true) ∧ ∃ p : Regrown, w'' = grow (redrawn wr p.d) p.os := fun dd os => Calls.regrown_of (ih x hsz c d _ (hIx.all (below_regrown wr dd os)) (hIy.all (below_regrown wr dd os)))
        clear hx hIx hIy ih
        have HH := Lib.hid (And.intro hb (And.intro oA oB))
        clear hb oA oB
        have gp := cell_regrown p3
        have gq := cell_regrown q3
        have gx0 := cell_regrown x0
        have gy0 := cell_regrown y0
        have gx1 := cell_regrown x1
        have gy1 := cell_regrown y1
        have gx2 := cell_regrown x2
        have gy2 := cell_regrown y2
        have gx3 := cell_regrown x3
        have gy3 := cell_regrown y3
        have gx4 := cell_regrown x4
        have gy4 := cell_regrown y4
        go_upto_region 6 with (fail)
        refine wp_region_quiet_below (by kernel_rfl) (by kernel_rfl) ?_
        repeat (first | go_big_quiet_step ((with_reducible exact cC _ _)) | quiet_step (with_reducible exact cC _ _))
        refine wpQuiet_nil ?_
        intro _ hw'
        obtain ⟨⟨dq, osq⟩, hw''⟩ := hw'
        subst hw''
        have hb1 := below_all HH.out.1 (below_regrown wr dq osq)
        have oA1 := HH.out.2.1.all (below_regrown wr dq osq)
        have oB1 := HH.out.2.2.all (below_regrown wr dq osq)
        clear cC gp gq p3 q3 x0 x1 x2 x3 x4 y0 y1 y2 y3 y4 gx0 gy0 gx1 gy1 gx2 gy2 gx3 gy3 gx4 gy4
        generalize grow (redrawn wr dq) osq = W3 at *
        go_wp2
        go_roundg (l.length - (k + 1))
        case measure => have := HG.out; omega
        case rel => exact ⟨k + 1, by omega, rfl, by go_num, hb1, oA1, oB1⟩
      · obtain rfl : k = l.length := by omega
        have p4 := oA.cell (i := 4) rfl
        have HH := Lib.hid (And.intro hb (And.intro oA oB))
        clear hb oA oB q3
        go_wp2
        clear p3 p4
        go_loopg [6] f.length (fun g i wr => ∃ k : Nat, k ≤ f.length ∧ g = f.length - k ∧ i = .int .i64 k ∧ Below w.heap.size w wr ∧ Own wr w.heap.size [.int .i64 k2', .int .i64 n2', sV s2', .slice la l.length lc, .slice fa f.length fc] 25 ∧ Own wr (w.heap.size + 1) [.int .i64 k2', .int .i64 n2', sV s2', .slice la2 l.length lc2, .slice fa2 f.length fc2] 25)
        case atStart => exact ⟨0, Nat.zero_le _, rfl, rfl, HH.out.1, HH.out.2.1, HH.out.2.2⟩
        case round =>
          clear hk hlt HG
          obtain ⟨k, hk, hg, rfl, hb, oA, oB⟩ := hrel
          have HG := Lib.hid hg
          clear hg HH
          have p4 := oA.cell (i := 4) rfl
          have q4 := oB.cell (i := 4) rfl
          by_cases hlt : k < f.length
          · have hx := get_some hlt
            generalize f[k] = x at hx
            obtain ⟨b, off, c, rfl, hbl, hIx, xx, x0, x1, x2, x3, x4⟩ := HL.out.2.1.at hb hx
            obtain ⟨b', off', d, rfl, hbl', hIy, yy, y0, y1, y2, y3, y4⟩ := HL.out.2.2.2.at hb hx
            have hsz : SizeOf.sizeOf x.2 ≤ N := by have := sizeOf_f (k := k2') (n := n2') (s := s2') (l := l) (List.mem_of_getElem? hx); omega
            have cC : ∀ dd os, Calls Tryz.prog 38 #[c.val, d.val] (grow (redrawn wr dd) os) fun e w'' => e = .returned (.bool true) ∧ ∃ p : Regrown, w'' = grow (redrawn wr p.d) p.os := fun dd os => Calls.regrown_of (ih x.2 hsz c d _ (hIx.all (below_regrown wr dd os)) (hIy.all (below_regrown wr dd os)))
            clear hx hIx hIy ih
            have HH := Lib.hid (And.intro hb (And.intro oA oB))
            clear hb oA oB
            have gp := cell_regrown p4
            have gq := cell_regrown q4
            have gxx := cell_regrown xx
            have gyy := cell_regrown yy
            have gx0 := cell_regrown x0
            have gy0 := cell_regrown y0
            have gx1 := cell_regrown x1
            have gy1 := cell_regrown y1
            have gx2 := cell_regrown x2
            have gy2 := cell_regrown y2
            have gx3 := cell_regrown x3
            have gy3 := cell_regrown y3
            have gx4 := cell_regrown x4
            have gy4 := cell_regrown y4
            go_upto_region 11 with (fail)
            refine wp_region_quiet_below (by kernel_rfl) (by kernel_rfl) ?_
            repeat (first | go_big_quiet_step ((with_reducible exact cC _ _)) | quiet_step (with_reducible exact cC _ _))
            refine wpQuiet_nil ?_
            intro _ hw'
            obtain ⟨⟨dq, osq⟩, hw''⟩ := hw'
            subst hw''
            have hb1 := below_all HH.out.1 (below_regrown wr dq osq)
            have oA1 := HH.out.2.1.all (below_regrown wr dq osq)
            have oB1 := HH.out.2.2.all (below_regrown wr dq osq)
            clear cC gp gq p4 q4 xx yy gxx gyy x0 x1 x2 x3 x4 y0 y1 y2 y3 y4 gx0 gy0 gx1 gy1 gx2 gy2 gx3 gy3 gx4 gy4
            generalize grow (redrawn wr dq) osq = W3 at *
            go_wp2
            go_roundg (f.length - (k + 1))
            case measure => have := HG.out; omega
            case rel => exact ⟨k + 1, by omega, rfl, by go_num, hb1, oA1, oB1⟩
          · obtain rfl : k = f.length := by omega
            have HB := Lib.hid hb
            clear hb oA oB q4
            go_wp2
            go_ret
            exact ⟨rfl, HB.out⟩
def plainOk (l : List S) : Bool := l.all (fun s => !decide (s.k = 3))
theorem plainOk_iff {l : List S} (h : plainOk l = true) : ∀ s ∈ l, ¬ s.k = 3 := by
  unfold plainOk at h
  simpa using h
set_option maxHeartbeats 4000000 in
set_option maxRecDepth 4000 in
theorem plain_any (v : Value) (l : List S) (w : World) (hv : Stps w v l) : Calls Tryz.prog 41 #[v] w fun e w' => e = .returned (.bool (plainOk l)) ∧ Below w.heap.size w w' := by
  obtain ⟨ao, cp, rfl, hlc, hlm⟩ := hv.form
  unfold maxLen at hlm
  go_enter Tryz.func41, Tryz.ntmps41
  go_wp2
  go_loopg [7] l.length (fun g i wr => ∃ k : Nat, k ≤ l.length ∧ g = l.length - k ∧ i = .int .i64 k ∧ Below w.heap.size w wr ∧ Hid (AllTo (fun s => !decide (s.k = 3)) l k))
  case atStart => exact ⟨0, Nat.zero_le _, rfl, rfl, Below.refl _ _, Lib.hid (AllTo_zero _ _)⟩
  case round =>
    obtain ⟨k, hk, hg, rfl, hb, HN⟩ := hrel
    have HG := Lib.hid hg
    clear hg
    by_cases hlt : k < l.length
    · have hx := get_some hlt
      obtain ⟨x, hxx⟩ : ∃ x, l[k] = x := ⟨_, rfl⟩
      rw [hxx] at hx
      obtain ⟨b, off, rfl, hbl, q0, q1, q2, q3⟩ := hv.at hb hx
      have HX := Lib.hid hxx
      obtain ⟨sk, sn, si, sv⟩ := x
      simp only at q0 q1 q2 q3
      have oN := Own.new wr [.int .i64 sk, sV sn, .int .i64 si, sV sv] 52
      have hbN := below_all hb (below_alloc wr (.cells #[.int .i64 sk, sV sn, .int .i64 si, sV sv] 52))
      clear hx hb hxx
      go_upto_region 4 with (fail)
      change Code.wp Tryz.prog _ _ _ (wr.alloc (.cells #[.int .i64 sk, sV sn, .int .i64 si, sV sv] 52))
      generalize wr.alloc (.cells #[.int .i64 sk, sV sn, .int .i64 si, sV sv] 52) = V at *
      generalize wr.heap.size = nb at *
      have HB := Lib.hid hbN
      have a0 := oN.cell (i := 0) rfl
      clear q0 q1 q2 q3 oN hbN
      by_cases c1 : sk = 3
      · have c2 : (sk == 3) = true := by rw [c1]; rfl
        go_wp2
        go_ret
        exact ⟨ret_bool (by unfold plainOk; rw [all_not hlt (by rw [HX.out]; simp [c1])]), HB.out⟩
      have c2 : (sk == 3) = false := by rw [beq_eq_false_iff_ne]; exact c1
      go_wp2
      go_roundg (l.length - (k + 1))
      case measure => have := HG.out; omega
      case rel => exact ⟨k + 1, by omega, rfl, by go_num, HB.out, Lib.hid (AllTo_succ HN.out hlt (by rw [HX.out]; simp [c1]))⟩
    · obtain rfl : k = l.length := by omega
      have HB := Lib.hid hb
      clear hb
      go_wp2
      go_ret
      exact ⟨ret_bool (by unfold plainOk; rw [all_of HN.out]), HB.out⟩
end Go.Proofs.YtjpmnlefjmdelaaGreatDoor
namespace Go.Proofs.YtjpmnlefjmdelaaGreatDoor
open Go.RowKit Go.Sort Go.Proofs.LawFrame

theorem rem_find : ∀ {p : List S} {t : T}, (∀ s ∈ p, stepOk s = true) → ¬ p = [] → (remT p t = none ↔ findT t p = none)
  | [], t, _, h => absurd rfl h
  | [s], t, hs, _ => by
    rw [remT, findT_step]
    unfold kid
    cases hp : place s t with
    | none => simp
    | some i =>
      obtain ⟨c, hc⟩ := kid_some (stepOk_ix (hs s (by simp))).1 hp
      simp only [hc]
      simp [findT]
  | s :: s' :: p, t, hs, _ => by
    rw [remT, findT_step]
    unfold kid
    cases hp : place s t with
    | none => simp
    | some i =>
      obtain ⟨c, hc⟩ := kid_some (stepOk_ix (hs s (by simp))).1 hp
      simp only [hc]
      rw [← rem_find (p := s' :: p) (t := c) (fun z hz => hs z (List.mem_cons_of_mem _ hz)) (by simp)]
      cases remT (s' :: p) c <;> simp
theorem RB.fixed {w w' : World} {P : Prop} {e : Ending} (h : RB w P e w') : ∃ r : Bool, e = .returned (.bool r) ∧ Below w.heap.size w w' ∧ (r = true ↔ P) := h.out
set_option maxHeartbeats 16000000 in
set_option maxRecDepth 4000 in
theorem pathRemoves_walk (c : VC) (t : T) (v1 : Value) (p : List S) (w : World) (hI : Is w c t) (hst : t.strB 140737488355328) (hp : Stps w v1 p) :
    Calls Tryz.prog 13 #[c.val, v1] w fun e w' => e = .returned (.bool true) ∧ Below w.heap.size w w' := by
  obtain ⟨ck, cn, cs, cla, cln, clc, cfa, cfn, cfc⟩ := c
  obtain ⟨ao, cp, hv, hpc, hpm⟩ := Stps.form hp
  unfold maxLen at hpm
  obtain ⟨n, hn⟩ : ∃ n, p.length = n := ⟨_, rfl⟩
  rw [hn] at hv hpc
  subst hv
  have HN := Lib.hid hn
  clear hn
  show Calls Tryz.prog 13 #[.agg #[.int .i64 ck, .int .i64 cn, sV cs, .slice cla cln clc, .slice cfa cfn cfc], .slice ao n cp] w _
  have hb0 := below_alloc w (.cells #[.int .i64 ck, .int .i64 cn, sV cs, .slice cla cln clc, .slice cfa cfn cfc] 25)
  have o0 := Own.new w [.int .i64 ck, .int .i64 cn, sV cs, .slice cla cln clc, .slice cfa cfn cfc] 25
  have HS := Lib.hid (And.intro hb0 (And.intro o0 (And.intro (hI.all hb0) (Flat.all hp hb0))))
  have HT := Lib.hid hst
  clear hb0 o0 hI hp hst
  go_enter Tryz.func13, Tryz.ntmps13
  go_upto_region 1 with (fail)
  change Code.wp Tryz.prog _ _ _ (w.alloc (.cells #[.int .i64 ck, .int .i64 cn, sV cs, .slice cla cln clc, .slice cfa cfn cfc] 25))
  generalize w.alloc (.cells #[.int .i64 ck, .int .i64 cn, sV cs, .slice cla cln clc, .slice cfa cfn cfc] 25) = V at *
  have x0 := HS.out.2.1.cell (i := 0) rfl
  have x1 := HS.out.2.1.cell (i := 1) rfl
  have x2 := HS.out.2.1.cell (i := 2) rfl
  have x3 := HS.out.2.1.cell (i := 3) rfl
  have x4 := HS.out.2.1.cell (i := 4) rfl
  have C := Lib.hid (few2000_any t ⟨ck, cn, cs, cla, cln, clc, cfa, cfn, cfc⟩ V HS.out.2.2.1 HT.out)
  obtain ⟨B0, hB0⟩ : ∃ B, decide (0 ≤ leftT t 2000) = B := ⟨_, rfl⟩
  rw [hB0] at C
  have HB0 := Lib.hid hB0
  clear hB0
  go_wp2_with fail
  refine C.out.mono ?_
  rintro e w1 ⟨rfl, hb1⟩
  have HS1 := Lib.hid (show Below w.heap.size w w1 ∧ Own w1 w.heap.size [.int .i64 ck, .int .i64 cn, sV cs, .slice cla cln clc, .slice cfa cfn cfc] 25 ∧ Is w1 ⟨ck, cn, cs, cla, cln, clc, cfa, cfn, cfc⟩ t ∧ Stps w1 (.slice ao n cp) p from ⟨below_all HS.out.1 hb1, HS.out.2.1.all hb1, HS.out.2.2.1.all hb1, Flat.all HS.out.2.2.2 hb1⟩)
  clear C hb1 HS
  clear x0 x1 x2 x3 x4
  cases B0 with
  | false =>
    have CL := Lib.hid (plives_any w1)
    go_wp2_with fail
    refine CL.out.mono ?_
    rintro e wl ⟨rfl, hbl⟩
    have HBl := Lib.hid (below_all HS1.out.1 hbl)
    clear CL hbl
    go_wp2
    go_ret
    exact ⟨rfl, HBl.out⟩
  | true =>
    have C := Lib.hid (few_any _ p w1 HS1.out.2.2.2)
    obtain ⟨B1, hB1⟩ : ∃ B, fewOk p = B := ⟨_, rfl⟩
    rw [hB1] at C
    have HB1 := Lib.hid hB1
    clear hB1
    go_wp2_with fail
    refine C.out.mono ?_
    rintro e w2 ⟨rfl, hb2⟩
    have HS2 := Lib.hid (show Below w.heap.size w w2 ∧ Own w2 w.heap.size [.int .i64 ck, .int .i64 cn, sV cs, .slice cla cln clc, .slice cfa cfn cfc] 25 ∧ Is w2 ⟨ck, cn, cs, cla, cln, clc, cfa, cfn, cfc⟩ t ∧ Stps w2 (.slice ao n cp) p from ⟨below_all HS1.out.1 hb2, HS1.out.2.1.all hb2, HS1.out.2.2.1.all hb2, Flat.all HS1.out.2.2.2 hb2⟩)
    clear C hb2 HS1
    cases B1 with
    | false =>
      have CL := Lib.hid (plives_any w2)
      go_wp2_with fail
      refine CL.out.mono ?_
      rintro e wl ⟨rfl, hbl⟩
      have HBl := Lib.hid (below_all HS2.out.1 hbl)
      clear CL hbl
      go_wp2
      go_ret
      exact ⟨rfl, HBl.out⟩
    | true =>
      have hfew := fewOk_iff HB1.out
      cases n with
      | zero =>
        have CL := Lib.hid (plives_any w2)
        go_wp2_with fail
        refine CL.out.mono ?_
        rintro e wl ⟨rfl, hbl⟩
        have HBl := Lib.hid (below_all HS2.out.1 hbl)
        clear CL hbl
        go_wp2
        go_ret
        exact ⟨rfl, HBl.out⟩
      | succ m =>
        have hml : p[m]? = some (p[m]'(by have := HN.out; omega)) := get_some (by have := HN.out; omega)
        generalize p[m]'(by have := HN.out; omega) = sl at hml
        obtain ⟨pb, po, rfl, -, l0, -, -, -⟩ := Stps.at HS2.out.2.2.2 (Below.refl _ _) hml
        have HML := Lib.hid hml
        have hm20 : m < 20 := by have := HN.out; have := hfew.1; omega
        clear hml hfew
        obtain ⟨slk, sln, sli, slv⟩ := sl
        simp only at l0
        by_cases h1 : slk = 1
        case neg =>
          have h1b : (slk != 1) = true := by rw [bne_iff_ne]; exact h1
          have CL := Lib.hid (plives_any w2)
          go_wp2_with fail
          refine CL.out.mono ?_
          rintro e wl ⟨rfl, hbl⟩
          have HBl := Lib.hid (below_all HS2.out.1 hbl)
          clear CL hbl
          go_wp2
          go_ret
          exact ⟨rfl, HBl.out⟩
        subst h1
        have C := Lib.hid (plain_any _ p w2 HS2.out.2.2.2)
        obtain ⟨B2, hB2⟩ : ∃ B, plainOk p = B := ⟨_, rfl⟩
        rw [hB2] at C
        have HB2 := Lib.hid hB2
        clear hB2
        go_wp2_with fail
        refine C.out.mono ?_
        rintro e w3 ⟨rfl, hb3⟩
        have HS3 := Lib.hid (show Below w.heap.size w w3 ∧ Own w3 w.heap.size [.int .i64 ck, .int .i64 cn, sV cs, .slice cla cln clc, .slice cfa cfn cfc] 25 ∧ Is w3 ⟨ck, cn, cs, cla, cln, clc, cfa, cfn, cfc⟩ t ∧ Stps w3 (.slice (some ⟨pb, po, none⟩) (m + 1) cp) p from ⟨below_all HS2.out.1 hb3, HS2.out.2.1.all hb3, HS2.out.2.2.1.all hb3, Flat.all HS2.out.2.2.2 hb3⟩)
        clear C hb3 HS2 l0
        cases B2 with
        | false =>
          have CL := Lib.hid (plives_any w3)
          go_wp2_with fail
          refine CL.out.mono ?_
          rintro e wl ⟨rfl, hbl⟩
          have HBl := Lib.hid (below_all HS3.out.1 hbl)
          clear CL hbl
          go_wp2
          go_ret
          exact ⟨rfl, HBl.out⟩
        | true =>
          have hf2 := few2000 HT.out HB0.out
          have CV := Lib.hid (rvalidtop_any t ⟨ck, cn, cs, cla, cln, clc, cfa, cfn, cfc⟩ w3 HS3.out.2.2.1 hf2.2 (by have := hf2.1; omega))
          have HSZ := Lib.hid hf2
          clear hf2
          have x0 := HS3.out.2.1.cell (i := 0) rfl
          have x1 := HS3.out.2.1.cell (i := 1) rfl
          have x2 := HS3.out.2.1.cell (i := 2) rfl
          have x3 := HS3.out.2.1.cell (i := 3) rfl
          have x4 := HS3.out.2.1.cell (i := 4) rfl
          go_wp2_with fail
          refine CV.out.mono ?_
          intro e w4 hrb
          obtain ⟨R, rfl, hb4, hR⟩ := hrb.out
          have HR := Lib.hid hR
          have HS4 := Lib.hid (show Below w.heap.size w w4 ∧ Own w4 w.heap.size [.int .i64 ck, .int .i64 cn, sV cs, .slice cla cln clc, .slice cfa cfn cfc] 25 ∧ Is w4 ⟨ck, cn, cs, cla, cln, clc, cfa, cfn, cfc⟩ t ∧ Stps w4 (.slice (some ⟨pb, po, none⟩) (m + 1) cp) p from ⟨below_all HS3.out.1 hb4, HS3.out.2.1.all hb4, HS3.out.2.2.1.all hb4, Flat.all HS3.out.2.2.2 hb4⟩)
          clear CV hrb hR hb4 HS3
          clear x0 x1 x2 x3 x4
          cases R with
          | false =>
            have CL := Lib.hid (plives_any w4)
            go_wp2_with fail
            refine CL.out.mono ?_
            rintro e wl ⟨rfl, hbl⟩
            have HBl := Lib.hid (below_all HS4.out.1 hbl)
            clear CL hbl
            go_wp2
            go_ret
            exact ⟨rfl, HBl.out⟩
          | true =>
            have HOK := Lib.hid (HR.out.1 rfl)
            clear HR
            have C := Lib.hid (pathGet_any ⟨ck, cn, cs, cla, cln, clc, cfa, cfn, cfc⟩ t _ p w4 HS4.out.2.2.1 (by have := HSZ.out.1; omega) HS4.out.2.2.2 (by have := HN.out; omega))
            have x0 := HS4.out.2.1.cell (i := 0) rfl
            have x1 := HS4.out.2.1.cell (i := 1) rfl
            have x2 := HS4.out.2.1.cell (i := 2) rfl
            have x3 := HS4.out.2.1.cell (i := 3) rfl
            have x4 := HS4.out.2.1.cell (i := 4) rfl
            go_wp2_with fail
            refine C.out.mono ?_
            intro e w5 hres
            clear C
            clear x0 x1 x2 x3 x4
            by_cases hgot : pathOk p = true ∧ ∃ x, findT t p = some x
            case neg =>
              have hno : pathOk p = true → findT t p = none := fun h => by
                cases hq : findT t p with
                | none => rfl
                | some x => exact absurd ⟨h, x, hq⟩ hgot
              obtain rfl := hres.no hno
              have HS5 := Lib.hid (show Below w.heap.size w w5 ∧ Own w5 w.heap.size [.int .i64 ck, .int .i64 cn, sV cs, .slice cla cln clc, .slice cfa cfn cfc] 25 ∧ Is w5 ⟨ck, cn, cs, cla, cln, clc, cfa, cfn, cfc⟩ t ∧ Stps w5 (.slice (some ⟨pb, po, none⟩) (m + 1) cp) p from ⟨below_all HS4.out.1 hres.below, HS4.out.2.1.all hres.below, HS4.out.2.2.1.all hres.below, Flat.all HS4.out.2.2.2 hres.below⟩)
              have HNO := Lib.hid hno
              clear hres hgot hno HS4
              have hbA := below_alloc w5 (.cells #[.int .i64 0, .int .i64 0, .string ⟨#[]⟩, .slice none 0 0, .slice none 0 0] 25)
              have HS6 := Lib.hid (show Below w.heap.size w (w5.alloc (.cells #[.int .i64 0, .int .i64 0, .string ⟨#[]⟩, .slice none 0 0, .slice none 0 0] 25)) ∧ Own (w5.alloc (.cells #[.int .i64 0, .int .i64 0, .string ⟨#[]⟩, .slice none 0 0, .slice none 0 0] 25)) w.heap.size [.int .i64 ck, .int .i64 cn, sV cs, .slice cla cln clc, .slice cfa cfn cfc] 25 ∧ Is (w5.alloc (.cells #[.int .i64 0, .int .i64 0, .string ⟨#[]⟩, .slice none 0 0, .slice none 0 0] 25)) ⟨ck, cn, cs, cla, cln, clc, cfa, cfn, cfc⟩ t ∧ Stps (w5.alloc (.cells #[.int .i64 0, .int .i64 0, .string ⟨#[]⟩, .slice none 0 0, .slice none 0 0] 25)) (.slice (some ⟨pb, po, none⟩) (m + 1) cp) p from ⟨below_all HS5.out.1 hbA, HS5.out.2.1.all hbA, HS5.out.2.2.1.all hbA, Flat.all HS5.out.2.2.2 hbA⟩)
              clear hbA HS5
              go_upto_region 4 with (fail)
              change Code.wp Tryz.prog _ _ _ (w5.alloc (.cells #[.int .i64 0, .int .i64 0, .string ⟨#[]⟩, .slice none 0 0, .slice none 0 0] 25))
              generalize w5.alloc (.cells #[.int .i64 0, .int .i64 0, .string ⟨#[]⟩, .slice none 0 0, .slice none 0 0] 25) = W6 at *
              have C := Lib.hid (pathRemove_any ⟨ck, cn, cs, cla, cln, clc, cfa, cfn, cfc⟩ t _ p W6 HS6.out.2.2.1 (by have := HSZ.out.1; omega) HS6.out.2.2.2 (by have := HN.out; omega))
              have x0 := HS6.out.2.1.cell (i := 0) rfl
              have x1 := HS6.out.2.1.cell (i := 1) rfl
              have x2 := HS6.out.2.1.cell (i := 2) rfl
              have x3 := HS6.out.2.1.cell (i := 3) rfl
              have x4 := HS6.out.2.1.cell (i := 4) rfl
              go_wp2_with fail
              refine C.out.mono ?_
              intro e w7 hres
              clear C
              clear x0 x1 x2 x3 x4
              obtain rfl := hres.no (fun h => (rem_find (pathOk_all h.2).2 h.1).2 (HNO.out h.2))
              have HB7 := Lib.hid (below_all (below_all HS6.out.1 hres.below) (below_alloc w7 (.cells #[.int .i64 0, .int .i64 0, .string ⟨#[]⟩, .slice none 0 0, .slice none 0 0] 25)))
              clear hres HS6
              go_upto_region 5 with (fail)
              change Code.wp Tryz.prog _ _ _ (w7.alloc (.cells #[.int .i64 0, .int .i64 0, .string ⟨#[]⟩, .slice none 0 0, .slice none 0 0] 25))
              generalize w7.alloc (.cells #[.int .i64 0, .int .i64 0, .string ⟨#[]⟩, .slice none 0 0, .slice none 0 0] 25) = W8 at *
              have CL := Lib.hid (plives_any W8)
              go_wp2_with fail
              refine CL.out.mono ?_
              rintro e wl ⟨rfl, hbl⟩
              have HBl := Lib.hid (below_all HB7.out hbl)
              clear CL hbl
              go_wp2
              go_ret
              exact ⟨rfl, HBl.out⟩
            obtain ⟨hpok, x, hfx⟩ := hgot
            obtain ⟨⟨gk, gn, gs, gla, gln, glc, gfa, gfn, gfc⟩, hi, rfl, -, -, hIS⟩ := hres.ok hpok x hfx
            have hIx := hIS.is
            have HS5 := Lib.hid (show Below w.heap.size w w5 ∧ Own w5 w.heap.size [.int .i64 ck, .int .i64 cn, sV cs, .slice cla cln clc, .slice cfa cfn cfc] 25 ∧ Is w5 ⟨ck, cn, cs, cla, cln, clc, cfa, cfn, cfc⟩ t ∧ Stps w5 (.slice (some ⟨pb, po, none⟩) (m + 1) cp) p from ⟨below_all HS4.out.1 hres.below, HS4.out.2.1.all hres.below, HS4.out.2.2.1.all hres.below, Flat.all HS4.out.2.2.2 hres.below⟩)
            have hlast : ∀ s, p.getLast? = some s → s.k = 1 := fun s hs => by
              rw [List.getLast?_eq_getElem?, HN.out, Nat.add_sub_cancel, HML.out] at hs
              cases hs; rfl
            obtain ⟨w', hrem⟩ : ∃ w', remT p t = some w' := by
              cases hq : remT p t with
              | some w' => exact ⟨w', rfl⟩
              | none =>
                have := (rem_find (pathOk_all hpok).2 (fun h => by have := HN.out; rw [h] at this; simp at this)).1 hq
                rw [hfx] at this; cases this
            obtain ⟨x', hx', hvw, hsw, hgone, hset⟩ := rem_set (pathOk_all hpok).2 (plainOk_iff HB2.out) hlast HOK.out.1 hrem
            rw [hfx] at hx'
            obtain rfl := Option.some.inj hx'
            obtain ⟨dx, hdx, hvx⟩ := find_val HOK.out.1 hfx
            have hvx := val_mono hdx hvx
            have hsx := findT_size hfx
            have hres2 : resS p w' x = (t, 0) := by
              have h0 : (setP p w' x).2 = 0 := by rw [hset]
              rw [resS_ok ⟨hpok, ⟨hvw, Int.le_trans hsw HOK.out.2⟩, ⟨hvx, Int.le_trans hsx HOK.out.2⟩⟩ h0 (by rw [hset]; exact HOK.out), hset]
            have HM := Lib.hid (And.intro hpok (And.intro hrem (And.intro hgone (And.intro hres2 (Int.le_trans hsw HOK.out.2)))))
            have hbA := below_alloc w5 (.cells #[.int .i64 gk, .int .i64 gn, sV gs, .slice gla gln glc, .slice gfa gfn gfc] 25)
            have HG := Lib.hid (And.intro (Own.new w5 [.int .i64 gk, .int .i64 gn, sV gs, .slice gla gln glc, .slice gfa gfn gfc] 25) (hIx.all hbA))
            have HS6 := Lib.hid (show Below w.heap.size w (w5.alloc (.cells #[.int .i64 gk, .int .i64 gn, sV gs, .slice gla gln glc, .slice gfa gfn gfc] 25)) ∧ Own (w5.alloc (.cells #[.int .i64 gk, .int .i64 gn, sV gs, .slice gla gln glc, .slice gfa gfn gfc] 25)) w.heap.size [.int .i64 ck, .int .i64 cn, sV cs, .slice cla cln clc, .slice cfa cfn cfc] 25 ∧ Is (w5.alloc (.cells #[.int .i64 gk, .int .i64 gn, sV gs, .slice gla gln glc, .slice gfa gfn gfc] 25)) ⟨ck, cn, cs, cla, cln, clc, cfa, cfn, cfc⟩ t ∧ Stps (w5.alloc (.cells #[.int .i64 gk, .int .i64 gn, sV gs, .slice gla gln glc, .slice gfa gfn gfc] 25)) (.slice (some ⟨pb, po, none⟩) (m + 1) cp) p from ⟨below_all HS5.out.1 hbA, HS5.out.2.1.all hbA, HS5.out.2.2.1.all hbA, Flat.all HS5.out.2.2.2 hbA⟩)
            have hgb : w5.heap.size < (w5.alloc (.cells #[.int .i64 gk, .int .i64 gn, sV gs, .slice gla gln glc, .slice gfa gfn gfc] 25)).heap.size := by rw [size_alloc]; omega
            clear hbA HS5 hres hIS hIx hlast hrem hx' hvw hsw hgone hset hvx hsx hres2 hdx hpok hfx HS4
            go_upto_region 4 with (fail)
            change Code.wp Tryz.prog _ _ _ (w5.alloc (.cells #[.int .i64 gk, .int .i64 gn, sV gs, .slice gla gln glc, .slice gfa gfn gfc] 25))
            generalize w5.alloc (.cells #[.int .i64 gk, .int .i64 gn, sV gs, .slice gla gln glc, .slice gfa gfn gfc] 25) = W6 at *
            generalize w5.heap.size = gb at *
            have C := Lib.hid (pathRemove_any ⟨ck, cn, cs, cla, cln, clc, cfa, cfn, cfc⟩ t _ p W6 HS6.out.2.2.1 (by have := HSZ.out.1; omega) HS6.out.2.2.2 (by have := HN.out; omega))
            have x0 := HS6.out.2.1.cell (i := 0) rfl
            have x1 := HS6.out.2.1.cell (i := 1) rfl
            have x2 := HS6.out.2.1.cell (i := 2) rfl
            have x3 := HS6.out.2.1.cell (i := 3) rfl
            have x4 := HS6.out.2.1.cell (i := 4) rfl
            go_wp2_with fail
            refine C.out.mono ?_
            intro e w7 hres
            clear C
            clear x0 x1 x2 x3 x4
            obtain ⟨⟨rk, rn, rs, rla, rln, rlc, rfa, rfn, rfc⟩, rfl, hIr⟩ := hres.ok ⟨fun h => (by have := HN.out; rw [h] at this; simp at this), HM.out.1⟩ w' HM.out.2.1
            have hb7 := hres.below
            have HS7 := Lib.hid (show Below w.heap.size w w7 ∧ Own w7 w.heap.size [.int .i64 ck, .int .i64 cn, sV cs, .slice cla cln clc, .slice cfa cfn cfc] 25 ∧ Is w7 ⟨ck, cn, cs, cla, cln, clc, cfa, cfn, cfc⟩ t ∧ Stps w7 (.slice (some ⟨pb, po, none⟩) (m + 1) cp) p from ⟨below_all HS6.out.1 hb7, HS6.out.2.1.all hb7, HS6.out.2.2.1.all hb7, Flat.all HS6.out.2.2.2 hb7⟩)
            have HG7 := Lib.hid (And.intro (HG.out.1.all hb7) (HG.out.2.all hb7))
            have hbA := below_alloc w7 (.cells #[.int .i64 rk, .int .i64 rn, sV rs, .slice rla rln rlc, .slice rfa rfn rfc] 25)
            have HR8 := Lib.hid (And.intro (Own.new w7 [.int .i64 rk, .int .i64 rn, sV rs, .slice rla rln rlc, .slice rfa rfn rfc] 25) (hIr.all hbA))
            have HS8 := Lib.hid (show Below w.heap.size w (w7.alloc (.cells #[.int .i64 rk, .int .i64 rn, sV rs, .slice rla rln rlc, .slice rfa rfn rfc] 25)) ∧ Own (w7.alloc (.cells #[.int .i64 rk, .int .i64 rn, sV rs, .slice rla rln rlc, .slice rfa rfn rfc] 25)) w.heap.size [.int .i64 ck, .int .i64 cn, sV cs, .slice cla cln clc, .slice cfa cfn cfc] 25 ∧ Is (w7.alloc (.cells #[.int .i64 rk, .int .i64 rn, sV rs, .slice rla rln rlc, .slice rfa rfn rfc] 25)) ⟨ck, cn, cs, cla, cln, clc, cfa, cfn, cfc⟩ t ∧ Stps (w7.alloc (.cells #[.int .i64 rk, .int .i64 rn, sV rs, .slice rla rln rlc, .slice rfa rfn rfc] 25)) (.slice (some ⟨pb, po, none⟩) (m + 1) cp) p from ⟨below_all HS7.out.1 hbA, HS7.out.2.1.all hbA, HS7.out.2.2.1.all hbA, Flat.all HS7.out.2.2.2 hbA⟩)
            have HG8 := Lib.hid (And.intro (HG7.out.1.all hbA) (HG7.out.2.all hbA))
            clear hres hb7 HS6 HS7 HG HG7 hbA hIr
            go_upto_region 5 with (fail)
            change Code.wp Tryz.prog _ _ _ (w7.alloc (.cells #[.int .i64 rk, .int .i64 rn, sV rs, .slice rla rln rlc, .slice rfa rfn rfc] 25))
            generalize w7.alloc (.cells #[.int .i64 rk, .int .i64 rn, sV rs, .slice rla rln rlc, .slice rfa rfn rfc] 25) = W8 at *
            generalize w7.heap.size = rb at *
            have C := Lib.hid (pathGet_any ⟨rk, rn, rs, rla, rln, rlc, rfa, rfn, rfc⟩ w' _ p W8 HR8.out.2 (by have := HM.out.2.2.2.2; omega) HS8.out.2.2.2 (by have := HN.out; omega))
            have x0 := HR8.out.1.cell (i := 0) rfl
            have x1 := HR8.out.1.cell (i := 1) rfl
            have x2 := HR8.out.1.cell (i := 2) rfl
            have x3 := HR8.out.1.cell (i := 3) rfl
            have x4 := HR8.out.1.cell (i := 4) rfl
            go_wp2_with fail
            refine C.out.mono ?_
            intro e w9 hres
            clear C
            clear x0 x1 x2 x3 x4
            obtain rfl := hres.no (fun _ => HM.out.2.2.1)
            have hb9 := below_alloc w9 (.cells #[.int .i64 0, .int .i64 0, .string ⟨#[]⟩, .slice none 0 0, .slice none 0 0] 25)
            have HS9 := Lib.hid (show Below w.heap.size w w9 ∧ Own w9 w.heap.size [.int .i64 ck, .int .i64 cn, sV cs, .slice cla cln clc, .slice cfa cfn cfc] 25 ∧ Is w9 ⟨ck, cn, cs, cla, cln, clc, cfa, cfn, cfc⟩ t ∧ Stps w9 (.slice (some ⟨pb, po, none⟩) (m + 1) cp) p from ⟨below_all HS8.out.1 hres.below, HS8.out.2.1.all hres.below, HS8.out.2.2.1.all hres.below, Flat.all HS8.out.2.2.2 hres.below⟩)
            have HS10 := Lib.hid (show Below w.heap.size w (w9.alloc (.cells #[.int .i64 0, .int .i64 0, .string ⟨#[]⟩, .slice none 0 0, .slice none 0 0] 25)) ∧ Own (w9.alloc (.cells #[.int .i64 0, .int .i64 0, .string ⟨#[]⟩, .slice none 0 0, .slice none 0 0] 25)) w.heap.size [.int .i64 ck, .int .i64 cn, sV cs, .slice cla cln clc, .slice cfa cfn cfc] 25 ∧ Is (w9.alloc (.cells #[.int .i64 0, .int .i64 0, .string ⟨#[]⟩, .slice none 0 0, .slice none 0 0] 25)) ⟨ck, cn, cs, cla, cln, clc, cfa, cfn, cfc⟩ t ∧ Stps (w9.alloc (.cells #[.int .i64 0, .int .i64 0, .string ⟨#[]⟩, .slice none 0 0, .slice none 0 0] 25)) (.slice (some ⟨pb, po, none⟩) (m + 1) cp) p from ⟨below_all HS9.out.1 hb9, HS9.out.2.1.all hb9, HS9.out.2.2.1.all hb9, Flat.all HS9.out.2.2.2 hb9⟩)
            have HG10 := Lib.hid (And.intro ((HG8.out.1.all hres.below).all hb9) ((HG8.out.2.all hres.below).all hb9))
            have HR10 := Lib.hid (And.intro ((HR8.out.1.all hres.below).all hb9) ((HR8.out.2.all hres.below).all hb9))
            clear hres hb9 HS8 HS9 HG8 HR8
            go_upto_region 10 with (fail)
            change Code.wp Tryz.prog _ _ _ (w9.alloc (.cells #[.int .i64 0, .int .i64 0, .string ⟨#[]⟩, .slice none 0 0, .slice none 0 0] 25))
            generalize w9.alloc (.cells #[.int .i64 0, .int .i64 0, .string ⟨#[]⟩, .slice none 0 0, .slice none 0 0] 25) = W10 at *
            have C := Lib.hid (pathSet_any p _ W10 HS10.out.2.2.2 (by have := HN.out; omega) ⟨rk, rn, rs, rla, rln, rlc, rfa, rfn, rfc⟩ ⟨gk, gn, gs, gla, gln, glc, gfa, gfn, gfc⟩ w' x HR10.out.2 HG10.out.2)
            have x0 := HR10.out.1.cell (i := 0) rfl
            have x1 := HR10.out.1.cell (i := 1) rfl
            have x2 := HR10.out.1.cell (i := 2) rfl
            have x3 := HR10.out.1.cell (i := 3) rfl
            have x4 := HR10.out.1.cell (i := 4) rfl
            have y0 := HG10.out.1.cell (i := 0) rfl
            have y1 := HG10.out.1.cell (i := 1) rfl
            have y2 := HG10.out.1.cell (i := 2) rfl
            have y3 := HG10.out.1.cell (i := 3) rfl
            have y4 := HG10.out.1.cell (i := 4) rfl
            go_wp2_with fail
            refine C.out.mono ?_
            intro e w11 hres
            clear C
            clear x0 x1 x2 x3 x4
            clear y0 y1 y2 y3 y4
            obtain ⟨⟨bk, bn, bs, bla, bln, blc, bfa, bfn, bfc⟩, he, hIb⟩ := hres.out
            rw [HM.out.2.2.2.1] at he hIb
            subst he
            have hb11 := hres.below
            have hbA := below_alloc w11 (.cells #[.int .i64 bk, .int .i64 bn, sV bs, .slice bla bln blc, .slice bfa bfn bfc] 25)
            have HS11 := Lib.hid (show Below w.heap.size w w11 ∧ Own w11 w.heap.size [.int .i64 ck, .int .i64 cn, sV cs, .slice cla cln clc, .slice cfa cfn cfc] 25 ∧ Is w11 ⟨ck, cn, cs, cla, cln, clc, cfa, cfn, cfc⟩ t ∧ Stps w11 (.slice (some ⟨pb, po, none⟩) (m + 1) cp) p from ⟨below_all HS10.out.1 hb11, HS10.out.2.1.all hb11, HS10.out.2.2.1.all hb11, Flat.all HS10.out.2.2.2 hb11⟩)
            have HS12 := Lib.hid (show Below w.heap.size w (w11.alloc (.cells #[.int .i64 bk, .int .i64 bn, sV bs, .slice bla bln blc, .slice bfa bfn bfc] 25)) ∧ Own (w11.alloc (.cells #[.int .i64 bk, .int .i64 bn, sV bs, .slice bla bln blc, .slice bfa bfn bfc] 25)) w.heap.size [.int .i64 ck, .int .i64 cn, sV cs, .slice cla cln clc, .slice cfa cfn cfc] 25 ∧ Is (w11.alloc (.cells #[.int .i64 bk, .int .i64 bn, sV bs, .slice bla bln blc, .slice bfa bfn bfc] 25)) ⟨ck, cn, cs, cla, cln, clc, cfa, cfn, cfc⟩ t ∧ Stps (w11.alloc (.cells #[.int .i64 bk, .int .i64 bn, sV bs, .slice bla bln blc, .slice bfa bfn bfc] 25)) (.slice (some ⟨pb, po, none⟩) (m + 1) cp) p from ⟨below_all HS11.out.1 hbA, HS11.out.2.1.all hbA, HS11.out.2.2.1.all hbA, Flat.all HS11.out.2.2.2 hbA⟩)
            have HB12 := Lib.hid (And.intro (Own.new w11 [.int .i64 bk, .int .i64 bn, sV bs, .slice bla bln blc, .slice bfa bfn bfc] 25) (hIb.is.all hbA))
            clear hres hb11 hbA HS10 HS11 HG10 HR10 hIb
            go_upto_region 11 with (fail)
            change Code.wp Tryz.prog _ _ _ (w11.alloc (.cells #[.int .i64 bk, .int .i64 bn, sV bs, .slice bla bln blc, .slice bfa bfn bfc] 25))
            generalize w11.alloc (.cells #[.int .i64 bk, .int .i64 bn, sV bs, .slice bla bln blc, .slice bfa bfn bfc] 25) = W12 at *
            have C := Lib.hid (alike_any _ t (Nat.le_refl _) ⟨bk, bn, bs, bla, bln, blc, bfa, bfn, bfc⟩ ⟨ck, cn, cs, cla, cln, clc, cfa, cfn, cfc⟩ W12 HB12.out.2 HS12.out.2.2.1)
            have x0 := HS12.out.2.1.cell (i := 0) rfl
            have x1 := HS12.out.2.1.cell (i := 1) rfl
            have x2 := HS12.out.2.1.cell (i := 2) rfl
            have x3 := HS12.out.2.1.cell (i := 3) rfl
            have x4 := HS12.out.2.1.cell (i := 4) rfl
            have y0 := HB12.out.1.cell (i := 0) rfl
            have y1 := HB12.out.1.cell (i := 1) rfl
            have y2 := HB12.out.1.cell (i := 2) rfl
            have y3 := HB12.out.1.cell (i := 3) rfl
            have y4 := HB12.out.1.cell (i := 4) rfl
            go_wp2_with fail
            refine C.out.mono ?_
            rintro e w13 ⟨rfl, hb13⟩
            have HB13 := Lib.hid (below_all HS12.out.1 hb13)
            clear C hb13
            clear x0 x1 x2 x3 x4
            clear y0 y1 y2 y3 y4
            have CL := Lib.hid (plives_any w13)
            go_wp2_with fail
            refine CL.out.mono ?_
            rintro e wl ⟨rfl, hbl⟩
            have HBl := Lib.hid (below_all HB13.out hbl)
            clear CL hbl
            go_wp2
            go_ret
            exact ⟨rfl, HBl.out⟩
end Go.Proofs.YtjpmnlefjmdelaaGreatDoor
