/- The walk of LabelEdits. -/
import Derived.Test.YtfohhokdcobhjaaDoorYb
import Derived.Test.YtfohhokdcobhjaaDoorMh
namespace Go.Proofs.YtfohhokdcobhjaaDoor
open Go.RowKit Go.Sort Go.Proofs.LawFrame

theorem get_of {l : List Lab} {key v : Str} (h : getL l key = some v) : getV l key = v ∧ getB l key = true := by unfold getV getB; rw [h]; exact ⟨rfl, rfl⟩
theorem get_eq {l m : List Lab} {key : Str} (h : getL l key = getL m key) : getV l key = getV m key ∧ getB l key = getB m key := by unfold getV getB; rw [h]; exact ⟨rfl, rfl⟩
theorem with_bd {l : List Lab} (h : LBd l) {key v : Str} (hk : key.length ≤ 1000000) (hv : v.length ≤ 1000000) : LBd (withL l key v) := by
  obtain ⟨A, B, e1, e2, -, -⟩ := insL_parts (restL l key) key v
  have hR : ∀ x ∈ A ++ B, x.1.length ≤ 1000000 ∧ x.2.length ≤ 1000000 := fun x hx => by
    rw [← e1] at hx; exact h x (List.mem_filter.1 hx).1
  intro x hx
  unfold withL at hx; rw [e2] at hx
  rcases List.mem_append.1 hx with hx | hx
  · exact hR x (List.mem_append.2 (Or.inl hx))
  · rcases List.mem_cons.1 hx with rfl | hx
    · exact ⟨hk, hv⟩
    · exact hR x (List.mem_append.2 (Or.inr hx))
theorem with_len (l : List Lab) (key v : Str) : (withL l key v).length ≤ l.length + 1 := by unfold withL; rw [insL_len]; have := restL_len l key; omega

set_option maxRecDepth 4000 in
set_option maxHeartbeats 16000000 in
theorem edits_walk (v : Value) (l : List Lab) (key val other : Str) (w : World) (hl : Labs w v l) :
    Calls Tryd.prog 9 #[v, sV key, sV val, sV other] w fun e w' => e = .returned (.bool true) ∧ Below w.heap.size w w' := by
  have C1 := Lib.hid (small_any v (.slice none 0 0) l [] w hl (reqs_nil w))
  cases hS : smallB l []
  · rw [hS] at C1
    go_enter Tryd.func9, Tryd.ntmps9
    go_wp2_with fail
    refine C1.out.mono ?_
    rintro e W1 ⟨rfl, b1⟩
    go_wp2_with fail
    refine (lives_any W1).mono ?_
    rintro e W2 ⟨rfl, b2⟩
    go_wp2
    go_ret
    exact ⟨rfl, below_all b1 b2⟩
  have hl40 := (small_l hS).1
  have hlb := (small_l hS).2
  rw [hS] at C1
  clear hS
  by_cases hk : 200 < key.length
  · go_enter Tryd.func9, Tryd.ntmps9
    go_wp2_with fail
    refine C1.out.mono ?_
    rintro e W1 ⟨rfl, b1⟩
    go_wp2_with fail
    refine (lives_any W1).mono ?_
    rintro e W2 ⟨rfl, b2⟩
    go_wp2
    go_ret
    exact ⟨rfl, below_all b1 b2⟩
  by_cases hvl : 200 < val.length
  · go_enter Tryd.func9, Tryd.ntmps9
    go_wp2_with fail
    refine C1.out.mono ?_
    rintro e W1 ⟨rfl, b1⟩
    go_wp2_with fail
    refine (lives_any W1).mono ?_
    rintro e W2 ⟨rfl, b2⟩
    go_wp2
    go_ret
    exact ⟨rfl, below_all b1 b2⟩
  by_cases hol : 200 < other.length
  · go_enter Tryd.func9, Tryd.ntmps9
    go_wp2_with fail
    refine C1.out.mono ?_
    rintro e W1 ⟨rfl, b1⟩
    go_wp2_with fail
    refine (lives_any W1).mono ?_
    rintro e W2 ⟨rfl, b2⟩
    go_wp2
    go_ret
    exact ⟨rfl, below_all b1 b2⟩
  have HG := Lib.hid (get_of (getL_with l key val))
  have HO := Lib.hid (fun h => get_eq (getL_other l (key := key) (other := other) val h))
  have HVm := Lib.hid (fun h1 h2 h3 => with_valid (l := l) (key := key) (v := val) h1 h2 h3)
  have HWW := Lib.hid (with_with l key val)
  have hmb := with_bd hlb (key := key) (v := val) (by omega) (by omega)
  have hml := with_len l key val
  go_enter Tryd.func9, Tryd.ntmps9
  go_wp2_with fail
  refine C1.out.mono ?_
  rintro e W1 ⟨rfl, b1⟩
  have hl1 : Labs W1 v l := hl.all b1
  go_wp2_with fail
  refine (with_any v l key val W1 hl1 (by omega)).mono ?_
  rintro e W2 ⟨mv, rfl, hm2, b2⟩
  have hl2 : Labs W2 v l := hl1.all b2
  have b12 := below_all b1 b2
  generalize withL l key val = m at *
  have CG := Lib.hid (get_any mv m key W2 hm2)
  rw [HG.out.1, HG.out.2] at CG
  go_wp2_with fail
  refine CG.out.mono ?_
  rintro e W3 ⟨rfl, b3⟩
  have hl3 : Labs W3 v l := hl2.all b3
  have hm3 : Labs W3 mv m := hm2.all b3
  have b13 := below_all b12 b3
  clear CG hl2 hm2 b12 b3 hl1 b1 b2 C1 hl
  by_cases he : other = key
  · have hq : (other == key) = true := by rw [he]; simp
    have hl5 := hl3
    have hm5 := hm3
    have b15 := b13
    clear hl3 hm3 b13
    generalize W3 = W5 at *
    clear HO he
    go_wp2_with fail
    refine (get_any v l key W5 hl5).mono ?_
    rintro e W6 ⟨rfl, b6⟩
    have hl6 : Labs W6 v l := hl5.all b6
    have hm6 : Labs W6 mv m := hm5.all b6
    have b16 := below_all b15 b6
    clear hl5 hm5 b15 b6
    generalize getV l key = gv at *
    have CV := Lib.hid (valid_any v l W6 hl6 hlb)
    obtain ⟨la, lc, rfl, hlc1, hlc2, -⟩ := hl6.out
    unfold maxLen at hlc2
    cases hv1 : labsOk l
    · rw [hv1] at CV
      go_wp2_with fail
      refine CV.out.mono ?_
      rintro e W7 ⟨rfl, b7⟩
      have hm7 : Labs W7 mv m := hm6.all b7
      have b17 := below_all b16 b7
      clear hl6 hm6 b16 b7 CV
      have CE := Lib.hid (with_any mv m key val W7 hm7 (by omega))
      rw [HWW.out] at CE
      go_wp2_with fail
      refine CE.out.mono ?_
      rintro e X1 ⟨rv, rfl, hr1, x1⟩
      have hmx : Labs X1 mv m := hm7.all x1
      have bx1 := below_all b17 x1
      go_wp2_with fail
      refine (same_any rv mv m X1 hr1 hmx).mono ?_
      rintro e X2 ⟨rfl, x2⟩
      have bx2 := below_all bx1 x2
      go_wp2_with fail
      refine (lives_any X2).mono ?_
      rintro e X3 ⟨rfl, x3⟩
      go_wp2
      go_ret
      exact ⟨rfl, below_all bx2 x3⟩
    · rw [hv1] at CV
      go_wp2_with fail
      refine CV.out.mono ?_
      rintro e W7 ⟨rfl, b7⟩
      have hm7 : Labs W7 mv m := hm6.all b7
      have b17 := below_all b16 b7
      have o8 := Own.new W7 [sV key, sV val] 45
      have hL8 : Labs (W7.alloc (.cells #[sV key, sV val] 45)) (.slice (some ⟨W7.heap.size, 0, none⟩) 1 1) [(key, val)] := labs_own (base := 0) (n := 1) (own_mk o8 (Nat.zero_le _) (Nat.le_refl _) (by unfold maxLen; decide) rfl rfl) rfl
      have b8 := below_alloc W7 (.cells #[sV key, sV val] 45)
      have hm8 : Labs _ mv m := hm7.all b8
      have b18 := below_all b17 b8
      have CK := Lib.hid (valid_any _ [(key, val)] _ hL8 (fun q hq => by simp at hq; subst hq; exact ⟨show key.length ≤ 1000000 by omega, show val.length ≤ 1000000 by omega⟩))
      clear hl6 hm6 b16 b7 CV o8 hL8 hm7 b17 b8
      cases hv2 : labsOk [(key, val)]
      · rw [hv2] at CK
        go_wp2_with fail
        refine CK.out.mono ?_
        rintro e W9 ⟨rfl, b9⟩
        have hm9 : Labs W9 mv m := hm8.all b9
        have b19 := below_all b18 b9
        clear hm8 b18 b9 CK
        have CE := Lib.hid (with_any mv m key val W9 hm9 (by omega))
        rw [HWW.out] at CE
        go_wp2_with fail
        refine CE.out.mono ?_
        rintro e X1 ⟨rv, rfl, hr1, x1⟩
        have hmx : Labs X1 mv m := hm9.all x1
        have bx1 := below_all b19 x1
        go_wp2_with fail
        refine (same_any rv mv m X1 hr1 hmx).mono ?_
        rintro e X2 ⟨rfl, x2⟩
        have bx2 := below_all bx1 x2
        go_wp2_with fail
        refine (lives_any X2).mono ?_
        rintro e X3 ⟨rfl, x3⟩
        go_wp2
        go_ret
        exact ⟨rfl, below_all bx2 x3⟩
      · rw [hv2] at CK
        have HV := Lib.hid (fun h => HVm.out hv1 hv2 h)
        cases hgb : getB l key
        · by_cases h16 : l.length < 16
          · have hvm := HV.out (Or.inr h16)
            have h16' : (l.length : Int) < 16 := by omega
            go_wp2_with fail
            refine CK.out.mono ?_
            rintro e W9 ⟨rfl, b9⟩
            have hm9 : Labs W9 mv m := hm8.all b9
            have b19 := below_all b18 b9
            clear hm8 b18 b9 CK
            have CM := Lib.hid (valid_any mv m W9 hm9 hmb)
            rw [hvm] at CM
            go_wp2_with fail
            refine CM.out.mono ?_
            rintro e W10 ⟨rfl, b10⟩
            have hm10 : Labs W10 mv m := hm9.all b10
            have b110 := below_all b19 b10
            clear hm9 b19 b10 CM
            have CE := Lib.hid (with_any mv m key val W10 hm10 (by omega))
            rw [HWW.out] at CE
            go_wp2_with fail
            refine CE.out.mono ?_
            rintro e X1 ⟨rv, rfl, hr1, x1⟩
            have hmx : Labs X1 mv m := hm10.all x1
            have bx1 := below_all b110 x1
            go_wp2_with fail
            refine (same_any rv mv m X1 hr1 hmx).mono ?_
            rintro e X2 ⟨rfl, x2⟩
            have bx2 := below_all bx1 x2
            go_wp2_with fail
            refine (lives_any X2).mono ?_
            rintro e X3 ⟨rfl, x3⟩
            go_wp2
            go_ret
            exact ⟨rfl, below_all bx2 x3⟩
          · have h16' : ¬ (l.length : Int) < 16 := by omega
            go_wp2_with fail
            refine CK.out.mono ?_
            rintro e W9 ⟨rfl, b9⟩
            have hm9 : Labs W9 mv m := hm8.all b9
            have b19 := below_all b18 b9
            clear hm8 b18 b9 CK
            have CE := Lib.hid (with_any mv m key val W9 hm9 (by omega))
            rw [HWW.out] at CE
            go_wp2_with fail
            refine CE.out.mono ?_
            rintro e X1 ⟨rv, rfl, hr1, x1⟩
            have hmx : Labs X1 mv m := hm9.all x1
            have bx1 := below_all b19 x1
            go_wp2_with fail
            refine (same_any rv mv m X1 hr1 hmx).mono ?_
            rintro e X2 ⟨rfl, x2⟩
            have bx2 := below_all bx1 x2
            go_wp2_with fail
            refine (lives_any X2).mono ?_
            rintro e X3 ⟨rfl, x3⟩
            go_wp2
            go_ret
            exact ⟨rfl, below_all bx2 x3⟩
        · have hvm := HV.out (Or.inl hgb)
          go_wp2_with fail
          refine CK.out.mono ?_
          rintro e W9 ⟨rfl, b9⟩
          have hm9 : Labs W9 mv m := hm8.all b9
          have b19 := below_all b18 b9
          clear hm8 b18 b9 CK
          have CM := Lib.hid (valid_any mv m W9 hm9 hmb)
          rw [hvm] at CM
          go_wp2_with fail
          refine CM.out.mono ?_
          rintro e W10 ⟨rfl, b10⟩
          have hm10 : Labs W10 mv m := hm9.all b10
          have b110 := below_all b19 b10
          clear hm9 b19 b10 CM
          have CE := Lib.hid (with_any mv m key val W10 hm10 (by omega))
          rw [HWW.out] at CE
          go_wp2_with fail
          refine CE.out.mono ?_
          rintro e X1 ⟨rv, rfl, hr1, x1⟩
          have hmx : Labs X1 mv m := hm10.all x1
          have bx1 := below_all b110 x1
          go_wp2_with fail
          refine (same_any rv mv m X1 hr1 hmx).mono ?_
          rintro e X2 ⟨rfl, x2⟩
          have bx2 := below_all bx1 x2
          go_wp2_with fail
          refine (lives_any X2).mono ?_
          rintro e X3 ⟨rfl, x3⟩
          go_wp2
          go_ret
          exact ⟨rfl, below_all bx2 x3⟩
  · have hq : (other == key) = false := by simpa using he
    obtain ⟨ho1, ho2⟩ := HO.out he
    go_wp2_with fail
    refine (get_any v l other W3 hl3).mono ?_
    rintro e W4 ⟨rfl, b4⟩
    have hl4 : Labs W4 v l := hl3.all b4
    have hm4 : Labs W4 mv m := hm3.all b4
    have b14 := below_all b13 b4
    have CO := Lib.hid (get_any mv m other W4 hm4)
    rw [ho1, ho2] at CO
    clear ho1 ho2 HO he hl3 hm3 b13 b4
    generalize getV l other = og at *
    generalize getB l other = ob at *
    go_wp2_with fail
    refine CO.out.mono ?_
    rintro e W5 ⟨rfl, b5⟩
    have hl5 : Labs W5 v l := hl4.all b5
    have hm5 : Labs W5 mv m := hm4.all b5
    have b15 := below_all b14 b5
    clear hl4 hm4 b14 b5 CO
    go_wp2_with fail
    refine (get_any v l key W5 hl5).mono ?_
    rintro e W6 ⟨rfl, b6⟩
    have hl6 : Labs W6 v l := hl5.all b6
    have hm6 : Labs W6 mv m := hm5.all b6
    have b16 := below_all b15 b6
    clear hl5 hm5 b15 b6
    generalize getV l key = gv at *
    have CV := Lib.hid (valid_any v l W6 hl6 hlb)
    obtain ⟨la, lc, rfl, hlc1, hlc2, -⟩ := hl6.out
    unfold maxLen at hlc2
    cases hv1 : labsOk l
    · rw [hv1] at CV
      go_wp2_with fail
      refine CV.out.mono ?_
      rintro e W7 ⟨rfl, b7⟩
      have hm7 : Labs W7 mv m := hm6.all b7
      have b17 := below_all b16 b7
      clear hl6 hm6 b16 b7 CV
      have CE := Lib.hid (with_any mv m key val W7 hm7 (by omega))
      rw [HWW.out] at CE
      go_wp2_with fail
      refine CE.out.mono ?_
      rintro e X1 ⟨rv, rfl, hr1, x1⟩
      have hmx : Labs X1 mv m := hm7.all x1
      have bx1 := below_all b17 x1
      go_wp2_with fail
      refine (same_any rv mv m X1 hr1 hmx).mono ?_
      rintro e X2 ⟨rfl, x2⟩
      have bx2 := below_all bx1 x2
      go_wp2_with fail
      refine (lives_any X2).mono ?_
      rintro e X3 ⟨rfl, x3⟩
      go_wp2
      go_ret
      exact ⟨rfl, below_all bx2 x3⟩
    · rw [hv1] at CV
      go_wp2_with fail
      refine CV.out.mono ?_
      rintro e W7 ⟨rfl, b7⟩
      have hm7 : Labs W7 mv m := hm6.all b7
      have b17 := below_all b16 b7
      have o8 := Own.new W7 [sV key, sV val] 45
      have hL8 : Labs (W7.alloc (.cells #[sV key, sV val] 45)) (.slice (some ⟨W7.heap.size, 0, none⟩) 1 1) [(key, val)] := labs_own (base := 0) (n := 1) (own_mk o8 (Nat.zero_le _) (Nat.le_refl _) (by unfold maxLen; decide) rfl rfl) rfl
      have b8 := below_alloc W7 (.cells #[sV key, sV val] 45)
      have hm8 : Labs _ mv m := hm7.all b8
      have b18 := below_all b17 b8
      have CK := Lib.hid (valid_any _ [(key, val)] _ hL8 (fun q hq => by simp at hq; subst hq; exact ⟨show key.length ≤ 1000000 by omega, show val.length ≤ 1000000 by omega⟩))
      clear hl6 hm6 b16 b7 CV o8 hL8 hm7 b17 b8
      cases hv2 : labsOk [(key, val)]
      · rw [hv2] at CK
        go_wp2_with fail
        refine CK.out.mono ?_
        rintro e W9 ⟨rfl, b9⟩
        have hm9 : Labs W9 mv m := hm8.all b9
        have b19 := below_all b18 b9
        clear hm8 b18 b9 CK
        have CE := Lib.hid (with_any mv m key val W9 hm9 (by omega))
        rw [HWW.out] at CE
        go_wp2_with fail
        refine CE.out.mono ?_
        rintro e X1 ⟨rv, rfl, hr1, x1⟩
        have hmx : Labs X1 mv m := hm9.all x1
        have bx1 := below_all b19 x1
        go_wp2_with fail
        refine (same_any rv mv m X1 hr1 hmx).mono ?_
        rintro e X2 ⟨rfl, x2⟩
        have bx2 := below_all bx1 x2
        go_wp2_with fail
        refine (lives_any X2).mono ?_
        rintro e X3 ⟨rfl, x3⟩
        go_wp2
        go_ret
        exact ⟨rfl, below_all bx2 x3⟩
      · rw [hv2] at CK
        have HV := Lib.hid (fun h => HVm.out hv1 hv2 h)
        cases hgb : getB l key
        · by_cases h16 : l.length < 16
          · have hvm := HV.out (Or.inr h16)
            have h16' : (l.length : Int) < 16 := by omega
            go_wp2_with fail
            refine CK.out.mono ?_
            rintro e W9 ⟨rfl, b9⟩
            have hm9 : Labs W9 mv m := hm8.all b9
            have b19 := below_all b18 b9
            clear hm8 b18 b9 CK
            have CM := Lib.hid (valid_any mv m W9 hm9 hmb)
            rw [hvm] at CM
            go_wp2_with fail
            refine CM.out.mono ?_
            rintro e W10 ⟨rfl, b10⟩
            have hm10 : Labs W10 mv m := hm9.all b10
            have b110 := below_all b19 b10
            clear hm9 b19 b10 CM
            have CE := Lib.hid (with_any mv m key val W10 hm10 (by omega))
            rw [HWW.out] at CE
            go_wp2_with fail
            refine CE.out.mono ?_
            rintro e X1 ⟨rv, rfl, hr1, x1⟩
            have hmx : Labs X1 mv m := hm10.all x1
            have bx1 := below_all b110 x1
            go_wp2_with fail
            refine (same_any rv mv m X1 hr1 hmx).mono ?_
            rintro e X2 ⟨rfl, x2⟩
            have bx2 := below_all bx1 x2
            go_wp2_with fail
            refine (lives_any X2).mono ?_
            rintro e X3 ⟨rfl, x3⟩
            go_wp2
            go_ret
            exact ⟨rfl, below_all bx2 x3⟩
          · have h16' : ¬ (l.length : Int) < 16 := by omega
            go_wp2_with fail
            refine CK.out.mono ?_
            rintro e W9 ⟨rfl, b9⟩
            have hm9 : Labs W9 mv m := hm8.all b9
            have b19 := below_all b18 b9
            clear hm8 b18 b9 CK
            have CE := Lib.hid (with_any mv m key val W9 hm9 (by omega))
            rw [HWW.out] at CE
            go_wp2_with fail
            refine CE.out.mono ?_
            rintro e X1 ⟨rv, rfl, hr1, x1⟩
            have hmx : Labs X1 mv m := hm9.all x1
            have bx1 := below_all b19 x1
            go_wp2_with fail
            refine (same_any rv mv m X1 hr1 hmx).mono ?_
            rintro e X2 ⟨rfl, x2⟩
            have bx2 := below_all bx1 x2
            go_wp2_with fail
            refine (lives_any X2).mono ?_
            rintro e X3 ⟨rfl, x3⟩
            go_wp2
            go_ret
            exact ⟨rfl, below_all bx2 x3⟩
        · have hvm := HV.out (Or.inl hgb)
          go_wp2_with fail
          refine CK.out.mono ?_
          rintro e W9 ⟨rfl, b9⟩
          have hm9 : Labs W9 mv m := hm8.all b9
          have b19 := below_all b18 b9
          clear hm8 b18 b9 CK
          have CM := Lib.hid (valid_any mv m W9 hm9 hmb)
          rw [hvm] at CM
          go_wp2_with fail
          refine CM.out.mono ?_
          rintro e W10 ⟨rfl, b10⟩
          have hm10 : Labs W10 mv m := hm9.all b10
          have b110 := below_all b19 b10
          clear hm9 b19 b10 CM
          have CE := Lib.hid (with_any mv m key val W10 hm10 (by omega))
          rw [HWW.out] at CE
          go_wp2_with fail
          refine CE.out.mono ?_
          rintro e X1 ⟨rv, rfl, hr1, x1⟩
          have hmx : Labs X1 mv m := hm10.all x1
          have bx1 := below_all b110 x1
          go_wp2_with fail
          refine (same_any rv mv m X1 hr1 hmx).mono ?_
          rintro e X2 ⟨rfl, x2⟩
          have bx2 := below_all bx1 x2
          go_wp2_with fail
          refine (lives_any X2).mono ?_
          rintro e X3 ⟨rfl, x3⟩
          go_wp2
          go_ret
          exact ⟨rfl, below_all bx2 x3⟩
end Go.Proofs.YtfohhokdcobhjaaDoor
