/- The laws' walks: ResourceOrder. -/
import Derived.Test.YtjjkihohmgpgdaaWe
import Derived.Test.YtjjkihohmgpgdaaRa
import Derived.Deep.Cut
import Derived.Deep.DeepCutAuto
namespace Go.Proofs.Ytjjkihohmgpgdaa
open Go.RowKit Go.Sort Go.Proofs.LawFrame

theorem fitsZ_trans {a0 a1 a2 b0 b1 b2 c0 c1 c2 : Int} (h : fitsZ a0 a1 a2 b0 b1 b2 = true) (k : fitsZ b0 b1 b2 c0 c1 c2 = true) : fitsZ a0 a1 a2 c0 c1 c2 = true := by
  obtain ⟨h0, h1, h2⟩ := fitsZ_true.1 h
  obtain ⟨k0, k1, k2⟩ := fitsZ_true.1 k
  exact fitsZ_true.2 ⟨leZ_trans h0 k0, leZ_trans h1 k1, leZ_trans h2 k2⟩
theorem fitsZ_anti {a0 a1 a2 b0 b1 b2 : Int} (h : fitsZ a0 a1 a2 b0 b1 b2 = true) (k : fitsZ b0 b1 b2 a0 a1 a2 = true) : addZ a0 0 = addZ b0 0 ∧ addZ a1 0 = addZ b1 0 ∧ addZ a2 0 = addZ b2 0 := by
  obtain ⟨h0, h1, h2⟩ := fitsZ_true.1 h
  obtain ⟨k0, k1, k2⟩ := fitsZ_true.1 k
  exact ⟨leZ_antisymm h0 k0, leZ_antisymm h1 k1, leZ_antisymm h2 k2⟩
theorem fits_as_said (a0 a1 a2 b0 b1 b2 : Int) (w : World) (x : Bool) (hx : fitsZ a0 a1 a2 b0 b1 b2 = x) : Calls Try.prog 13 #[.agg #[.int .i64 a0, .int .i64 a1, .int .i64 a2], .agg #[.int .i64 b0, .int .i64 b1, .int .i64 b2]] w fun e w' => e = .returned (.bool x) ∧ Below w.heap.size w w' := by
  have h := fits_any a0 a1 a2 b0 b1 b2 w
  rw [hx] at h
  exact h
theorem add_diff (a0 a1 a2 b0 b1 b2 : Int) (w : World) (hx : fitsZ a0 a1 a2 b0 b1 b2 = true) : Calls Try.prog 9 #[.agg #[.int .i64 a0, .int .i64 a1, .int .i64 a2], .agg #[.int .i64 (subZ b0 a0), .int .i64 (subZ b1 a1), .int .i64 (subZ b2 a2)]] w fun e w' => e = .returned (.agg #[.int .i64 (addZ b0 0), .int .i64 (addZ b1 0), .int .i64 (addZ b2 0)]) ∧ Below w.heap.size w w' := by
  obtain ⟨h0, h1, h2⟩ := fitsZ_true.1 hx
  have h := add_any a0 a1 a2 (subZ b0 a0) (subZ b1 a1) (subZ b2 a2) w
  rw [(leZ_iff _ _).1 h0, (leZ_iff _ _).1 h1, (leZ_iff _ _).1 h2] at h
  exact h

set_option maxRecDepth 100000 in
set_option maxHeartbeats 2000000 in
theorem order_walk (a0 a1 a2 b0 b1 b2 c0 c1 c2 : Int) (w : World) :
    Calls Try.prog 7 #[.agg #[.int .i64 a0, .int .i64 a1, .int .i64 a2], .agg #[.int .i64 b0, .int .i64 b1, .int .i64 b2], .agg #[.int .i64 c0, .int .i64 c1, .int .i64 c2]] w fun e w' => e = .returned (.bool true) ∧ Below w.heap.size w w' := by
  go_enter Try.func7, Try.ntmps7
  go_wp2
  have hw0 : Below w.heap.size w (((w.alloc (.cells #[.int .i64 a0, .int .i64 a1, .int .i64 a2] 23)).alloc (.cells #[.int .i64 b0, .int .i64 b1, .int .i64 b2] 23)).alloc (.cells #[.int .i64 c0, .int .i64 c1, .int .i64 c2] 23)) := (((Below.refl _ _).alloc (Nat.le_refl _) _).alloc (by simp) _).alloc (by simp; omega) _
  have oA : Own (((w.alloc (.cells #[.int .i64 a0, .int .i64 a1, .int .i64 a2] 23)).alloc (.cells #[.int .i64 b0, .int .i64 b1, .int .i64 b2] 23)).alloc (.cells #[.int .i64 c0, .int .i64 c1, .int .i64 c2] 23)) w.heap.size [.int .i64 a0, .int .i64 a1, .int .i64 a2] 23 := ((Own.new _ _ _).alloc _).alloc _
  have oB : Own (((w.alloc (.cells #[.int .i64 a0, .int .i64 a1, .int .i64 a2] 23)).alloc (.cells #[.int .i64 b0, .int .i64 b1, .int .i64 b2] 23)).alloc (.cells #[.int .i64 c0, .int .i64 c1, .int .i64 c2] 23)) (w.heap.size + 1) [.int .i64 b0, .int .i64 b1, .int .i64 b2] 23 := (Own.new_at (by rw [size_alloc]) _ _).alloc _
  have oC : Own (((w.alloc (.cells #[.int .i64 a0, .int .i64 a1, .int .i64 a2] 23)).alloc (.cells #[.int .i64 b0, .int .i64 b1, .int .i64 b2] 23)).alloc (.cells #[.int .i64 c0, .int .i64 c1, .int .i64 c2] 23)) (w.heap.size + 1 + 1) [.int .i64 c0, .int .i64 c1, .int .i64 c2] 23 := Own.new_at (by rw [size_alloc, size_alloc]) _ _
  generalize ((w.alloc (.cells #[.int .i64 a0, .int .i64 a1, .int .i64 a2] 23)).alloc (.cells #[.int .i64 b0, .int .i64 b1, .int .i64 b2] 23)).alloc (.cells #[.int .i64 c0, .int .i64 c1, .int .i64 c2] 23) = W at *
  have hw3 : w.heap.size + 1 + 1 < W.heap.size := oC.lt
  have HW3 := Lib.hid hw3
  clear hw3
  have HO := Lib.hid (And.intro hw0 (And.intro oA (And.intro oB oC)))
  clear hw0 oA oB oC
  apply wp_region_allocs 6 8 [⟨6, 7, [.int .i64 0, .int .i64 0, .int .i64 0], 23⟩, ⟨7, 8, [.int .i64 0, .int .i64 0, .int .i64 0], 23⟩] (by kernel_rfl) (by kernel_rfl)
  case hrun =>
    intro x hx o ho
    simp only [List.mem_cons, List.not_mem_nil, or_false] at hx
    rcases hx with rfl | rfl
    all_goals
      obtain rfl := Option.some.inj ho
      intro a w
      go_simp
  case hq =>
    intro T hT
    obtain ⟨hw0, oA, oB, oC⟩ := HO.out
    obtain ⟨u0, u1, u2⟩ := (oA.all hT).three
    obtain ⟨v0, v1, v2⟩ := (oB.all hT).three
    have ku0 := cell_regrown u0
    have ku1 := cell_regrown u1
    have ku2 := cell_regrown u2
    have kv0 := cell_regrown v0
    have kv1 := cell_regrown v1
    have kv2 := cell_regrown v2
    have cA : ∀ (x0 x1 x2 y0 y1 y2 : Int) dd os, Calls Try.prog 9 #[.agg #[.int .i64 x0, .int .i64 x1, .int .i64 x2], .agg #[.int .i64 y0, .int .i64 y1, .int .i64 y2]] (grow (redrawn T dd) os) fun e w'' => e = .returned (.agg #[.int .i64 (addZ x0 y0), .int .i64 (addZ x1 y1), .int .i64 (addZ x2 y2)]) ∧ ∃ p : Regrown, w'' = grow (redrawn T p.d) p.os := fun _ _ _ _ _ _ dd os => Calls.regrown_of (add_any _ _ _ _ _ _ _)
    clear oA oB oC hw0 u0 u1 u2 v0 v1 v2 hT
    simp only [List.take_succ_cons, List.take_zero]
    repeat (first | go_big_quiet_step ((with_reducible exact cA _ _ _ _ _ _ _ _)) | quiet_step (with_reducible exact cA _ _ _ _ _ _ _ _))
    exact wpQuiet_nil rfl
  case ht =>
    intro bs U hb hO hne
    obtain ⟨hw0, oA, oB, oC⟩ := HO.out
    clear HO
    obtain ⟨hx0, oX⟩ := hO _ List.mem_cons_self
    obtain ⟨hy0, oY⟩ := hO _ (List.mem_cons_of_mem _ List.mem_cons_self)
    have hxy := hne _ List.mem_cons_self _ (List.mem_cons_of_mem _ List.mem_cons_self) (by decide)
    simp only at hx0 oX hy0 oY hxy
    simp only [putAll, List.drop_succ_cons, List.drop_zero, Act.put]
    generalize bs 6 = x at *
    generalize bs 7 = y at *
    replace hw0 := below_all hw0 hb
    replace oA := oA.all hb
    replace oB := oB.all hb
    replace oC := oC.all hb
    clear hO hne hb bs
    obtain ⟨x0, x1, x2⟩ := oX.three
    obtain ⟨y0, y1, y2⟩ := oY.three
    have fx0 := oX.frozen 0
    have fx1 := oX.frozen 1
    have fx2 := oX.frozen 2
    have fy0 := oY.frozen 0
    have fy1 := oY.frozen 1
    have fy2 := oY.frozen 2
    have hyx : y ≠ x := Ne.symm hxy
    simp only [List.setIfInBounds_toArray, List.set_cons_succ, List.set_cons_zero]
    go_wp2
    have hlt : w.heap.size + 1 + 1 < x ∧ w.heap.size + 1 + 1 < y := by have := HW3.out; omega
    obtain ⟨hltx, hlty⟩ := hlt
    have hw2 := below_set (b := y) (i := 2) (below_set (b := y) (i := 1) (below_set (b := y) (i := 0) (below_set (b := x) (i := 2) (below_set (b := x) (i := 1) (below_set (b := x) (i := 0) (hw0) (by omega) (.int .i64 (addZ a0 0))) (by omega) (.int .i64 (addZ a1 0))) (by omega) (.int .i64 (addZ a2 0))) (by omega) (.int .i64 (addZ b0 0))) (by omega) (.int .i64 (addZ b1 0))) (by omega) (.int .i64 (addZ b2 0))
    have pA := Own.set_ne (b' := y) (Own.set_ne (b' := y) (Own.set_ne (b' := y) (Own.set_ne (b' := x) (Own.set_ne (b' := x) (Own.set_ne (b' := x) (oA) (by omega) 0 (.int .i64 (addZ a0 0))) (by omega) 1 (.int .i64 (addZ a1 0))) (by omega) 2 (.int .i64 (addZ a2 0))) (by omega) 0 (.int .i64 (addZ b0 0))) (by omega) 1 (.int .i64 (addZ b1 0))) (by omega) 2 (.int .i64 (addZ b2 0))
    have pB := Own.set_ne (b' := y) (Own.set_ne (b' := y) (Own.set_ne (b' := y) (Own.set_ne (b' := x) (Own.set_ne (b' := x) (Own.set_ne (b' := x) (oB) (by omega) 0 (.int .i64 (addZ a0 0))) (by omega) 1 (.int .i64 (addZ a1 0))) (by omega) 2 (.int .i64 (addZ a2 0))) (by omega) 0 (.int .i64 (addZ b0 0))) (by omega) 1 (.int .i64 (addZ b1 0))) (by omega) 2 (.int .i64 (addZ b2 0))
    have pC := Own.set_ne (b' := y) (Own.set_ne (b' := y) (Own.set_ne (b' := y) (Own.set_ne (b' := x) (Own.set_ne (b' := x) (Own.set_ne (b' := x) (oC) (by omega) 0 (.int .i64 (addZ a0 0))) (by omega) 1 (.int .i64 (addZ a1 0))) (by omega) 2 (.int .i64 (addZ a2 0))) (by omega) 0 (.int .i64 (addZ b0 0))) (by omega) 1 (.int .i64 (addZ b1 0))) (by omega) 2 (.int .i64 (addZ b2 0))
    have pX := Own.set_ne (b' := y) (Own.set_ne (b' := y) (Own.set_ne (b' := y) ((((oX).set 0 (.int .i64 (addZ a0 0))).set 1 (.int .i64 (addZ a1 0))).set 2 (.int .i64 (addZ a2 0))) (by omega) 0 (.int .i64 (addZ b0 0))) (by omega) 1 (.int .i64 (addZ b1 0))) (by omega) 2 (.int .i64 (addZ b2 0))
    have pY := (((Own.set_ne (b' := x) (Own.set_ne (b' := x) (Own.set_ne (b' := x) (oY) (by omega) 0 (.int .i64 (addZ a0 0))) (by omega) 1 (.int .i64 (addZ a1 0))) (by omega) 2 (.int .i64 (addZ a2 0))).set 0 (.int .i64 (addZ b0 0))).set 1 (.int .i64 (addZ b1 0))).set 2 (.int .i64 (addZ b2 0))
    clear x0 x1 x2 y0 y1 y2 fx0 fx1 fx2 fy0 fy1 fy2 oA oB oC oX oY hw0 hxy hyx hx0 hy0 hltx hlty
    generalize ((((((U).setCell ⟨x, 0, none⟩ (.int .i64 (addZ a0 0))).setCell ⟨x, 1, none⟩ (.int .i64 (addZ a1 0))).setCell ⟨x, 2, none⟩ (.int .i64 (addZ a2 0))).setCell ⟨y, 0, none⟩ (.int .i64 (addZ b0 0))).setCell ⟨y, 1, none⟩ (.int .i64 (addZ b1 0))).setCell ⟨y, 2, none⟩ (.int .i64 (addZ b2 0)) = V at *
    have hEX : addZ a0 0 = addZ b0 0 → addZ a1 0 = addZ b1 0 → addZ a2 0 = addZ b2 0 → fitsZ a0 a1 a2 b0 b1 b2 = true ∧ fitsZ b0 b1 b2 a0 a1 a2 = true := fun h0 h1 h2 => ⟨fitsZ_true.2 ⟨leZ_of_eq h0, leZ_of_eq h1, leZ_of_eq h2⟩, fitsZ_true.2 ⟨leZ_of_eq h0.symm, leZ_of_eq h1.symm, leZ_of_eq h2.symm⟩⟩
    have HEX := Lib.hid hEX
    clear hEX
    have HP := Lib.hid (And.intro hw2 (And.intro pA (And.intro pB (And.intro pC (And.intro (show Own V x [.int .i64 (addZ a0 0), .int .i64 (addZ a1 0), .int .i64 (addZ a2 0)] 23 from pX) (show Own V y [.int .i64 (addZ b0 0), .int .i64 (addZ b1 0), .int .i64 (addZ b2 0)] 23 from pY))))))
    clear hw2 pA pB pC pX pY
    go_cut [42] (fun s42 wx => s42 = .bool false ∧ Below V.heap.size V wx)
    case first =>
      obtain ⟨hw2, pA, pB, pC, pX, pY⟩ := HP.out
      obtain ⟨u0, u1, u2⟩ := pA.three
      obtain ⟨v0, v1, v2⟩ := pB.three
      obtain ⟨z0, z1, z2⟩ := pC.three
      obtain ⟨x0, x1, x2⟩ := pX.three
      obtain ⟨y0, y1, y2⟩ := pY.three
      clear hw2 pA pB pC pX pY
      have ku0 := cell_regrown u0
      have ku1 := cell_regrown u1
      have ku2 := cell_regrown u2
      have kv0 := cell_regrown v0
      have kv1 := cell_regrown v1
      have kv2 := cell_regrown v2
      have kz0 := cell_regrown z0
      have kz1 := cell_regrown z1
      have kz2 := cell_regrown z2
      have kx0 := cell_regrown x0
      have kx1 := cell_regrown x1
      have kx2 := cell_regrown x2
      have ky0 := cell_regrown y0
      have ky1 := cell_regrown y1
      have ky2 := cell_regrown y2
      clear u0 u1 u2 v0 v1 v2 z0 z1 z2 x0 x1 x2 y0 y1 y2
      by_cases g0 : addZ a0 0 = addZ b0 0
      · by_cases g1 : addZ a1 0 = addZ b1 0
        · by_cases g2 : addZ a2 0 = addZ b2 0
          · obtain ⟨f1, f2⟩ := HEX.out g0 g1 g2
            have e0 : (addZ a0 0 == addZ b0 0) = true := by simpa using g0
            have e1 : (addZ a1 0 == addZ b1 0) = true := by simpa using g1
            have e2 : (addZ a2 0 == addZ b2 0) = true := by simpa using g2
            have Hg0 := Lib.hid g0
            have Hg1 := Lib.hid g1
            have Hg2 := Lib.hid g2
            clear g0 g1 g2
            have cAB : ∀ dd os, Calls Try.prog 13 #[.agg #[.int .i64 a0, .int .i64 a1, .int .i64 a2], .agg #[.int .i64 b0, .int .i64 b1, .int .i64 b2]] (grow (redrawn V dd) os) fun e w'' => e = .returned (.bool true) ∧ ∃ p : Regrown, w'' = grow (redrawn V p.d) p.os := fun dd os => Calls.regrown_of (fits_as_said _ _ _ _ _ _ _ _ f1)
            have cBA : ∀ dd os, Calls Try.prog 13 #[.agg #[.int .i64 b0, .int .i64 b1, .int .i64 b2], .agg #[.int .i64 a0, .int .i64 a1, .int .i64 a2]] (grow (redrawn V dd) os) fun e w'' => e = .returned (.bool true) ∧ ∃ p : Regrown, w'' = grow (redrawn V p.d) p.os := fun dd os => Calls.regrown_of (fits_as_said _ _ _ _ _ _ _ _ f2)
            rcases Bool.eq_false_or_eq_true (fitsZ b0 b1 b2 c0 c1 c2) with f3 | f3
            · have f4 := fitsZ_trans f1 f3
              have cBC : ∀ dd os, Calls Try.prog 13 #[.agg #[.int .i64 b0, .int .i64 b1, .int .i64 b2], .agg #[.int .i64 c0, .int .i64 c1, .int .i64 c2]] (grow (redrawn V dd) os) fun e w'' => e = .returned (.bool true) ∧ ∃ p : Regrown, w'' = grow (redrawn V p.d) p.os := fun dd os => Calls.regrown_of (fits_as_said _ _ _ _ _ _ _ _ f3)
              have cAC : ∀ dd os, Calls Try.prog 13 #[.agg #[.int .i64 a0, .int .i64 a1, .int .i64 a2], .agg #[.int .i64 c0, .int .i64 c1, .int .i64 c2]] (grow (redrawn V dd) os) fun e w'' => e = .returned (.bool true) ∧ ∃ p : Regrown, w'' = grow (redrawn V p.d) p.os := fun dd os => Calls.regrown_of (fits_as_said _ _ _ _ _ _ _ _ f4)
              have Hf1 := Lib.hid f1
              have Hf2 := Lib.hid f2
              have Hf3 := Lib.hid f3
              have Hf4 := Lib.hid f4
              clear f1 f2 f3 f4
              refine wp_region_quiet_below (by kernel_rfl) (by kernel_rfl) ?_
              repeat (first | go_big_quiet_step ((first | with_reducible exact cAB _ _ | with_reducible exact cBA _ _ | with_reducible exact cBC _ _ | with_reducible exact cAC _ _)) | quiet_step (first | with_reducible exact cAB _ _ | with_reducible exact cBA _ _ | with_reducible exact cBC _ _ | with_reducible exact cAC _ _))
              refine wpQuiet_nil ?_
              intro _ hw'
              obtain ⟨⟨dq, osq⟩, hw''⟩ := hw'
              subst hw''
              go_wp2_with fail
              go_meet
              exact ⟨rfl, below_regrown V dq osq⟩
            · have cBC : ∀ dd os, Calls Try.prog 13 #[.agg #[.int .i64 b0, .int .i64 b1, .int .i64 b2], .agg #[.int .i64 c0, .int .i64 c1, .int .i64 c2]] (grow (redrawn V dd) os) fun e w'' => e = .returned (.bool false) ∧ ∃ p : Regrown, w'' = grow (redrawn V p.d) p.os := fun dd os => Calls.regrown_of (fits_as_said _ _ _ _ _ _ _ _ f3)
              have Hf1 := Lib.hid f1
              have Hf2 := Lib.hid f2
              have Hf3 := Lib.hid f3
              clear f1 f2 f3
              refine wp_region_quiet_below (by kernel_rfl) (by kernel_rfl) ?_
              repeat (first | go_big_quiet_step ((first | with_reducible exact cAB _ _ | with_reducible exact cBA _ _ | with_reducible exact cBC _ _)) | quiet_step (first | with_reducible exact cAB _ _ | with_reducible exact cBA _ _ | with_reducible exact cBC _ _))
              refine wpQuiet_nil ?_
              intro _ hw'
              obtain ⟨⟨dq, osq⟩, hw''⟩ := hw'
              subst hw''
              go_wp2_with fail
              go_meet
              exact ⟨rfl, below_regrown V dq osq⟩
          · have e0 : (addZ a0 0 == addZ b0 0) = true := by simpa using g0
            have e1 : (addZ a1 0 == addZ b1 0) = true := by simpa using g1
            have e2 : (addZ a2 0 == addZ b2 0) = false := by simpa using g2
            rcases Bool.eq_false_or_eq_true (fitsZ a0 a1 a2 b0 b1 b2) with f1 | f1
            · have f2 : fitsZ b0 b1 b2 a0 a1 a2 = false := by
                rcases Bool.eq_false_or_eq_true (fitsZ b0 b1 b2 a0 a1 a2) with f2 | f2
                · exact absurd (fitsZ_anti f1 f2).2.2 g2
                · exact f2
              have cAB : ∀ dd os, Calls Try.prog 13 #[.agg #[.int .i64 a0, .int .i64 a1, .int .i64 a2], .agg #[.int .i64 b0, .int .i64 b1, .int .i64 b2]] (grow (redrawn V dd) os) fun e w'' => e = .returned (.bool true) ∧ ∃ p : Regrown, w'' = grow (redrawn V p.d) p.os := fun dd os => Calls.regrown_of (fits_as_said _ _ _ _ _ _ _ _ f1)
              have cBA : ∀ dd os, Calls Try.prog 13 #[.agg #[.int .i64 b0, .int .i64 b1, .int .i64 b2], .agg #[.int .i64 a0, .int .i64 a1, .int .i64 a2]] (grow (redrawn V dd) os) fun e w'' => e = .returned (.bool false) ∧ ∃ p : Regrown, w'' = grow (redrawn V p.d) p.os := fun dd os => Calls.regrown_of (fits_as_said _ _ _ _ _ _ _ _ f2)
              rcases Bool.eq_false_or_eq_true (fitsZ b0 b1 b2 c0 c1 c2) with f3 | f3
              · have f4 := fitsZ_trans f1 f3
                have cBC : ∀ dd os, Calls Try.prog 13 #[.agg #[.int .i64 b0, .int .i64 b1, .int .i64 b2], .agg #[.int .i64 c0, .int .i64 c1, .int .i64 c2]] (grow (redrawn V dd) os) fun e w'' => e = .returned (.bool true) ∧ ∃ p : Regrown, w'' = grow (redrawn V p.d) p.os := fun dd os => Calls.regrown_of (fits_as_said _ _ _ _ _ _ _ _ f3)
                have cAC : ∀ dd os, Calls Try.prog 13 #[.agg #[.int .i64 a0, .int .i64 a1, .int .i64 a2], .agg #[.int .i64 c0, .int .i64 c1, .int .i64 c2]] (grow (redrawn V dd) os) fun e w'' => e = .returned (.bool true) ∧ ∃ p : Regrown, w'' = grow (redrawn V p.d) p.os := fun dd os => Calls.regrown_of (fits_as_said _ _ _ _ _ _ _ _ f4)
                have Hf1 := Lib.hid f1
                have Hf2 := Lib.hid f2
                have Hf3 := Lib.hid f3
                have Hf4 := Lib.hid f4
                have Hg0 := Lib.hid g0
                have Hg1 := Lib.hid g1
                have Hg2 := Lib.hid g2
                clear f1 f2 f3 f4 g0 g1 g2
                refine wp_region_quiet_below (by kernel_rfl) (by kernel_rfl) ?_
                repeat (first | go_big_quiet_step ((first | with_reducible exact cAB _ _ | with_reducible exact cBA _ _ | with_reducible exact cBC _ _ | with_reducible exact cAC _ _)) | quiet_step (first | with_reducible exact cAB _ _ | with_reducible exact cBA _ _ | with_reducible exact cBC _ _ | with_reducible exact cAC _ _))
                refine wpQuiet_nil ?_
                intro _ hw'
                obtain ⟨⟨dq, osq⟩, hw''⟩ := hw'
                subst hw''
                go_wp2_with fail
                go_meet
                exact ⟨rfl, below_regrown V dq osq⟩
              · have cBC : ∀ dd os, Calls Try.prog 13 #[.agg #[.int .i64 b0, .int .i64 b1, .int .i64 b2], .agg #[.int .i64 c0, .int .i64 c1, .int .i64 c2]] (grow (redrawn V dd) os) fun e w'' => e = .returned (.bool false) ∧ ∃ p : Regrown, w'' = grow (redrawn V p.d) p.os := fun dd os => Calls.regrown_of (fits_as_said _ _ _ _ _ _ _ _ f3)
                have Hf1 := Lib.hid f1
                have Hf2 := Lib.hid f2
                have Hf3 := Lib.hid f3
                have Hg0 := Lib.hid g0
                have Hg1 := Lib.hid g1
                have Hg2 := Lib.hid g2
                clear f1 f2 f3 g0 g1 g2
                refine wp_region_quiet_below (by kernel_rfl) (by kernel_rfl) ?_
                repeat (first | go_big_quiet_step ((first | with_reducible exact cAB _ _ | with_reducible exact cBA _ _ | with_reducible exact cBC _ _)) | quiet_step (first | with_reducible exact cAB _ _ | with_reducible exact cBA _ _ | with_reducible exact cBC _ _))
                refine wpQuiet_nil ?_
                intro _ hw'
                obtain ⟨⟨dq, osq⟩, hw''⟩ := hw'
                subst hw''
                go_wp2_with fail
                go_meet
                exact ⟨rfl, below_regrown V dq osq⟩
            · have cAB : ∀ dd os, Calls Try.prog 13 #[.agg #[.int .i64 a0, .int .i64 a1, .int .i64 a2], .agg #[.int .i64 b0, .int .i64 b1, .int .i64 b2]] (grow (redrawn V dd) os) fun e w'' => e = .returned (.bool false) ∧ ∃ p : Regrown, w'' = grow (redrawn V p.d) p.os := fun dd os => Calls.regrown_of (fits_as_said _ _ _ _ _ _ _ _ f1)
              have Hf1 := Lib.hid f1
              have Hg0 := Lib.hid g0
              have Hg1 := Lib.hid g1
              have Hg2 := Lib.hid g2
              clear f1 g0 g1 g2
              refine wp_region_quiet_below (by kernel_rfl) (by kernel_rfl) ?_
              repeat (first | go_big_quiet_step ((first | with_reducible exact cAB _ _)) | quiet_step (first | with_reducible exact cAB _ _))
              refine wpQuiet_nil ?_
              intro _ hw'
              obtain ⟨⟨dq, osq⟩, hw''⟩ := hw'
              subst hw''
              go_wp2_with fail
              go_meet
              exact ⟨rfl, below_regrown V dq osq⟩
        · have e0 : (addZ a0 0 == addZ b0 0) = true := by simpa using g0
          have e1 : (addZ a1 0 == addZ b1 0) = false := by simpa using g1
          rcases Bool.eq_false_or_eq_true (fitsZ a0 a1 a2 b0 b1 b2) with f1 | f1
          · have f2 : fitsZ b0 b1 b2 a0 a1 a2 = false := by
              rcases Bool.eq_false_or_eq_true (fitsZ b0 b1 b2 a0 a1 a2) with f2 | f2
              · exact absurd (fitsZ_anti f1 f2).2.1 g1
              · exact f2
            have cAB : ∀ dd os, Calls Try.prog 13 #[.agg #[.int .i64 a0, .int .i64 a1, .int .i64 a2], .agg #[.int .i64 b0, .int .i64 b1, .int .i64 b2]] (grow (redrawn V dd) os) fun e w'' => e = .returned (.bool true) ∧ ∃ p : Regrown, w'' = grow (redrawn V p.d) p.os := fun dd os => Calls.regrown_of (fits_as_said _ _ _ _ _ _ _ _ f1)
            have cBA : ∀ dd os, Calls Try.prog 13 #[.agg #[.int .i64 b0, .int .i64 b1, .int .i64 b2], .agg #[.int .i64 a0, .int .i64 a1, .int .i64 a2]] (grow (redrawn V dd) os) fun e w'' => e = .returned (.bool false) ∧ ∃ p : Regrown, w'' = grow (redrawn V p.d) p.os := fun dd os => Calls.regrown_of (fits_as_said _ _ _ _ _ _ _ _ f2)
            rcases Bool.eq_false_or_eq_true (fitsZ b0 b1 b2 c0 c1 c2) with f3 | f3
            · have f4 := fitsZ_trans f1 f3
              have cBC : ∀ dd os, Calls Try.prog 13 #[.agg #[.int .i64 b0, .int .i64 b1, .int .i64 b2], .agg #[.int .i64 c0, .int .i64 c1, .int .i64 c2]] (grow (redrawn V dd) os) fun e w'' => e = .returned (.bool true) ∧ ∃ p : Regrown, w'' = grow (redrawn V p.d) p.os := fun dd os => Calls.regrown_of (fits_as_said _ _ _ _ _ _ _ _ f3)
              have cAC : ∀ dd os, Calls Try.prog 13 #[.agg #[.int .i64 a0, .int .i64 a1, .int .i64 a2], .agg #[.int .i64 c0, .int .i64 c1, .int .i64 c2]] (grow (redrawn V dd) os) fun e w'' => e = .returned (.bool true) ∧ ∃ p : Regrown, w'' = grow (redrawn V p.d) p.os := fun dd os => Calls.regrown_of (fits_as_said _ _ _ _ _ _ _ _ f4)
              have Hf1 := Lib.hid f1
              have Hf2 := Lib.hid f2
              have Hf3 := Lib.hid f3
              have Hf4 := Lib.hid f4
              have Hg0 := Lib.hid g0
              have Hg1 := Lib.hid g1
              clear f1 f2 f3 f4 g0 g1
              refine wp_region_quiet_below (by kernel_rfl) (by kernel_rfl) ?_
              repeat (first | go_big_quiet_step ((first | with_reducible exact cAB _ _ | with_reducible exact cBA _ _ | with_reducible exact cBC _ _ | with_reducible exact cAC _ _)) | quiet_step (first | with_reducible exact cAB _ _ | with_reducible exact cBA _ _ | with_reducible exact cBC _ _ | with_reducible exact cAC _ _))
              refine wpQuiet_nil ?_
              intro _ hw'
              obtain ⟨⟨dq, osq⟩, hw''⟩ := hw'
              subst hw''
              go_wp2_with fail
              go_meet
              exact ⟨rfl, below_regrown V dq osq⟩
            · have cBC : ∀ dd os, Calls Try.prog 13 #[.agg #[.int .i64 b0, .int .i64 b1, .int .i64 b2], .agg #[.int .i64 c0, .int .i64 c1, .int .i64 c2]] (grow (redrawn V dd) os) fun e w'' => e = .returned (.bool false) ∧ ∃ p : Regrown, w'' = grow (redrawn V p.d) p.os := fun dd os => Calls.regrown_of (fits_as_said _ _ _ _ _ _ _ _ f3)
              have Hf1 := Lib.hid f1
              have Hf2 := Lib.hid f2
              have Hf3 := Lib.hid f3
              have Hg0 := Lib.hid g0
              have Hg1 := Lib.hid g1
              clear f1 f2 f3 g0 g1
              refine wp_region_quiet_below (by kernel_rfl) (by kernel_rfl) ?_
              repeat (first | go_big_quiet_step ((first | with_reducible exact cAB _ _ | with_reducible exact cBA _ _ | with_reducible exact cBC _ _)) | quiet_step (first | with_reducible exact cAB _ _ | with_reducible exact cBA _ _ | with_reducible exact cBC _ _))
              refine wpQuiet_nil ?_
              intro _ hw'
              obtain ⟨⟨dq, osq⟩, hw''⟩ := hw'
              subst hw''
              go_wp2_with fail
              go_meet
              exact ⟨rfl, below_regrown V dq osq⟩
          · have cAB : ∀ dd os, Calls Try.prog 13 #[.agg #[.int .i64 a0, .int .i64 a1, .int .i64 a2], .agg #[.int .i64 b0, .int .i64 b1, .int .i64 b2]] (grow (redrawn V dd) os) fun e w'' => e = .returned (.bool false) ∧ ∃ p : Regrown, w'' = grow (redrawn V p.d) p.os := fun dd os => Calls.regrown_of (fits_as_said _ _ _ _ _ _ _ _ f1)
            have Hf1 := Lib.hid f1
            have Hg0 := Lib.hid g0
            have Hg1 := Lib.hid g1
            clear f1 g0 g1
            refine wp_region_quiet_below (by kernel_rfl) (by kernel_rfl) ?_
            repeat (first | go_big_quiet_step ((first | with_reducible exact cAB _ _)) | quiet_step (first | with_reducible exact cAB _ _))
            refine wpQuiet_nil ?_
            intro _ hw'
            obtain ⟨⟨dq, osq⟩, hw''⟩ := hw'
            subst hw''
            go_wp2_with fail
            go_meet
            exact ⟨rfl, below_regrown V dq osq⟩
      · have e0 : (addZ a0 0 == addZ b0 0) = false := by simpa using g0
        rcases Bool.eq_false_or_eq_true (fitsZ a0 a1 a2 b0 b1 b2) with f1 | f1
        · have f2 : fitsZ b0 b1 b2 a0 a1 a2 = false := by
            rcases Bool.eq_false_or_eq_true (fitsZ b0 b1 b2 a0 a1 a2) with f2 | f2
            · exact absurd (fitsZ_anti f1 f2).1 g0
            · exact f2
          have cAB : ∀ dd os, Calls Try.prog 13 #[.agg #[.int .i64 a0, .int .i64 a1, .int .i64 a2], .agg #[.int .i64 b0, .int .i64 b1, .int .i64 b2]] (grow (redrawn V dd) os) fun e w'' => e = .returned (.bool true) ∧ ∃ p : Regrown, w'' = grow (redrawn V p.d) p.os := fun dd os => Calls.regrown_of (fits_as_said _ _ _ _ _ _ _ _ f1)
          have cBA : ∀ dd os, Calls Try.prog 13 #[.agg #[.int .i64 b0, .int .i64 b1, .int .i64 b2], .agg #[.int .i64 a0, .int .i64 a1, .int .i64 a2]] (grow (redrawn V dd) os) fun e w'' => e = .returned (.bool false) ∧ ∃ p : Regrown, w'' = grow (redrawn V p.d) p.os := fun dd os => Calls.regrown_of (fits_as_said _ _ _ _ _ _ _ _ f2)
          rcases Bool.eq_false_or_eq_true (fitsZ b0 b1 b2 c0 c1 c2) with f3 | f3
          · have f4 := fitsZ_trans f1 f3
            have cBC : ∀ dd os, Calls Try.prog 13 #[.agg #[.int .i64 b0, .int .i64 b1, .int .i64 b2], .agg #[.int .i64 c0, .int .i64 c1, .int .i64 c2]] (grow (redrawn V dd) os) fun e w'' => e = .returned (.bool true) ∧ ∃ p : Regrown, w'' = grow (redrawn V p.d) p.os := fun dd os => Calls.regrown_of (fits_as_said _ _ _ _ _ _ _ _ f3)
            have cAC : ∀ dd os, Calls Try.prog 13 #[.agg #[.int .i64 a0, .int .i64 a1, .int .i64 a2], .agg #[.int .i64 c0, .int .i64 c1, .int .i64 c2]] (grow (redrawn V dd) os) fun e w'' => e = .returned (.bool true) ∧ ∃ p : Regrown, w'' = grow (redrawn V p.d) p.os := fun dd os => Calls.regrown_of (fits_as_said _ _ _ _ _ _ _ _ f4)
            have Hf1 := Lib.hid f1
            have Hf2 := Lib.hid f2
            have Hf3 := Lib.hid f3
            have Hf4 := Lib.hid f4
            have Hg0 := Lib.hid g0
            clear f1 f2 f3 f4 g0
            refine wp_region_quiet_below (by kernel_rfl) (by kernel_rfl) ?_
            repeat (first | go_big_quiet_step ((first | with_reducible exact cAB _ _ | with_reducible exact cBA _ _ | with_reducible exact cBC _ _ | with_reducible exact cAC _ _)) | quiet_step (first | with_reducible exact cAB _ _ | with_reducible exact cBA _ _ | with_reducible exact cBC _ _ | with_reducible exact cAC _ _))
            refine wpQuiet_nil ?_
            intro _ hw'
            obtain ⟨⟨dq, osq⟩, hw''⟩ := hw'
            subst hw''
            go_wp2_with fail
            go_meet
            exact ⟨rfl, below_regrown V dq osq⟩
          · have cBC : ∀ dd os, Calls Try.prog 13 #[.agg #[.int .i64 b0, .int .i64 b1, .int .i64 b2], .agg #[.int .i64 c0, .int .i64 c1, .int .i64 c2]] (grow (redrawn V dd) os) fun e w'' => e = .returned (.bool false) ∧ ∃ p : Regrown, w'' = grow (redrawn V p.d) p.os := fun dd os => Calls.regrown_of (fits_as_said _ _ _ _ _ _ _ _ f3)
            have Hf1 := Lib.hid f1
            have Hf2 := Lib.hid f2
            have Hf3 := Lib.hid f3
            have Hg0 := Lib.hid g0
            clear f1 f2 f3 g0
            refine wp_region_quiet_below (by kernel_rfl) (by kernel_rfl) ?_
            repeat (first | go_big_quiet_step ((first | with_reducible exact cAB _ _ | with_reducible exact cBA _ _ | with_reducible exact cBC _ _)) | quiet_step (first | with_reducible exact cAB _ _ | with_reducible exact cBA _ _ | with_reducible exact cBC _ _))
            refine wpQuiet_nil ?_
            intro _ hw'
            obtain ⟨⟨dq, osq⟩, hw''⟩ := hw'
            subst hw''
            go_wp2_with fail
            go_meet
            exact ⟨rfl, below_regrown V dq osq⟩
        · have cAB : ∀ dd os, Calls Try.prog 13 #[.agg #[.int .i64 a0, .int .i64 a1, .int .i64 a2], .agg #[.int .i64 b0, .int .i64 b1, .int .i64 b2]] (grow (redrawn V dd) os) fun e w'' => e = .returned (.bool false) ∧ ∃ p : Regrown, w'' = grow (redrawn V p.d) p.os := fun dd os => Calls.regrown_of (fits_as_said _ _ _ _ _ _ _ _ f1)
          have Hf1 := Lib.hid f1
          have Hg0 := Lib.hid g0
          clear f1 g0
          refine wp_region_quiet_below (by kernel_rfl) (by kernel_rfl) ?_
          repeat (first | go_big_quiet_step ((first | with_reducible exact cAB _ _)) | quiet_step (first | with_reducible exact cAB _ _))
          refine wpQuiet_nil ?_
          intro _ hw'
          obtain ⟨⟨dq, osq⟩, hw''⟩ := hw'
          subst hw''
          go_wp2_with fail
          go_meet
          exact ⟨rfl, below_regrown V dq osq⟩
    case rest =>
      obtain ⟨rfl, hcb⟩ := hcut
      obtain ⟨hw2, pA, pB, pC, pX, pY⟩ := HP.out
      replace hw2 := below_all hw2 hcb
      obtain ⟨u0, u1, u2⟩ := (pA.all hcb).three
      obtain ⟨v0, v1, v2⟩ := (pB.all hcb).three
      obtain ⟨y0, y1, y2⟩ := (pY.all hcb).three
      clear pA pB pC pX pY HP hcb HEX
      go_wp2
      have ku0 := cell_regrown u0
      have ku1 := cell_regrown u1
      have ku2 := cell_regrown u2
      have kv0 := cell_regrown v0
      have kv1 := cell_regrown v1
      have kv2 := cell_regrown v2
      have ky0 := cell_regrown y0
      have ky1 := cell_regrown y1
      have ky2 := cell_regrown y2
      clear u0 u1 u2 v0 v1 v2 y0 y1 y2
      have cL : ∀ dd os, Calls Try.prog 8 #[] (grow (redrawn wc dd) os) fun e w'' => e = .returned (.bool true) ∧ ∃ p : Regrown, w'' = grow (redrawn wc p.d) p.os := fun dd os => Calls.regrown_of (lives_any _)
      have cS : ∀ dd os, Calls Try.prog 11 #[.agg #[.int .i64 b0, .int .i64 b1, .int .i64 b2], .agg #[.int .i64 a0, .int .i64 a1, .int .i64 a2]] (grow (redrawn wc dd) os) fun e w'' => e = .returned (.agg #[.int .i64 (subZ b0 a0), .int .i64 (subZ b1 a1), .int .i64 (subZ b2 a2)]) ∧ ∃ p : Regrown, w'' = grow (redrawn wc p.d) p.os := fun dd os => Calls.regrown_of (sub_any _ _ _ _ _ _ _)
      rcases Bool.eq_false_or_eq_true (fitsZ a0 a1 a2 b0 b1 b2) with f1 | f1
      · have cAB : ∀ dd os, Calls Try.prog 13 #[.agg #[.int .i64 a0, .int .i64 a1, .int .i64 a2], .agg #[.int .i64 b0, .int .i64 b1, .int .i64 b2]] (grow (redrawn wc dd) os) fun e w'' => e = .returned (.bool true) ∧ ∃ p : Regrown, w'' = grow (redrawn wc p.d) p.os := fun dd os => Calls.regrown_of (fits_as_said _ _ _ _ _ _ _ _ f1)
        have cD : ∀ dd os, Calls Try.prog 9 #[.agg #[.int .i64 a0, .int .i64 a1, .int .i64 a2], .agg #[.int .i64 (subZ b0 a0), .int .i64 (subZ b1 a1), .int .i64 (subZ b2 a2)]] (grow (redrawn wc dd) os) fun e w'' => e = .returned (.agg #[.int .i64 (addZ b0 0), .int .i64 (addZ b1 0), .int .i64 (addZ b2 0)]) ∧ ∃ p : Regrown, w'' = grow (redrawn wc p.d) p.os := fun dd os => Calls.regrown_of (add_diff _ _ _ _ _ _ _ f1)
        have Hf1 := Lib.hid f1
        clear f1
        refine wp_region_quiet_below (by kernel_rfl) (by kernel_rfl) ?_
        repeat (first | go_big_quiet_step ((first | with_reducible exact cL _ _ | with_reducible exact cAB _ _ | with_reducible exact cS _ _ | with_reducible exact cD _ _)) | quiet_step (first | with_reducible exact cL _ _ | with_reducible exact cAB _ _ | with_reducible exact cS _ _ | with_reducible exact cD _ _))
        refine wpQuiet_nil ?_
        intro _ hw'
        obtain ⟨⟨dq, osq⟩, hw''⟩ := hw'
        subst hw''
        go_wp2
        go_ret
        exact ⟨rfl, below_all hw2 (below_regrown wc dq osq)⟩
      · have cAB : ∀ dd os, Calls Try.prog 13 #[.agg #[.int .i64 a0, .int .i64 a1, .int .i64 a2], .agg #[.int .i64 b0, .int .i64 b1, .int .i64 b2]] (grow (redrawn wc dd) os) fun e w'' => e = .returned (.bool false) ∧ ∃ p : Regrown, w'' = grow (redrawn wc p.d) p.os := fun dd os => Calls.regrown_of (fits_as_said _ _ _ _ _ _ _ _ f1)
        have cD : ∀ dd os, Calls Try.prog 9 #[.agg #[.int .i64 a0, .int .i64 a1, .int .i64 a2], .agg #[.int .i64 (subZ b0 a0), .int .i64 (subZ b1 a1), .int .i64 (subZ b2 a2)]] (grow (redrawn wc dd) os) fun e w'' => e = .returned (.agg #[.int .i64 (addZ a0 (subZ b0 a0)), .int .i64 (addZ a1 (subZ b1 a1)), .int .i64 (addZ a2 (subZ b2 a2))]) ∧ ∃ p : Regrown, w'' = grow (redrawn wc p.d) p.os := fun dd os => Calls.regrown_of (add_any _ _ _ _ _ _ _)
        by_cases g0 : leZ a0 b0 = true
        · by_cases g1 : leZ a1 b1 = true
          · by_cases g2 : leZ a2 b2 = true
            · rw [fitsZ_true.2 ⟨g0, g1, g2⟩] at f1; cases f1
            · have e0 : (addZ a0 (subZ b0 a0) == addZ b0 0) = true := by simpa using (leZ_iff _ _).1 g0
              have e1 : (addZ a1 (subZ b1 a1) == addZ b1 0) = true := by simpa using (leZ_iff _ _).1 g1
              have e2 : (addZ a2 (subZ b2 a2) == addZ b2 0) = false := by simpa using fun h => g2 ((leZ_iff _ _).2 h)
              have Hg0 := Lib.hid g0
              have Hg1 := Lib.hid g1
              have Hg2 := Lib.hid g2
              have Hf1 := Lib.hid f1
              clear g0 g1 g2 f1
              refine wp_region_quiet_below (by kernel_rfl) (by kernel_rfl) ?_
              repeat (first | go_big_quiet_step ((first | with_reducible exact cL _ _ | with_reducible exact cAB _ _ | with_reducible exact cS _ _ | with_reducible exact cD _ _)) | quiet_step (first | with_reducible exact cL _ _ | with_reducible exact cAB _ _ | with_reducible exact cS _ _ | with_reducible exact cD _ _))
              refine wpQuiet_nil ?_
              intro _ hw'
              obtain ⟨⟨dq, osq⟩, hw''⟩ := hw'
              subst hw''
              go_wp2
              go_ret
              exact ⟨rfl, below_all hw2 (below_regrown wc dq osq)⟩
          · have e0 : (addZ a0 (subZ b0 a0) == addZ b0 0) = true := by simpa using (leZ_iff _ _).1 g0
            have e1 : (addZ a1 (subZ b1 a1) == addZ b1 0) = false := by simpa using fun h => g1 ((leZ_iff _ _).2 h)
            have Hg0 := Lib.hid g0
            have Hg1 := Lib.hid g1
            have Hf1 := Lib.hid f1
            clear g0 g1 f1
            refine wp_region_quiet_below (by kernel_rfl) (by kernel_rfl) ?_
            repeat (first | go_big_quiet_step ((first | with_reducible exact cL _ _ | with_reducible exact cAB _ _ | with_reducible exact cS _ _ | with_reducible exact cD _ _)) | quiet_step (first | with_reducible exact cL _ _ | with_reducible exact cAB _ _ | with_reducible exact cS _ _ | with_reducible exact cD _ _))
            refine wpQuiet_nil ?_
            intro _ hw'
            obtain ⟨⟨dq, osq⟩, hw''⟩ := hw'
            subst hw''
            go_wp2
            go_ret
            exact ⟨rfl, below_all hw2 (below_regrown wc dq osq)⟩
        · have e0 : (addZ a0 (subZ b0 a0) == addZ b0 0) = false := by simpa using fun h => g0 ((leZ_iff _ _).2 h)
          have Hg0 := Lib.hid g0
          have Hf1 := Lib.hid f1
          clear g0 f1
          refine wp_region_quiet_below (by kernel_rfl) (by kernel_rfl) ?_
          repeat (first | go_big_quiet_step ((first | with_reducible exact cL _ _ | with_reducible exact cAB _ _ | with_reducible exact cS _ _ | with_reducible exact cD _ _)) | quiet_step (first | with_reducible exact cL _ _ | with_reducible exact cAB _ _ | with_reducible exact cS _ _ | with_reducible exact cD _ _))
          refine wpQuiet_nil ?_
          intro _ hw'
          obtain ⟨⟨dq, osq⟩, hw''⟩ := hw'
          subst hw''
          go_wp2
          go_ret
          exact ⟨rfl, below_all hw2 (below_regrown wc dq osq)⟩
end Go.Proofs.Ytjjkihohmgpgdaa
