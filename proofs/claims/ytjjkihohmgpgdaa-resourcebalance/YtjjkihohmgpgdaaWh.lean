/- The laws' walks: ResourceBalance. -/
import Derived.Test.YtjjkihohmgpgdaaWe
import Derived.Deep.Cut
namespace Go.Proofs.Ytjjkihohmgpgdaa
open Go.RowKit Go.Sort Go.Proofs.LawFrame
theorem sub_sb (a0 a1 a2 b0 b1 b2 : Int) (w : World) (h0 : addZ a0 b0 < 1000000000000000) (h1 : addZ a1 b1 < 1000000000000000) (h2 : addZ a2 b2 < 1000000000000000) : Calls Try.prog 11 #[.agg #[.int .i64 (addZ a0 b0), .int .i64 (addZ a1 b1), .int .i64 (addZ a2 b2)], .agg #[.int .i64 b0, .int .i64 b1, .int .i64 b2]] w fun e w' => e = .returned (.agg #[.int .i64 (addZ a0 0), .int .i64 (addZ a1 0), .int .i64 (addZ a2 0)]) ∧ Below w.heap.size w w' := by
  have h := sub_any (addZ a0 b0) (addZ a1 b1) (addZ a2 b2) b0 b1 b2 w
  rw [subZ_addZ h0, subZ_addZ h1, subZ_addZ h2] at h
  exact h
theorem fitsZ_s (a0 a1 a2 b0 b1 b2 : Int) : fitsZ a0 a1 a2 (addZ a0 b0) (addZ a1 b1) (addZ a2 b2) = true := fitsZ_true.2 ⟨leZ_addZ _ _, leZ_addZ _ _, leZ_addZ _ _⟩
theorem fitsZ_s' (a0 a1 a2 b0 b1 b2 : Int) : fitsZ b0 b1 b2 (addZ a0 b0) (addZ a1 b1) (addZ a2 b2) = true := fitsZ_true.2 ⟨leZ_addZ' _ _, leZ_addZ' _ _, leZ_addZ' _ _⟩
theorem fitsZ_x {a0 a1 a2 c0 c1 c2 : Int} (b0 b1 b2 : Int) (h : fitsZ c0 c1 c2 a0 a1 a2 = true) : fitsZ c0 c1 c2 (addZ a0 b0) (addZ a1 b1) (addZ a2 b2) = true := by
  obtain ⟨h0, h1, h2⟩ := fitsZ_true.1 h
  exact fitsZ_true.2 ⟨leZ_trans h0 (leZ_addZ _ _), leZ_trans h1 (leZ_addZ _ _), leZ_trans h2 (leZ_addZ _ _)⟩
theorem fits_as (a0 a1 a2 b0 b1 b2 : Int) (w : World) : Calls Try.prog 13 #[.agg #[.int .i64 a0, .int .i64 a1, .int .i64 a2], .agg #[.int .i64 (addZ a0 b0), .int .i64 (addZ a1 b1), .int .i64 (addZ a2 b2)]] w fun e w' => e = .returned (.bool true) ∧ Below w.heap.size w w' := by
  have h := fits_any a0 a1 a2 (addZ a0 b0) (addZ a1 b1) (addZ a2 b2) w
  rw [fitsZ_s] at h
  exact h
theorem fits_bs (a0 a1 a2 b0 b1 b2 : Int) (w : World) : Calls Try.prog 13 #[.agg #[.int .i64 b0, .int .i64 b1, .int .i64 b2], .agg #[.int .i64 (addZ a0 b0), .int .i64 (addZ a1 b1), .int .i64 (addZ a2 b2)]] w fun e w' => e = .returned (.bool true) ∧ Below w.heap.size w w' := by
  have h := fits_any b0 b1 b2 (addZ a0 b0) (addZ a1 b1) (addZ a2 b2) w
  rw [fitsZ_s'] at h
  exact h
theorem fits_xa (a0 a1 a2 c0 c1 c2 : Int) (w : World) (x : Bool) (hx : fitsZ c0 c1 c2 a0 a1 a2 = x) : Calls Try.prog 13 #[.agg #[.int .i64 c0, .int .i64 c1, .int .i64 c2], .agg #[.int .i64 a0, .int .i64 a1, .int .i64 a2]] w fun e w' => e = .returned (.bool x) ∧ Below w.heap.size w w' := by
  have h := fits_any c0 c1 c2 a0 a1 a2 w
  rw [hx] at h
  exact h
theorem fits_xs (a0 a1 a2 b0 b1 b2 c0 c1 c2 : Int) (w : World) (hx : fitsZ c0 c1 c2 a0 a1 a2 = true) : Calls Try.prog 13 #[.agg #[.int .i64 c0, .int .i64 c1, .int .i64 c2], .agg #[.int .i64 (addZ a0 b0), .int .i64 (addZ a1 b1), .int .i64 (addZ a2 b2)]] w fun e w' => e = .returned (.bool true) ∧ Below w.heap.size w w' := by
  have h := fits_any c0 c1 c2 (addZ a0 b0) (addZ a1 b1) (addZ a2 b2) w
  rw [fitsZ_x _ _ _ hx] at h
  exact h

set_option maxRecDepth 100000 in
set_option maxHeartbeats 2000000 in
theorem balance_walk (a0 a1 a2 b0 b1 b2 c0 c1 c2 : Int) (w : World) :
    Calls Try.prog 5 #[.agg #[.int .i64 a0, .int .i64 a1, .int .i64 a2], .agg #[.int .i64 b0, .int .i64 b1, .int .i64 b2], .agg #[.int .i64 c0, .int .i64 c1, .int .i64 c2]] w fun e w' => e = .returned (.bool true) ∧ Below w.heap.size w w' := by
  go_enter Try.func5, Try.ntmps5
  go_wp2_with fail
  have hw0 : Below w.heap.size w (((w.alloc (.cells #[.int .i64 a0, .int .i64 a1, .int .i64 a2] 23)).alloc (.cells #[.int .i64 b0, .int .i64 b1, .int .i64 b2] 23)).alloc (.cells #[.int .i64 c0, .int .i64 c1, .int .i64 c2] 23)) := (((Below.refl _ _).alloc (Nat.le_refl _) _).alloc (by simp) _).alloc (by simp; omega) _
  have oA : Own (((w.alloc (.cells #[.int .i64 a0, .int .i64 a1, .int .i64 a2] 23)).alloc (.cells #[.int .i64 b0, .int .i64 b1, .int .i64 b2] 23)).alloc (.cells #[.int .i64 c0, .int .i64 c1, .int .i64 c2] 23)) w.heap.size [.int .i64 a0, .int .i64 a1, .int .i64 a2] 23 := ((Own.new _ _ _).alloc _).alloc _
  have oB : Own (((w.alloc (.cells #[.int .i64 a0, .int .i64 a1, .int .i64 a2] 23)).alloc (.cells #[.int .i64 b0, .int .i64 b1, .int .i64 b2] 23)).alloc (.cells #[.int .i64 c0, .int .i64 c1, .int .i64 c2] 23)) (w.heap.size + 1) [.int .i64 b0, .int .i64 b1, .int .i64 b2] 23 := (Own.new_at (by rw [size_alloc]) _ _).alloc _
  have oC : Own (((w.alloc (.cells #[.int .i64 a0, .int .i64 a1, .int .i64 a2] 23)).alloc (.cells #[.int .i64 b0, .int .i64 b1, .int .i64 b2] 23)).alloc (.cells #[.int .i64 c0, .int .i64 c1, .int .i64 c2] 23)) (w.heap.size + 1 + 1) [.int .i64 c0, .int .i64 c1, .int .i64 c2] 23 := Own.new_at (by rw [size_alloc, size_alloc]) _ _
  generalize ((w.alloc (.cells #[.int .i64 a0, .int .i64 a1, .int .i64 a2] 23)).alloc (.cells #[.int .i64 b0, .int .i64 b1, .int .i64 b2] 23)).alloc (.cells #[.int .i64 c0, .int .i64 c1, .int .i64 c2] 23) = W at *
  refine (add_any _ _ _ _ _ _ _).mono ?_
  rintro e V ⟨rfl, hb⟩
  replace hw0 := below_all hw0 hb
  replace oA := oA.all hb
  replace oB := oB.all hb
  replace oC := oC.all hb
  clear hb
  obtain ⟨u0, u1, u2⟩ := oA.three
  obtain ⟨v0, v1, v2⟩ := oB.three
  obtain ⟨x0, x1, x2⟩ := oC.three
  have ltA := oA.lt
  have ltB := oB.lt
  have ltC := oC.lt
  go_wp2
  have hw1 := hw0.alloc hw0.size (.cells #[.int .i64 (addZ a0 b0), .int .i64 (addZ a1 b1), .int .i64 (addZ a2 b2)] 23)
  have pA := oA.alloc (.cells #[.int .i64 (addZ a0 b0), .int .i64 (addZ a1 b1), .int .i64 (addZ a2 b2)] 23)
  have pB := oB.alloc (.cells #[.int .i64 (addZ a0 b0), .int .i64 (addZ a1 b1), .int .i64 (addZ a2 b2)] 23)
  have pC := oC.alloc (.cells #[.int .i64 (addZ a0 b0), .int .i64 (addZ a1 b1), .int .i64 (addZ a2 b2)] 23)
  have pS : Own (V.alloc (.cells #[.int .i64 (addZ a0 b0), .int .i64 (addZ a1 b1), .int .i64 (addZ a2 b2)] 23)) V.heap.size [.int .i64 (addZ a0 b0), .int .i64 (addZ a1 b1), .int .i64 (addZ a2 b2)] 23 := Own.new _ _ _
  clear u0 u1 u2 v0 v1 v2 x0 x1 x2 oA oB oC hw0 ltA ltB ltC
  generalize V.alloc (.cells #[.int .i64 (addZ a0 b0), .int .i64 (addZ a1 b1), .int .i64 (addZ a2 b2)] 23) = U at *
  obtain ⟨u0, u1, u2⟩ := pA.three
  obtain ⟨v0, v1, v2⟩ := pB.three
  obtain ⟨x0, x1, x2⟩ := pC.three
  obtain ⟨y0, y1, y2⟩ := pS.three
  have ku0 := cell_regrown u0
  have ku1 := cell_regrown u1
  have ku2 := cell_regrown u2
  have kv0 := cell_regrown v0
  have kv1 := cell_regrown v1
  have kv2 := cell_regrown v2
  have kx0 := cell_regrown x0
  have kx1 := cell_regrown x1
  have kx2 := cell_regrown x2
  have ky0 := cell_regrown y0
  have ky1 := cell_regrown y1
  have ky2 := cell_regrown y2
  have cA : ∀ (x0 x1 x2 y0 y1 y2 : Int) dd os, Calls Try.prog 9 #[.agg #[.int .i64 x0, .int .i64 x1, .int .i64 x2], .agg #[.int .i64 y0, .int .i64 y1, .int .i64 y2]] (grow (redrawn U dd) os) fun e w'' => e = .returned (.agg #[.int .i64 (addZ x0 y0), .int .i64 (addZ x1 y1), .int .i64 (addZ x2 y2)]) ∧ ∃ p : Regrown, w'' = grow (redrawn U p.d) p.os := fun _ _ _ _ _ _ dd os => Calls.regrown_of (add_any _ _ _ _ _ _ _)
  by_cases h0 : addZ a0 b0 < 1000000000000000
  · by_cases h1 : addZ a1 b1 < 1000000000000000
    · by_cases h2 : addZ a2 b2 < 1000000000000000
      · have d0 : decide (addZ a0 b0 < 1000000000000000) = true := by simpa using h0
        have d1 : decide (addZ a1 b1 < 1000000000000000) = true := by simpa using h1
        have d2 : decide (addZ a2 b2 < 1000000000000000) = true := by simpa using h2
        have cSB : ∀ dd os, Calls Try.prog 11 #[.agg #[.int .i64 (addZ a0 b0), .int .i64 (addZ a1 b1), .int .i64 (addZ a2 b2)], .agg #[.int .i64 b0, .int .i64 b1, .int .i64 b2]] (grow (redrawn U dd) os) fun e w'' => e = .returned (.agg #[.int .i64 (addZ a0 0), .int .i64 (addZ a1 0), .int .i64 (addZ a2 0)]) ∧ ∃ p : Regrown, w'' = grow (redrawn U p.d) p.os := fun dd os => Calls.regrown_of (sub_sb _ _ _ _ _ _ _ h0 h1 h2)
        refine wp_region_quiet_below (by kernel_rfl) (by kernel_rfl) ?_
        repeat (first | go_big_quiet_step ((first | with_reducible exact cSB _ _ | with_reducible exact cA _ _ _ _ _ _ _ _)) | quiet_step (first | with_reducible exact cSB _ _ | with_reducible exact cA _ _ _ _ _ _ _ _))
        refine wpQuiet_nil ?_
        intro _ hw'
        obtain ⟨⟨dq, osq⟩, hw''⟩ := hw'
        subst hw''
        clear cSB
        have hw2 := below_all hw1 (below_regrown U dq osq)
        replace pA := pA.all (below_regrown U dq osq)
        replace pB := pB.all (below_regrown U dq osq)
        replace pC := pC.all (below_regrown U dq osq)
        replace pS := pS.all (below_regrown U dq osq)
        clear u0 u1 u2 v0 v1 v2 x0 x1 x2 y0 y1 y2 ku0 ku1 ku2 kv0 kv1 kv2 kx0 kx1 kx2 ky0 ky1 ky2 cA hw1
        generalize grow (redrawn U dq) osq = T at *
        obtain ⟨u0, u1, u2⟩ := pA.three
        obtain ⟨v0, v1, v2⟩ := pB.three
        obtain ⟨x0, x1, x2⟩ := pC.three
        obtain ⟨y0, y1, y2⟩ := pS.three
        have ku0 := cell_regrown u0
        have ku1 := cell_regrown u1
        have ku2 := cell_regrown u2
        have kv0 := cell_regrown v0
        have kv1 := cell_regrown v1
        have kv2 := cell_regrown v2
        have kx0 := cell_regrown x0
        have kx1 := cell_regrown x1
        have kx2 := cell_regrown x2
        have ky0 := cell_regrown y0
        have ky1 := cell_regrown y1
        have ky2 := cell_regrown y2
        have cAS : ∀ dd os, Calls Try.prog 13 #[.agg #[.int .i64 a0, .int .i64 a1, .int .i64 a2], .agg #[.int .i64 (addZ a0 b0), .int .i64 (addZ a1 b1), .int .i64 (addZ a2 b2)]] (grow (redrawn T dd) os) fun e w'' => e = .returned (.bool true) ∧ ∃ p : Regrown, w'' = grow (redrawn T p.d) p.os := fun dd os => Calls.regrown_of (fits_as _ _ _ _ _ _ _)
        have cBS : ∀ dd os, Calls Try.prog 13 #[.agg #[.int .i64 b0, .int .i64 b1, .int .i64 b2], .agg #[.int .i64 (addZ a0 b0), .int .i64 (addZ a1 b1), .int .i64 (addZ a2 b2)]] (grow (redrawn T dd) os) fun e w'' => e = .returned (.bool true) ∧ ∃ p : Regrown, w'' = grow (redrawn T p.d) p.os := fun dd os => Calls.regrown_of (fits_bs _ _ _ _ _ _ _)
        have cL : ∀ dd os, Calls Try.prog 8 #[] (grow (redrawn T dd) os) fun e w'' => e = .returned (.bool true) ∧ ∃ p : Regrown, w'' = grow (redrawn T p.d) p.os := fun dd os => Calls.regrown_of (lives_any _)
        clear pA pB pC pS u0 u1 u2 v0 v1 v2 x0 x1 x2 y0 y1 y2
        go_upto_region 4 with (fail)
        rcases Bool.eq_false_or_eq_true (fitsZ c0 c1 c2 a0 a1 a2) with hx | hx
        · have cXA : ∀ dd os, Calls Try.prog 13 #[.agg #[.int .i64 c0, .int .i64 c1, .int .i64 c2], .agg #[.int .i64 a0, .int .i64 a1, .int .i64 a2]] (grow (redrawn T dd) os) fun e w'' => e = .returned (.bool true) ∧ ∃ p : Regrown, w'' = grow (redrawn T p.d) p.os := fun dd os => Calls.regrown_of (fits_xa _ _ _ _ _ _ _ _ hx)
          have cXS : ∀ dd os, Calls Try.prog 13 #[.agg #[.int .i64 c0, .int .i64 c1, .int .i64 c2], .agg #[.int .i64 (addZ a0 b0), .int .i64 (addZ a1 b1), .int .i64 (addZ a2 b2)]] (grow (redrawn T dd) os) fun e w'' => e = .returned (.bool true) ∧ ∃ p : Regrown, w'' = grow (redrawn T p.d) p.os := fun dd os => Calls.regrown_of (fits_xs _ _ _ _ _ _ _ _ _ _ hx)
          have HX := Lib.hid hx
          clear hx
          refine wp_region_plain_below ?_
          repeat (first | go_big_quiet_step ((first | with_reducible exact cL _ _ | with_reducible exact cAS _ _ | with_reducible exact cBS _ _ | with_reducible exact cXA _ _ | with_reducible exact cXS _ _)) | quiet_step (first | with_reducible exact cL _ _ | with_reducible exact cAS _ _ | with_reducible exact cBS _ _ | with_reducible exact cXA _ _ | with_reducible exact cXS _ _))
          refine wpQuiet_nil ?_
          intro _ hw'
          obtain ⟨⟨dq, osq⟩, hw''⟩ := hw'
          subst hw''
          go_wp2
          go_ret
          exact ⟨rfl, below_all hw2 (below_regrown T dq osq)⟩
        · have cXA : ∀ dd os, Calls Try.prog 13 #[.agg #[.int .i64 c0, .int .i64 c1, .int .i64 c2], .agg #[.int .i64 a0, .int .i64 a1, .int .i64 a2]] (grow (redrawn T dd) os) fun e w'' => e = .returned (.bool false) ∧ ∃ p : Regrown, w'' = grow (redrawn T p.d) p.os := fun dd os => Calls.regrown_of (fits_xa _ _ _ _ _ _ _ _ hx)
          have HX := Lib.hid hx
          clear hx
          refine wp_region_plain_below ?_
          repeat (first | go_big_quiet_step ((first | with_reducible exact cL _ _ | with_reducible exact cAS _ _ | with_reducible exact cBS _ _ | with_reducible exact cXA _ _)) | quiet_step (first | with_reducible exact cL _ _ | with_reducible exact cAS _ _ | with_reducible exact cBS _ _ | with_reducible exact cXA _ _))
          refine wpQuiet_nil ?_
          intro _ hw'
          obtain ⟨⟨dq, osq⟩, hw''⟩ := hw'
          subst hw''
          go_wp2
          go_ret
          exact ⟨rfl, below_all hw2 (below_regrown T dq osq)⟩
      · have d0 : decide (addZ a0 b0 < 1000000000000000) = true := by simpa using h0
        have d1 : decide (addZ a1 b1 < 1000000000000000) = true := by simpa using h1
        have d2 : decide (addZ a2 b2 < 1000000000000000) = false := by simpa using h2
        refine wp_region_quiet_below (by kernel_rfl) (by kernel_rfl) ?_
        repeat (first | go_big_quiet_step ((first | with_reducible exact cA _ _ _ _ _ _ _ _)) | quiet_step (first | with_reducible exact cA _ _ _ _ _ _ _ _))
        refine wpQuiet_nil ?_
        intro _ hw'
        obtain ⟨⟨dq, osq⟩, hw''⟩ := hw'
        subst hw''
        have hw2 := below_all hw1 (below_regrown U dq osq)
        replace pA := pA.all (below_regrown U dq osq)
        replace pB := pB.all (below_regrown U dq osq)
        replace pC := pC.all (below_regrown U dq osq)
        replace pS := pS.all (below_regrown U dq osq)
        clear u0 u1 u2 v0 v1 v2 x0 x1 x2 y0 y1 y2 ku0 ku1 ku2 kv0 kv1 kv2 kx0 kx1 kx2 ky0 ky1 ky2 cA hw1
        generalize grow (redrawn U dq) osq = T at *
        obtain ⟨u0, u1, u2⟩ := pA.three
        obtain ⟨v0, v1, v2⟩ := pB.three
        obtain ⟨x0, x1, x2⟩ := pC.three
        obtain ⟨y0, y1, y2⟩ := pS.three
        have ku0 := cell_regrown u0
        have ku1 := cell_regrown u1
        have ku2 := cell_regrown u2
        have kv0 := cell_regrown v0
        have kv1 := cell_regrown v1
        have kv2 := cell_regrown v2
        have kx0 := cell_regrown x0
        have kx1 := cell_regrown x1
        have kx2 := cell_regrown x2
        have ky0 := cell_regrown y0
        have ky1 := cell_regrown y1
        have ky2 := cell_regrown y2
        have cAS : ∀ dd os, Calls Try.prog 13 #[.agg #[.int .i64 a0, .int .i64 a1, .int .i64 a2], .agg #[.int .i64 (addZ a0 b0), .int .i64 (addZ a1 b1), .int .i64 (addZ a2 b2)]] (grow (redrawn T dd) os) fun e w'' => e = .returned (.bool true) ∧ ∃ p : Regrown, w'' = grow (redrawn T p.d) p.os := fun dd os => Calls.regrown_of (fits_as _ _ _ _ _ _ _)
        have cBS : ∀ dd os, Calls Try.prog 13 #[.agg #[.int .i64 b0, .int .i64 b1, .int .i64 b2], .agg #[.int .i64 (addZ a0 b0), .int .i64 (addZ a1 b1), .int .i64 (addZ a2 b2)]] (grow (redrawn T dd) os) fun e w'' => e = .returned (.bool true) ∧ ∃ p : Regrown, w'' = grow (redrawn T p.d) p.os := fun dd os => Calls.regrown_of (fits_bs _ _ _ _ _ _ _)
        have cL : ∀ dd os, Calls Try.prog 8 #[] (grow (redrawn T dd) os) fun e w'' => e = .returned (.bool true) ∧ ∃ p : Regrown, w'' = grow (redrawn T p.d) p.os := fun dd os => Calls.regrown_of (lives_any _)
        clear pA pB pC pS u0 u1 u2 v0 v1 v2 x0 x1 x2 y0 y1 y2
        go_upto_region 4 with (fail)
        rcases Bool.eq_false_or_eq_true (fitsZ c0 c1 c2 a0 a1 a2) with hx | hx
        · have cXA : ∀ dd os, Calls Try.prog 13 #[.agg #[.int .i64 c0, .int .i64 c1, .int .i64 c2], .agg #[.int .i64 a0, .int .i64 a1, .int .i64 a2]] (grow (redrawn T dd) os) fun e w'' => e = .returned (.bool true) ∧ ∃ p : Regrown, w'' = grow (redrawn T p.d) p.os := fun dd os => Calls.regrown_of (fits_xa _ _ _ _ _ _ _ _ hx)
          have cXS : ∀ dd os, Calls Try.prog 13 #[.agg #[.int .i64 c0, .int .i64 c1, .int .i64 c2], .agg #[.int .i64 (addZ a0 b0), .int .i64 (addZ a1 b1), .int .i64 (addZ a2 b2)]] (grow (redrawn T dd) os) fun e w'' => e = .returned (.bool true) ∧ ∃ p : Regrown, w'' = grow (redrawn T p.d) p.os := fun dd os => Calls.regrown_of (fits_xs _ _ _ _ _ _ _ _ _ _ hx)
          have HX := Lib.hid hx
          clear hx
          refine wp_region_plain_below ?_
          repeat (first | go_big_quiet_step ((first | with_reducible exact cL _ _ | with_reducible exact cAS _ _ | with_reducible exact cBS _ _ | with_reducible exact cXA _ _ | with_reducible exact cXS _ _)) | quiet_step (first | with_reducible exact cL _ _ | with_reducible exact cAS _ _ | with_reducible exact cBS _ _ | with_reducible exact cXA _ _ | with_reducible exact cXS _ _))
          refine wpQuiet_nil ?_
          intro _ hw'
          obtain ⟨⟨dq, osq⟩, hw''⟩ := hw'
          subst hw''
          go_wp2
          go_ret
          exact ⟨rfl, below_all hw2 (below_regrown T dq osq)⟩
        · have cXA : ∀ dd os, Calls Try.prog 13 #[.agg #[.int .i64 c0, .int .i64 c1, .int .i64 c2], .agg #[.int .i64 a0, .int .i64 a1, .int .i64 a2]] (grow (redrawn T dd) os) fun e w'' => e = .returned (.bool false) ∧ ∃ p : Regrown, w'' = grow (redrawn T p.d) p.os := fun dd os => Calls.regrown_of (fits_xa _ _ _ _ _ _ _ _ hx)
          have HX := Lib.hid hx
          clear hx
          refine wp_region_plain_below ?_
          repeat (first | go_big_quiet_step ((first | with_reducible exact cL _ _ | with_reducible exact cAS _ _ | with_reducible exact cBS _ _ | with_reducible exact cXA _ _)) | quiet_step (first | with_reducible exact cL _ _ | with_reducible exact cAS _ _ | with_reducible exact cBS _ _ | with_reducible exact cXA _ _))
          refine wpQuiet_nil ?_
          intro _ hw'
          obtain ⟨⟨dq, osq⟩, hw''⟩ := hw'
          subst hw''
          go_wp2
          go_ret
          exact ⟨rfl, below_all hw2 (below_regrown T dq osq)⟩
    · have d0 : decide (addZ a0 b0 < 1000000000000000) = true := by simpa using h0
      have d1 : decide (addZ a1 b1 < 1000000000000000) = false := by simpa using h1
      refine wp_region_quiet_below (by kernel_rfl) (by kernel_rfl) ?_
      repeat (first | go_big_quiet_step ((first | with_reducible exact cA _ _ _ _ _ _ _ _)) | quiet_step (first | with_reducible exact cA _ _ _ _ _ _ _ _))
      refine wpQuiet_nil ?_
      intro _ hw'
      obtain ⟨⟨dq, osq⟩, hw''⟩ := hw'
      subst hw''
      have hw2 := below_all hw1 (below_regrown U dq osq)
      replace pA := pA.all (below_regrown U dq osq)
      replace pB := pB.all (below_regrown U dq osq)
      replace pC := pC.all (below_regrown U dq osq)
      replace pS := pS.all (below_regrown U dq osq)
      clear u0 u1 u2 v0 v1 v2 x0 x1 x2 y0 y1 y2 ku0 ku1 ku2 kv0 kv1 kv2 kx0 kx1 kx2 ky0 ky1 ky2 cA hw1
      generalize grow (redrawn U dq) osq = T at *
      obtain ⟨u0, u1, u2⟩ := pA.three
      obtain ⟨v0, v1, v2⟩ := pB.three
      obtain ⟨x0, x1, x2⟩ := pC.three
      obtain ⟨y0, y1, y2⟩ := pS.three
      have ku0 := cell_regrown u0
      have ku1 := cell_regrown u1
      have ku2 := cell_regrown u2
      have kv0 := cell_regrown v0
      have kv1 := cell_regrown v1
      have kv2 := cell_regrown v2
      have kx0 := cell_regrown x0
      have kx1 := cell_regrown x1
      have kx2 := cell_regrown x2
      have ky0 := cell_regrown y0
      have ky1 := cell_regrown y1
      have ky2 := cell_regrown y2
      have cAS : ∀ dd os, Calls Try.prog 13 #[.agg #[.int .i64 a0, .int .i64 a1, .int .i64 a2], .agg #[.int .i64 (addZ a0 b0), .int .i64 (addZ a1 b1), .int .i64 (addZ a2 b2)]] (grow (redrawn T dd) os) fun e w'' => e = .returned (.bool true) ∧ ∃ p : Regrown, w'' = grow (redrawn T p.d) p.os := fun dd os => Calls.regrown_of (fits_as _ _ _ _ _ _ _)
      have cBS : ∀ dd os, Calls Try.prog 13 #[.agg #[.int .i64 b0, .int .i64 b1, .int .i64 b2], .agg #[.int .i64 (addZ a0 b0), .int .i64 (addZ a1 b1), .int .i64 (addZ a2 b2)]] (grow (redrawn T dd) os) fun e w'' => e = .returned (.bool true) ∧ ∃ p : Regrown, w'' = grow (redrawn T p.d) p.os := fun dd os => Calls.regrown_of (fits_bs _ _ _ _ _ _ _)
      have cL : ∀ dd os, Calls Try.prog 8 #[] (grow (redrawn T dd) os) fun e w'' => e = .returned (.bool true) ∧ ∃ p : Regrown, w'' = grow (redrawn T p.d) p.os := fun dd os => Calls.regrown_of (lives_any _)
      clear pA pB pC pS u0 u1 u2 v0 v1 v2 x0 x1 x2 y0 y1 y2
      go_upto_region 4 with (fail)
      rcases Bool.eq_false_or_eq_true (fitsZ c0 c1 c2 a0 a1 a2) with hx | hx
      · have cXA : ∀ dd os, Calls Try.prog 13 #[.agg #[.int .i64 c0, .int .i64 c1, .int .i64 c2], .agg #[.int .i64 a0, .int .i64 a1, .int .i64 a2]] (grow (redrawn T dd) os) fun e w'' => e = .returned (.bool true) ∧ ∃ p : Regrown, w'' = grow (redrawn T p.d) p.os := fun dd os => Calls.regrown_of (fits_xa _ _ _ _ _ _ _ _ hx)
        have cXS : ∀ dd os, Calls Try.prog 13 #[.agg #[.int .i64 c0, .int .i64 c1, .int .i64 c2], .agg #[.int .i64 (addZ a0 b0), .int .i64 (addZ a1 b1), .int .i64 (addZ a2 b2)]] (grow (redrawn T dd) os) fun e w'' => e = .returned (.bool true) ∧ ∃ p : Regrown, w'' = grow (redrawn T p.d) p.os := fun dd os => Calls.regrown_of (fits_xs _ _ _ _ _ _ _ _ _ _ hx)
        have HX := Lib.hid hx
        clear hx
        refine wp_region_plain_below ?_
        repeat (first | go_big_quiet_step ((first | with_reducible exact cL _ _ | with_reducible exact cAS _ _ | with_reducible exact cBS _ _ | with_reducible exact cXA _ _ | with_reducible exact cXS _ _)) | quiet_step (first | with_reducible exact cL _ _ | with_reducible exact cAS _ _ | with_reducible exact cBS _ _ | with_reducible exact cXA _ _ | with_reducible exact cXS _ _))
        refine wpQuiet_nil ?_
        intro _ hw'
        obtain ⟨⟨dq, osq⟩, hw''⟩ := hw'
        subst hw''
        go_wp2
        go_ret
        exact ⟨rfl, below_all hw2 (below_regrown T dq osq)⟩
      · have cXA : ∀ dd os, Calls Try.prog 13 #[.agg #[.int .i64 c0, .int .i64 c1, .int .i64 c2], .agg #[.int .i64 a0, .int .i64 a1, .int .i64 a2]] (grow (redrawn T dd) os) fun e w'' => e = .returned (.bool false) ∧ ∃ p : Regrown, w'' = grow (redrawn T p.d) p.os := fun dd os => Calls.regrown_of (fits_xa _ _ _ _ _ _ _ _ hx)
        have HX := Lib.hid hx
        clear hx
        refine wp_region_plain_below ?_
        repeat (first | go_big_quiet_step ((first | with_reducible exact cL _ _ | with_reducible exact cAS _ _ | with_reducible exact cBS _ _ | with_reducible exact cXA _ _)) | quiet_step (first | with_reducible exact cL _ _ | with_reducible exact cAS _ _ | with_reducible exact cBS _ _ | with_reducible exact cXA _ _))
        refine wpQuiet_nil ?_
        intro _ hw'
        obtain ⟨⟨dq, osq⟩, hw''⟩ := hw'
        subst hw''
        go_wp2
        go_ret
        exact ⟨rfl, below_all hw2 (below_regrown T dq osq)⟩
  · have d0 : decide (addZ a0 b0 < 1000000000000000) = false := by simpa using h0
    refine wp_region_quiet_below (by kernel_rfl) (by kernel_rfl) ?_
    repeat (first | go_big_quiet_step ((first | with_reducible exact cA _ _ _ _ _ _ _ _)) | quiet_step (first | with_reducible exact cA _ _ _ _ _ _ _ _))
    refine wpQuiet_nil ?_
    intro _ hw'
    obtain ⟨⟨dq, osq⟩, hw''⟩ := hw'
    subst hw''
    have hw2 := below_all hw1 (below_regrown U dq osq)
    replace pA := pA.all (below_regrown U dq osq)
    replace pB := pB.all (below_regrown U dq osq)
    replace pC := pC.all (below_regrown U dq osq)
    replace pS := pS.all (below_regrown U dq osq)
    clear u0 u1 u2 v0 v1 v2 x0 x1 x2 y0 y1 y2 ku0 ku1 ku2 kv0 kv1 kv2 kx0 kx1 kx2 ky0 ky1 ky2 cA hw1
    generalize grow (redrawn U dq) osq = T at *
    obtain ⟨u0, u1, u2⟩ := pA.three
    obtain ⟨v0, v1, v2⟩ := pB.three
    obtain ⟨x0, x1, x2⟩ := pC.three
    obtain ⟨y0, y1, y2⟩ := pS.three
    have ku0 := cell_regrown u0
    have ku1 := cell_regrown u1
    have ku2 := cell_regrown u2
    have kv0 := cell_regrown v0
    have kv1 := cell_regrown v1
    have kv2 := cell_regrown v2
    have kx0 := cell_regrown x0
    have kx1 := cell_regrown x1
    have kx2 := cell_regrown x2
    have ky0 := cell_regrown y0
    have ky1 := cell_regrown y1
    have ky2 := cell_regrown y2
    have cAS : ∀ dd os, Calls Try.prog 13 #[.agg #[.int .i64 a0, .int .i64 a1, .int .i64 a2], .agg #[.int .i64 (addZ a0 b0), .int .i64 (addZ a1 b1), .int .i64 (addZ a2 b2)]] (grow (redrawn T dd) os) fun e w'' => e = .returned (.bool true) ∧ ∃ p : Regrown, w'' = grow (redrawn T p.d) p.os := fun dd os => Calls.regrown_of (fits_as _ _ _ _ _ _ _)
    have cBS : ∀ dd os, Calls Try.prog 13 #[.agg #[.int .i64 b0, .int .i64 b1, .int .i64 b2], .agg #[.int .i64 (addZ a0 b0), .int .i64 (addZ a1 b1), .int .i64 (addZ a2 b2)]] (grow (redrawn T dd) os) fun e w'' => e = .returned (.bool true) ∧ ∃ p : Regrown, w'' = grow (redrawn T p.d) p.os := fun dd os => Calls.regrown_of (fits_bs _ _ _ _ _ _ _)
    have cL : ∀ dd os, Calls Try.prog 8 #[] (grow (redrawn T dd) os) fun e w'' => e = .returned (.bool true) ∧ ∃ p : Regrown, w'' = grow (redrawn T p.d) p.os := fun dd os => Calls.regrown_of (lives_any _)
    clear pA pB pC pS u0 u1 u2 v0 v1 v2 x0 x1 x2 y0 y1 y2
    go_upto_region 4 with (fail)
    rcases Bool.eq_false_or_eq_true (fitsZ c0 c1 c2 a0 a1 a2) with hx | hx
    · have cXA : ∀ dd os, Calls Try.prog 13 #[.agg #[.int .i64 c0, .int .i64 c1, .int .i64 c2], .agg #[.int .i64 a0, .int .i64 a1, .int .i64 a2]] (grow (redrawn T dd) os) fun e w'' => e = .returned (.bool true) ∧ ∃ p : Regrown, w'' = grow (redrawn T p.d) p.os := fun dd os => Calls.regrown_of (fits_xa _ _ _ _ _ _ _ _ hx)
      have cXS : ∀ dd os, Calls Try.prog 13 #[.agg #[.int .i64 c0, .int .i64 c1, .int .i64 c2], .agg #[.int .i64 (addZ a0 b0), .int .i64 (addZ a1 b1), .int .i64 (addZ a2 b2)]] (grow (redrawn T dd) os) fun e w'' => e = .returned (.bool true) ∧ ∃ p : Regrown, w'' = grow (redrawn T p.d) p.os := fun dd os => Calls.regrown_of (fits_xs _ _ _ _ _ _ _ _ _ _ hx)
      have HX := Lib.hid hx
      clear hx
      refine wp_region_plain_below ?_
      repeat (first | go_big_quiet_step ((first | with_reducible exact cL _ _ | with_reducible exact cAS _ _ | with_reducible exact cBS _ _ | with_reducible exact cXA _ _ | with_reducible exact cXS _ _)) | quiet_step (first | with_reducible exact cL _ _ | with_reducible exact cAS _ _ | with_reducible exact cBS _ _ | with_reducible exact cXA _ _ | with_reducible exact cXS _ _))
      refine wpQuiet_nil ?_
      intro _ hw'
      obtain ⟨⟨dq, osq⟩, hw''⟩ := hw'
      subst hw''
      go_wp2
      go_ret
      exact ⟨rfl, below_all hw2 (below_regrown T dq osq)⟩
    · have cXA : ∀ dd os, Calls Try.prog 13 #[.agg #[.int .i64 c0, .int .i64 c1, .int .i64 c2], .agg #[.int .i64 a0, .int .i64 a1, .int .i64 a2]] (grow (redrawn T dd) os) fun e w'' => e = .returned (.bool false) ∧ ∃ p : Regrown, w'' = grow (redrawn T p.d) p.os := fun dd os => Calls.regrown_of (fits_xa _ _ _ _ _ _ _ _ hx)
      have HX := Lib.hid hx
      clear hx
      refine wp_region_plain_below ?_
      repeat (first | go_big_quiet_step ((first | with_reducible exact cL _ _ | with_reducible exact cAS _ _ | with_reducible exact cBS _ _ | with_reducible exact cXA _ _)) | quiet_step (first | with_reducible exact cL _ _ | with_reducible exact cAS _ _ | with_reducible exact cBS _ _ | with_reducible exact cXA _ _))
      refine wpQuiet_nil ?_
      intro _ hw'
      obtain ⟨⟨dq, osq⟩, hw''⟩ := hw'
      subst hw''
      go_wp2
      go_ret
      exact ⟨rfl, below_all hw2 (below_regrown T dq osq)⟩
end Go.Proofs.Ytjjkihohmgpgdaa
