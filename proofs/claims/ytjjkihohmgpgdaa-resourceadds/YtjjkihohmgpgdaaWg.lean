/- The laws' walks: ResourceAdds. -/
import Derived.Test.YtjjkihohmgpgdaaWe
namespace Go.Proofs.Ytjjkihohmgpgdaa
open Go.RowKit Go.Sort Go.Proofs.LawFrame
theorem add_ba (a0 a1 a2 b0 b1 b2 : Int) (w : World) : Calls Try.prog 9 #[.agg #[.int .i64 b0, .int .i64 b1, .int .i64 b2], .agg #[.int .i64 a0, .int .i64 a1, .int .i64 a2]] w fun e w' => e = .returned (.agg #[.int .i64 (addZ a0 b0), .int .i64 (addZ a1 b1), .int .i64 (addZ a2 b2)]) ∧ Below w.heap.size w w' := by
  have h := add_any b0 b1 b2 a0 a1 a2 w
  rw [addZ_comm b0 a0, addZ_comm b1 a1, addZ_comm b2 a2] at h
  exact h
theorem add_sc (a0 a1 a2 b0 b1 b2 c0 c1 c2 : Int) (w : World) : Calls Try.prog 9 #[.agg #[.int .i64 (addZ a0 b0), .int .i64 (addZ a1 b1), .int .i64 (addZ a2 b2)], .agg #[.int .i64 c0, .int .i64 c1, .int .i64 c2]] w fun e w' => e = .returned (.agg #[.int .i64 (addZ a0 (addZ b0 c0)), .int .i64 (addZ a1 (addZ b1 c1)), .int .i64 (addZ a2 (addZ b2 c2))]) ∧ Below w.heap.size w w' := by
  have h := add_any (addZ a0 b0) (addZ a1 b1) (addZ a2 b2) c0 c1 c2 w
  rw [addZ_assoc a0 b0 c0, addZ_assoc a1 b1 c1, addZ_assoc a2 b2 c2] at h
  exact h
theorem add_s0 (a0 a1 a2 b0 b1 b2 : Int) (w : World) : Calls Try.prog 9 #[.agg #[.int .i64 (addZ a0 b0), .int .i64 (addZ a1 b1), .int .i64 (addZ a2 b2)], .agg #[.int .i64 0, .int .i64 0, .int .i64 0]] w fun e w' => e = .returned (.agg #[.int .i64 (addZ a0 b0), .int .i64 (addZ a1 b1), .int .i64 (addZ a2 b2)]) ∧ Below w.heap.size w w' := by
  have h := add_any (addZ a0 b0) (addZ a1 b1) (addZ a2 b2) 0 0 0 w
  rw [addZ_addZ_zero a0 b0, addZ_addZ_zero a1 b1, addZ_addZ_zero a2 b2] at h
  exact h

set_option maxRecDepth 100000 in
set_option maxHeartbeats 2000000 in
theorem adds_walk (a0 a1 a2 b0 b1 b2 c0 c1 c2 : Int) (w : World) :
    Calls Try.prog 6 #[.agg #[.int .i64 a0, .int .i64 a1, .int .i64 a2], .agg #[.int .i64 b0, .int .i64 b1, .int .i64 b2], .agg #[.int .i64 c0, .int .i64 c1, .int .i64 c2]] w fun e w' => e = .returned (.bool true) ∧ Below w.heap.size w w' := by
  have lo0 := addZ_lo a0 b0
  have hi0 := addZ_hi a0 b0
  have dl0 : decide (addZ a0 b0 < 0) = false := by simp; omega
  have dh0 : decide (1000000000000000 < addZ a0 b0) = false := by simp; omega
  have lo1 := addZ_lo a1 b1
  have hi1 := addZ_hi a1 b1
  have dl1 : decide (addZ a1 b1 < 0) = false := by simp; omega
  have dh1 : decide (1000000000000000 < addZ a1 b1) = false := by simp; omega
  have lo2 := addZ_lo a2 b2
  have hi2 := addZ_hi a2 b2
  have dl2 : decide (addZ a2 b2 < 0) = false := by simp; omega
  have dh2 : decide (1000000000000000 < addZ a2 b2) = false := by simp; omega
  go_enter Try.func6, Try.ntmps6
  go_wp2_with fail
  have hw0 : Below w.heap.size w (((w.alloc (.cells #[.int .i64 a0, .int .i64 a1, .int .i64 a2] 23)).alloc (.cells #[.int .i64 b0, .int .i64 b1, .int .i64 b2] 23)).alloc (.cells #[.int .i64 c0, .int .i64 c1, .int .i64 c2] 23)) := (((Below.refl _ _).alloc (Nat.le_refl _) _).alloc (by simp) _).alloc (by simp; omega) _
  have oA : Own (((w.alloc (.cells #[.int .i64 a0, .int .i64 a1, .int .i64 a2] 23)).alloc (.cells #[.int .i64 b0, .int .i64 b1, .int .i64 b2] 23)).alloc (.cells #[.int .i64 c0, .int .i64 c1, .int .i64 c2] 23)) w.heap.size [.int .i64 a0, .int .i64 a1, .int .i64 a2] 23 := ((Own.new _ _ _).alloc _).alloc _
  have oB : Own (((w.alloc (.cells #[.int .i64 a0, .int .i64 a1, .int .i64 a2] 23)).alloc (.cells #[.int .i64 b0, .int .i64 b1, .int .i64 b2] 23)).alloc (.cells #[.int .i64 c0, .int .i64 c1, .int .i64 c2] 23)) (w.heap.size + 1) [.int .i64 b0, .int .i64 b1, .int .i64 b2] 23 := (Own.new_at (by rw [size_alloc]) _ _).alloc _
  have oC : Own (((w.alloc (.cells #[.int .i64 a0, .int .i64 a1, .int .i64 a2] 23)).alloc (.cells #[.int .i64 b0, .int .i64 b1, .int .i64 b2] 23)).alloc (.cells #[.int .i64 c0, .int .i64 c1, .int .i64 c2] 23)) (w.heap.size + 1 + 1) [.int .i64 c0, .int .i64 c1, .int .i64 c2] 23 := Own.new_at (by rw [size_alloc, size_alloc]) _ _
  generalize ((w.alloc (.cells #[.int .i64 a0, .int .i64 a1, .int .i64 a2] 23)).alloc (.cells #[.int .i64 b0, .int .i64 b1, .int .i64 b2] 23)).alloc (.cells #[.int .i64 c0, .int .i64 c1, .int .i64 c2] 23) = W at *
  refine (add_any _ _ _ _ _ _ _).mono ?_
  rintro e V ⟨rfl, hb⟩
  replace hw0 := below_all hw0 hb
  replace oA := oA.all hb
  replace oB := oB.all hb
  replace oC := oC.all hb
  clear hb
  obtain ⟨u0, u1, u2⟩ := oA.three
  obtain ⟨v0, v1, v2⟩ := oB.three
  obtain ⟨x0, x1, x2⟩ := oC.three
  have ltA := oA.lt
  have ltB := oB.lt
  have ltC := oC.lt
  go_wp2
  have hw1 := hw0.alloc hw0.size (.cells #[.int .i64 (addZ a0 b0), .int .i64 (addZ a1 b1), .int .i64 (addZ a2 b2)] 23)
  have pA := oA.alloc (.cells #[.int .i64 (addZ a0 b0), .int .i64 (addZ a1 b1), .int .i64 (addZ a2 b2)] 23)
  have pB := oB.alloc (.cells #[.int .i64 (addZ a0 b0), .int .i64 (addZ a1 b1), .int .i64 (addZ a2 b2)] 23)
  have pC := oC.alloc (.cells #[.int .i64 (addZ a0 b0), .int .i64 (addZ a1 b1), .int .i64 (addZ a2 b2)] 23)
  have pS : Own (V.alloc (.cells #[.int .i64 (addZ a0 b0), .int .i64 (addZ a1 b1), .int .i64 (addZ a2 b2)] 23)) V.heap.size [.int .i64 (addZ a0 b0), .int .i64 (addZ a1 b1), .int .i64 (addZ a2 b2)] 23 := Own.new _ _ _
  clear u0 u1 u2 v0 v1 v2 x0 x1 x2 oA oB oC hw0 ltA ltB ltC
  generalize V.alloc (.cells #[.int .i64 (addZ a0 b0), .int .i64 (addZ a1 b1), .int .i64 (addZ a2 b2)] 23) = U at *
  obtain ⟨u0, u1, u2⟩ := pA.three
  obtain ⟨v0, v1, v2⟩ := pB.three
  obtain ⟨x0, x1, x2⟩ := pC.three
  obtain ⟨y0, y1, y2⟩ := pS.three
  have ku0 := cell_regrown u0
  have ku1 := cell_regrown u1
  have ku2 := cell_regrown u2
  have kv0 := cell_regrown v0
  have kv1 := cell_regrown v1
  have kv2 := cell_regrown v2
  have kx0 := cell_regrown x0
  have kx1 := cell_regrown x1
  have kx2 := cell_regrown x2
  have ky0 := cell_regrown y0
  have ky1 := cell_regrown y1
  have ky2 := cell_regrown y2
  have cBA : ∀ dd os, Calls Try.prog 9 #[.agg #[.int .i64 b0, .int .i64 b1, .int .i64 b2], .agg #[.int .i64 a0, .int .i64 a1, .int .i64 a2]] (grow (redrawn U dd) os) fun e w'' => e = .returned (.agg #[.int .i64 (addZ a0 b0), .int .i64 (addZ a1 b1), .int .i64 (addZ a2 b2)]) ∧ ∃ p : Regrown, w'' = grow (redrawn U p.d) p.os := fun dd os => Calls.regrown_of (add_ba _ _ _ _ _ _ _)
  have cSC : ∀ dd os, Calls Try.prog 9 #[.agg #[.int .i64 (addZ a0 b0), .int .i64 (addZ a1 b1), .int .i64 (addZ a2 b2)], .agg #[.int .i64 c0, .int .i64 c1, .int .i64 c2]] (grow (redrawn U dd) os) fun e w'' => e = .returned (.agg #[.int .i64 (addZ a0 (addZ b0 c0)), .int .i64 (addZ a1 (addZ b1 c1)), .int .i64 (addZ a2 (addZ b2 c2))]) ∧ ∃ p : Regrown, w'' = grow (redrawn U p.d) p.os := fun dd os => Calls.regrown_of (add_sc _ _ _ _ _ _ _ _ _ _)
  have cS0 : ∀ dd os, Calls Try.prog 9 #[.agg #[.int .i64 (addZ a0 b0), .int .i64 (addZ a1 b1), .int .i64 (addZ a2 b2)], .agg #[.int .i64 0, .int .i64 0, .int .i64 0]] (grow (redrawn U dd) os) fun e w'' => e = .returned (.agg #[.int .i64 (addZ a0 b0), .int .i64 (addZ a1 b1), .int .i64 (addZ a2 b2)]) ∧ ∃ p : Regrown, w'' = grow (redrawn U p.d) p.os := fun dd os => Calls.regrown_of (add_s0 _ _ _ _ _ _ _)
  have cA : ∀ (x0 x1 x2 y0 y1 y2 : Int) dd os, Calls Try.prog 9 #[.agg #[.int .i64 x0, .int .i64 x1, .int .i64 x2], .agg #[.int .i64 y0, .int .i64 y1, .int .i64 y2]] (grow (redrawn U dd) os) fun e w'' => e = .returned (.agg #[.int .i64 (addZ x0 y0), .int .i64 (addZ x1 y1), .int .i64 (addZ x2 y2)]) ∧ ∃ p : Regrown, w'' = grow (redrawn U p.d) p.os := fun _ _ _ _ _ _ dd os => Calls.regrown_of (add_any _ _ _ _ _ _ _)
  have cL : ∀ dd os, Calls Try.prog 8 #[] (grow (redrawn U dd) os) fun e w'' => e = .returned (.bool true) ∧ ∃ p : Regrown, w'' = grow (redrawn U p.d) p.os := fun dd os => Calls.regrown_of (lives_any _)
  clear pA pB pC pS u0 u1 u2 v0 v1 v2 x0 x1 x2 y0 y1 y2
  refine wp_region_quiet_below (by kernel_rfl) (by kernel_rfl) ?_
  repeat (first | go_big_quiet_step ((first | with_reducible exact cL _ _ | with_reducible exact cBA _ _ | with_reducible exact cSC _ _ | with_reducible exact cS0 _ _ | with_reducible exact cA _ _ _ _ _ _ _ _)) | quiet_step (first | with_reducible exact cL _ _ | with_reducible exact cBA _ _ | with_reducible exact cSC _ _ | with_reducible exact cS0 _ _ | with_reducible exact cA _ _ _ _ _ _ _ _))
  refine wpQuiet_nil ?_
  intro _ hw'
  obtain ⟨⟨dq, osq⟩, hw''⟩ := hw'
  subst hw''
  go_wp2
  go_ret
  exact ⟨rfl, below_all hw1 (below_regrown U dq osq)⟩
end Go.Proofs.Ytjjkihohmgpgdaa
