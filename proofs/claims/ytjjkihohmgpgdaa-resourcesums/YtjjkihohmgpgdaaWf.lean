/- The laws' walks: ResourceSums. -/
import Derived.Test.YtjjkihohmgpgdaaWe
namespace Go.Proofs.Ytjjkihohmgpgdaa
open Go.RowKit Go.Sort Go.Proofs.LawFrame

set_option maxRecDepth 100000 in
set_option maxHeartbeats 1000000 in
theorem sums_walk (a0 a1 a2 b0 b1 b2 : Int) (w : World) :
    Calls Try.prog 3 #[.agg #[.int .i64 a0, .int .i64 a1, .int .i64 a2], .agg #[.int .i64 b0, .int .i64 b1, .int .i64 b2]] w fun e w' => e = .returned (.bool true) ∧ Below w.heap.size w w' := by
  go_enter Try.func3, Try.ntmps3
  go_wp2
  have hw0 : Below w.heap.size w ((w.alloc (.cells #[.int .i64 a0, .int .i64 a1, .int .i64 a2] 23)).alloc (.cells #[.int .i64 b0, .int .i64 b1, .int .i64 b2] 23)) := ((Below.refl _ _).alloc (Nat.le_refl _) _).alloc (by simp) _
  have oA : Own ((w.alloc (.cells #[.int .i64 a0, .int .i64 a1, .int .i64 a2] 23)).alloc (.cells #[.int .i64 b0, .int .i64 b1, .int .i64 b2] 23)) w.heap.size [.int .i64 a0, .int .i64 a1, .int .i64 a2] 23 := (Own.new _ _ _).alloc _
  have oB : Own ((w.alloc (.cells #[.int .i64 a0, .int .i64 a1, .int .i64 a2] 23)).alloc (.cells #[.int .i64 b0, .int .i64 b1, .int .i64 b2] 23)) (w.heap.size + 1) [.int .i64 b0, .int .i64 b1, .int .i64 b2] 23 := Own.new_at (by rw [size_alloc]) _ _
  generalize (w.alloc (.cells #[.int .i64 a0, .int .i64 a1, .int .i64 a2] 23)).alloc (.cells #[.int .i64 b0, .int .i64 b1, .int .i64 b2] 23) = W at *
  obtain ⟨u0, u1, u2⟩ := oA.three
  obtain ⟨v0, v1, v2⟩ := oB.three
  have k0 := cell_regrown u0
  have k1 := cell_regrown u1
  have k2 := cell_regrown u2
  have l0 := cell_regrown v0
  have l1 := cell_regrown v1
  have l2 := cell_regrown v2
  have cA : ∀ (x0 x1 x2 y0 y1 y2 : Int) dd os, Calls Try.prog 9 #[.agg #[.int .i64 x0, .int .i64 x1, .int .i64 x2], .agg #[.int .i64 y0, .int .i64 y1, .int .i64 y2]] (grow (redrawn W dd) os) fun e w'' => e = .returned (.agg #[.int .i64 (addZ x0 y0), .int .i64 (addZ x1 y1), .int .i64 (addZ x2 y2)]) ∧ ∃ p : Regrown, w'' = grow (redrawn W p.d) p.os := fun _ _ _ _ _ _ dd os => Calls.regrown_of (add_any _ _ _ _ _ _ _)
  have cRA : ∀ (x0 x1 x2 y0 y1 y2 : Int) dd os, Calls Try.prog 10 #[.agg #[.int .i64 x0, .int .i64 x1, .int .i64 x2], .agg #[.int .i64 y0, .int .i64 y1, .int .i64 y2]] (grow (redrawn W dd) os) fun e w'' => e = .returned (.agg #[.int .i64 (addZ x0 y0), .int .i64 (addZ x1 y1), .int .i64 (addZ x2 y2)]) ∧ ∃ p : Regrown, w'' = grow (redrawn W p.d) p.os := fun _ _ _ _ _ _ dd os => Calls.regrown_of (radd_any _ _ _ _ _ _ _)
  have cS : ∀ (x0 x1 x2 y0 y1 y2 : Int) dd os, Calls Try.prog 11 #[.agg #[.int .i64 x0, .int .i64 x1, .int .i64 x2], .agg #[.int .i64 y0, .int .i64 y1, .int .i64 y2]] (grow (redrawn W dd) os) fun e w'' => e = .returned (.agg #[.int .i64 (subZ x0 y0), .int .i64 (subZ x1 y1), .int .i64 (subZ x2 y2)]) ∧ ∃ p : Regrown, w'' = grow (redrawn W p.d) p.os := fun _ _ _ _ _ _ dd os => Calls.regrown_of (sub_any _ _ _ _ _ _ _)
  have cRS : ∀ (x0 x1 x2 y0 y1 y2 : Int) dd os, Calls Try.prog 12 #[.agg #[.int .i64 x0, .int .i64 x1, .int .i64 x2], .agg #[.int .i64 y0, .int .i64 y1, .int .i64 y2]] (grow (redrawn W dd) os) fun e w'' => e = .returned (.agg #[.int .i64 (subZ x0 y0), .int .i64 (subZ x1 y1), .int .i64 (subZ x2 y2)]) ∧ ∃ p : Regrown, w'' = grow (redrawn W p.d) p.os := fun _ _ _ _ _ _ dd os => Calls.regrown_of (rsub_any _ _ _ _ _ _ _)
  have cF : ∀ (x0 x1 x2 y0 y1 y2 : Int) dd os, Calls Try.prog 13 #[.agg #[.int .i64 x0, .int .i64 x1, .int .i64 x2], .agg #[.int .i64 y0, .int .i64 y1, .int .i64 y2]] (grow (redrawn W dd) os) fun e w'' => e = .returned (.bool (fitsZ x0 x1 x2 y0 y1 y2)) ∧ ∃ p : Regrown, w'' = grow (redrawn W p.d) p.os := fun _ _ _ _ _ _ dd os => Calls.regrown_of (fits_any _ _ _ _ _ _ _)
  have cRF : ∀ (x0 x1 x2 y0 y1 y2 : Int) dd os, Calls Try.prog 14 #[.agg #[.int .i64 x0, .int .i64 x1, .int .i64 x2], .agg #[.int .i64 y0, .int .i64 y1, .int .i64 y2]] (grow (redrawn W dd) os) fun e w'' => e = .returned (.bool (fitsZ x0 x1 x2 y0 y1 y2)) ∧ ∃ p : Regrown, w'' = grow (redrawn W p.d) p.os := fun _ _ _ _ _ _ dd os => Calls.regrown_of (rfits_any _ _ _ _ _ _ _)
  have cL : ∀ dd os, Calls Try.prog 8 #[] (grow (redrawn W dd) os) fun e w'' => e = .returned (.bool true) ∧ ∃ p : Regrown, w'' = grow (redrawn W p.d) p.os := fun dd os => Calls.regrown_of (lives_any _)
  clear oA oB u0 u1 u2 v0 v1 v2
  refine wp_region_quiet_below (by kernel_rfl) (by kernel_rfl) ?_
  repeat (first | go_big_quiet_step ((first | with_reducible exact cA _ _ _ _ _ _ _ _ | with_reducible exact cRA _ _ _ _ _ _ _ _ | with_reducible exact cS _ _ _ _ _ _ _ _ | with_reducible exact cRS _ _ _ _ _ _ _ _ | with_reducible exact cF _ _ _ _ _ _ _ _ | with_reducible exact cRF _ _ _ _ _ _ _ _ | with_reducible exact cL _ _)) | quiet_step (first | with_reducible exact cA _ _ _ _ _ _ _ _ | with_reducible exact cRA _ _ _ _ _ _ _ _ | with_reducible exact cS _ _ _ _ _ _ _ _ | with_reducible exact cRS _ _ _ _ _ _ _ _ | with_reducible exact cF _ _ _ _ _ _ _ _ | with_reducible exact cRF _ _ _ _ _ _ _ _ | with_reducible exact cL _ _))
  refine wpQuiet_nil ?_
  intro _ hw'
  obtain ⟨⟨dq, osq⟩, hw''⟩ := hw'
  subst hw''
  go_wp2
  go_ret
  exact ⟨rfl, below_all hw0 (below_regrown W dq osq)⟩
end Go.Proofs.Ytjjkihohmgpgdaa
