/- Contracts of Fits. -/
import Derived.Test.YtjjkihohmgpgdaaWa
namespace Go.Proofs.Ytjjkihohmgpgdaa
open Go.RowKit Go.Sort Go.Proofs.LawFrame

set_option maxHeartbeats 1000000 in
theorem fits_any (a0 a1 a2 b0 b1 b2 : Int) (w : World) :
    Calls Try.prog 13 #[.agg #[.int .i64 a0, .int .i64 a1, .int .i64 a2], .agg #[.int .i64 b0, .int .i64 b1, .int .i64 b2]] w fun e w' => e = .returned (.bool (fitsZ a0 a1 a2 b0 b1 b2)) ∧ Below w.heap.size w w' := by
  go_enter Try.func13, Try.ntmps13
  go_wp2
  have oA : Own ((w.alloc (.cells #[.int .i64 a0, .int .i64 a1, .int .i64 a2] 23)).alloc (.cells #[.int .i64 b0, .int .i64 b1, .int .i64 b2] 23)) w.heap.size [.int .i64 a0, .int .i64 a1, .int .i64 a2] 23 := (Own.new _ _ _).alloc _
  have oB : Own ((w.alloc (.cells #[.int .i64 a0, .int .i64 a1, .int .i64 a2] 23)).alloc (.cells #[.int .i64 b0, .int .i64 b1, .int .i64 b2] 23)) (w.heap.size + 1) [.int .i64 b0, .int .i64 b1, .int .i64 b2] 23 := by simpa using Own.new (w.alloc (.cells #[.int .i64 a0, .int .i64 a1, .int .i64 a2] 23)) [.int .i64 b0, .int .i64 b1, .int .i64 b2] 23
  have hw0 : Below w.heap.size w ((w.alloc (.cells #[.int .i64 a0, .int .i64 a1, .int .i64 a2] 23)).alloc (.cells #[.int .i64 b0, .int .i64 b1, .int .i64 b2] 23)) := ((Below.refl _ _).alloc (Nat.le_refl _) _).alloc (by simp) _
  generalize (w.alloc (.cells #[.int .i64 a0, .int .i64 a1, .int .i64 a2] 23)).alloc (.cells #[.int .i64 b0, .int .i64 b1, .int .i64 b2] 23) = W at *
  obtain ⟨u0, u1, u2⟩ := oA.three
  obtain ⟨v0, v1, v2⟩ := oB.three
  have k0 := cell_regrown u0
  have k1 := cell_regrown u1
  have k2 := cell_regrown u2
  have l0 := cell_regrown v0
  have l1 := cell_regrown v1
  have l2 := cell_regrown v2
  have cR : ∀ (c m d : Int) dd os, Calls Try.prog 19 #[.agg #[.int .i64 c, .int .i64 m, .int .i64 d]] (grow (redrawn W dd) os) fun e w'' => e = .returned (.agg #[.int .i64 (clampZ c), .int .i64 (clampZ m), .int .i64 (clampZ d)]) ∧ ∃ p : Regrown, w'' = grow (redrawn W p.d) p.os := fun _ _ _ dd os => Calls.regrown_of (clamp_any _ _ _ _)
  refine wp_region_tail_below 4 (by kernel_rfl) (by kernel_rfl) ?_
  simp only [List.take_succ_cons, List.take_zero, List.drop_succ_cons, List.drop_zero]
  repeat (first | go_big_quiet_step ((exact cR _ _ _ _ _)) | quiet_step (exact cR _ _ _ _ _))
  refine wpQuiet_nil ?_
  intro _ hw'
  obtain ⟨⟨dq, osq⟩, hw''⟩ := hw'
  subst hw''
  have hw1 := below_all hw0 (below_regrown W dq osq)
  replace oA := oA.all (below_regrown W dq osq)
  replace oB := oB.all (below_regrown W dq osq)
  clear u0 u1 u2 v0 v1 v2 k0 k1 k2 l0 l1 l2 cR hw0
  generalize grow (redrawn W dq) osq = V at *
  obtain ⟨u0, u1, u2⟩ := oA.three
  obtain ⟨v0, v1, v2⟩ := oB.three
  have f0 := oA.frozen 0
  have f1 := oA.frozen 1
  have f2 := oA.frozen 2
  have g0 := oB.frozen 0
  have g1 := oB.frozen 1
  have g2 := oB.frozen 2
  have hw2 := below_set (b := w.heap.size + 1) (i := 2) (below_set (b := w.heap.size + 1) (i := 1) (below_set (b := w.heap.size + 1) (i := 0) (below_set (b := w.heap.size) (i := 2) (below_set (b := w.heap.size) (i := 1) (below_set (b := w.heap.size) (i := 0) (hw1) (by omega) (.int .i64 (clampZ a0))) (by omega) (.int .i64 (clampZ a1))) (by omega) (.int .i64 (clampZ a2))) (by omega) (.int .i64 (clampZ b0))) (by omega) (.int .i64 (clampZ b1))) (by omega) (.int .i64 (clampZ b2))
  have HW := Lib.hid hw2
  clear hw2 hw1 oA oB
  have hfin : ∀ x y z : Bool, leZ a0 b0 = x → leZ a1 b1 = y → leZ a2 b2 = z → fitsZ a0 a1 a2 b0 b1 b2 = (x && (y && z)) := by intro x y z e0 e1 e2; unfold fitsZ; rw [e0, e1, e2]
  have HF := Lib.hid hfin
  clear hfin
  rcases Bool.eq_false_or_eq_true (leZ a0 b0) with h0 | h0
  all_goals rcases Bool.eq_false_or_eq_true (leZ a1 b1) with h1 | h1
  all_goals rcases Bool.eq_false_or_eq_true (leZ a2 b2) with h2 | h2
  all_goals
    have hf := HF.out _ _ _ h0 h1 h2
    have HR := Lib.hid hf
    clear HF hf
    unfold leZ at h0 h1 h2
    go_wp2
    go_ret
    exact ⟨by rw [HR.out]; rfl, HW.out⟩

set_option maxHeartbeats 1000000 in
theorem rfits_any (a0 a1 a2 b0 b1 b2 : Int) (w : World) :
    Calls Try.prog 14 #[.agg #[.int .i64 a0, .int .i64 a1, .int .i64 a2], .agg #[.int .i64 b0, .int .i64 b1, .int .i64 b2]] w fun e w' => e = .returned (.bool (fitsZ a0 a1 a2 b0 b1 b2)) ∧ Below w.heap.size w w' := by
  go_enter Try.func14, Try.ntmps14
  go_wp2
  have oA : Own ((w.alloc (.cells #[.int .i64 a0, .int .i64 a1, .int .i64 a2] 23)).alloc (.cells #[.int .i64 b0, .int .i64 b1, .int .i64 b2] 23)) w.heap.size [.int .i64 a0, .int .i64 a1, .int .i64 a2] 23 := (Own.new _ _ _).alloc _
  have oB : Own ((w.alloc (.cells #[.int .i64 a0, .int .i64 a1, .int .i64 a2] 23)).alloc (.cells #[.int .i64 b0, .int .i64 b1, .int .i64 b2] 23)) (w.heap.size + 1) [.int .i64 b0, .int .i64 b1, .int .i64 b2] 23 := by simpa using Own.new (w.alloc (.cells #[.int .i64 a0, .int .i64 a1, .int .i64 a2] 23)) [.int .i64 b0, .int .i64 b1, .int .i64 b2] 23
  have hw0 : Below w.heap.size w ((w.alloc (.cells #[.int .i64 a0, .int .i64 a1, .int .i64 a2] 23)).alloc (.cells #[.int .i64 b0, .int .i64 b1, .int .i64 b2] 23)) := ((Below.refl _ _).alloc (Nat.le_refl _) _).alloc (by simp) _
  generalize (w.alloc (.cells #[.int .i64 a0, .int .i64 a1, .int .i64 a2] 23)).alloc (.cells #[.int .i64 b0, .int .i64 b1, .int .i64 b2] 23) = W at *
  obtain ⟨u0, u1, u2⟩ := oA.three
  obtain ⟨v0, v1, v2⟩ := oB.three
  have k0 := cell_regrown u0
  have k1 := cell_regrown u1
  have k2 := cell_regrown u2
  have l0 := cell_regrown v0
  have l1 := cell_regrown v1
  have l2 := cell_regrown v2
  have cR : ∀ (n : Int) dd os, Calls Try.prog 20 #[.int .i64 n] (grow (redrawn W dd) os) fun e w'' => e = .returned (.int .i64 (clampZ n)) ∧ ∃ p : Regrown, w'' = grow (redrawn W p.d) p.os := fun n dd os => (rclamp_any n _).mono fun _ _ ⟨he, hw⟩ => ⟨he, ⟨⟨dd, os⟩, hw.symm⟩⟩
  have hfin : ∀ x y z : Bool, leZ a0 b0 = x → leZ a1 b1 = y → leZ a2 b2 = z → fitsZ a0 a1 a2 b0 b1 b2 = (x && (y && z)) := by intro x y z e0 e1 e2; unfold fitsZ; rw [e0, e1, e2]
  have HF := Lib.hid hfin
  clear hfin
  rcases Bool.eq_false_or_eq_true (leZ a0 b0) with h0 | h0
  all_goals rcases Bool.eq_false_or_eq_true (leZ a1 b1) with h1 | h1
  all_goals rcases Bool.eq_false_or_eq_true (leZ a2 b2) with h2 | h2
  all_goals
    have hf := HF.out _ _ _ h0 h1 h2
    have HR := Lib.hid hf
    clear HF hf
    unfold leZ at h0 h1 h2
    refine wp_region_quiet_below (by kernel_rfl) (by kernel_rfl) ?_
    repeat (first | go_big_quiet_step ((exact cR _ _ _)) | quiet_step (exact cR _ _ _))
    refine wpQuiet_nil ?_
    intro _ hw'
    obtain ⟨⟨dq, osq⟩, hw''⟩ := hw'
    subst hw''
    go_wp2
    go_ret
    exact ⟨by rw [HR.out]; rfl, below_all hw0 (below_regrown W dq osq)⟩
end Go.Proofs.Ytjjkihohmgpgdaa
