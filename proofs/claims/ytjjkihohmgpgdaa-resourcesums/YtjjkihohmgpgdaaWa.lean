/- Contracts of the clamping functions, of Add, Sub and Fits, and of the reference's. -/
import Derived.Test.YtjjkihohmgpgdaaProg
import Derived.Test.YtjjkihohmgpgdaaMa
import Derived.Test.YtjjkihohmgpgdaaRg
import Derived.Test.YtjjkihohmgpgdaaOw
import Derived.WalkKit
import Derived.WalkSpells
import Derived.WalkLawsBesides
import Derived.BigQuiet
import Derived.Lib.QuietBelow
import Derived.Lib.Hide
namespace Go.Proofs.Ytjjkihohmgpgdaa
open Go.RowKit Go.Sort Go.Proofs.LawFrame

theorem ret_int {k : IntKind} {a b : Int} (h : a = b) : Ending.returned (.int k a) = .returned (.int k b) := by rw [h]

set_option maxHeartbeats 400000 in
theorem clampAmount_any (n : Int) (w : World) :
    Calls Try.prog 21 #[.int .i64 n] w fun e w' => e = .returned (.int .i64 (clampZ n)) ∧ w = w' := by
  go_enter Try.func21, Try.ntmps21
  go_wp2
  all_goals
    go_ret
    exact ⟨ret_int (by unfold clampZ; split <;> (try split) <;> omega), rfl⟩

set_option maxHeartbeats 400000 in
theorem rclamp_any (n : Int) (w : World) :
    Calls Try.prog 20 #[.int .i64 n] w fun e w' => e = .returned (.int .i64 (clampZ n)) ∧ w = w' := by
  go_enter Try.func20, Try.ntmps20
  go_wp2
  all_goals
    go_ret
    exact ⟨ret_int (by unfold clampZ; split <;> (try split) <;> omega), rfl⟩

set_option maxHeartbeats 1000000 in
theorem clamp_any (c m d : Int) (w : World) :
    Calls Try.prog 19 #[.agg #[.int .i64 c, .int .i64 m, .int .i64 d]] w fun e w' => e = .returned (.agg #[.int .i64 (clampZ c), .int .i64 (clampZ m), .int .i64 (clampZ d)]) ∧ Below w.heap.size w w' := by
  go_enter Try.func19, Try.ntmps19
  go_wp2
  have hw0 : Below w.heap.size w ((w.alloc (.cells #[.int .i64 c, .int .i64 m, .int .i64 d] 23)).alloc (.cells #[.int .i64 0, .int .i64 0, .int .i64 0] 23)) := ((Below.refl _ _).alloc (Nat.le_refl _) _).alloc (by simp) _
  have o0 : Own ((w.alloc (.cells #[.int .i64 c, .int .i64 m, .int .i64 d] 23)).alloc (.cells #[.int .i64 0, .int .i64 0, .int .i64 0] 23)) w.heap.size [.int .i64 c, .int .i64 m, .int .i64 d] 23 := (Own.new _ _ _).alloc _
  have o1 : Own ((w.alloc (.cells #[.int .i64 c, .int .i64 m, .int .i64 d] 23)).alloc (.cells #[.int .i64 0, .int .i64 0, .int .i64 0] 23)) (w.heap.size + 1) [.int .i64 0, .int .i64 0, .int .i64 0] 23 := by
    have := Own.new (w.alloc (.cells #[.int .i64 c, .int .i64 m, .int .i64 d] 23)) [.int .i64 0, .int .i64 0, .int .i64 0] 23
    simpa using this
  generalize (w.alloc (.cells #[.int .i64 c, .int .i64 m, .int .i64 d] 23)).alloc (.cells #[.int .i64 0, .int .i64 0, .int .i64 0] 23) = W at *
  obtain ⟨c0, c1, c2⟩ := o0.three
  have k0 := cell_regrown c0
  have k1 := cell_regrown c1
  have k2 := cell_regrown c2
  have cR : ∀ (n : Int) d os, Calls Try.prog 21 #[.int .i64 n] (grow (redrawn W d) os) fun e w'' => e = .returned (.int .i64 (clampZ n)) ∧ ∃ p : Regrown, w'' = grow (redrawn W p.d) p.os := fun n d os => (clampAmount_any n _).mono fun _ _ ⟨he, hw⟩ => ⟨he, ⟨⟨d, os⟩, hw.symm⟩⟩
  refine wp_region_tail_below 10 (by kernel_rfl) (by kernel_rfl) ?_
  simp only [List.take_succ_cons, List.take_zero, List.drop_succ_cons, List.drop_zero]
  repeat (first | go_big_quiet_step ((exact cR _ _ _)) | quiet_step (exact cR _ _ _))
  refine wpQuiet_nil ?_
  intro _ hw'
  obtain ⟨⟨dq, osq⟩, hw''⟩ := hw'
  subst hw''
  have hw1 := below_all hw0 (below_regrown W dq osq)
  have p1 := o1.all (below_regrown W dq osq)
  clear k0 k1 k2 cR c0 c1 c2 o0 o1 hw0
  generalize grow (redrawn W dq) osq = V at *
  obtain ⟨c0, c1, c2⟩ := p1.three
  have f0 := p1.frozen 0
  have f1 := p1.frozen 1
  have f2 := p1.frozen 2
  go_wp2
  have hw2 := ((hw1.setCell (p := ⟨w.heap.size + 1, 0, none⟩) (by simp) (.int .i64 (clampZ c))).setCell (p := ⟨w.heap.size + 1, 1, none⟩) (by simp) (.int .i64 (clampZ m))).setCell (p := ⟨w.heap.size + 1, 2, none⟩) (by simp) (.int .i64 (clampZ d))
  have p2 := ((p1.set 0 (.int .i64 (clampZ c))).set 1 (.int .i64 (clampZ m))).set 2 (.int .i64 (clampZ d))
  clear c0 c1 c2 f0 f1 f2
  generalize ((V.setCell ⟨w.heap.size + 1, 0, none⟩ (.int .i64 (clampZ c))).setCell ⟨w.heap.size + 1, 1, none⟩ (.int .i64 (clampZ m))).setCell ⟨w.heap.size + 1, 2, none⟩ (.int .i64 (clampZ d)) = U at *
  obtain ⟨c0, c1, c2⟩ := Own.three p2
  exact bodyPost_ret (v := .agg #[.int .i64 (clampZ c), .int .i64 (clampZ m), .int .i64 (clampZ d)]) (by simp [results, Try.results19, go_sem, c0, c1, c2]) rfl ⟨rfl, hw2⟩
end Go.Proofs.Ytjjkihohmgpgdaa
