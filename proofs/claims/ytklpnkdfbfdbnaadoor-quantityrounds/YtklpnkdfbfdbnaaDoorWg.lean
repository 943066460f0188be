/- The law on Resolve and the law on the roundings. -/
import Derived.Test.YtklpnkdfbfdbnaaDoorWf
namespace Go.Proofs.YtklpnkdfbfdbnaaDoor
open Go.RowKit Go.Sort

set_option maxHeartbeats 1000000 in
theorem resolves_walk (p : Bool) (n total : Int) (up : Bool) (w : World) (ht : Tab w) :
    Calls Tryd.prog 8 #[.agg #[.bool p, .int .i64 n], .int .i64 total, .bool up] w fun e w' => e = .returned (.bool true) ∧ Below w.heap.size w w' := by
  go_enter Tryd.func8, Tryd.ntmps8
  go_wp2
  have hw0 : Below w.heap.size w (w.alloc (.cells #[.bool p, .int .i64 n] 32)) := (Below.refl _ _).alloc (Nat.le_refl _) _
  have c0 : (w.alloc (.cells #[.bool p, .int .i64 n] 32)).cell? ⟨w.heap.size, 0, none⟩ = some (.bool p) := by simp
  have c1 : (w.alloc (.cells #[.bool p, .int .i64 n] 32)).cell? ⟨w.heap.size, 1, none⟩ = some (.int .i64 n) := by simp
  generalize w.alloc (.cells #[.bool p, .int .i64 n] 32) = W at *
  have k0 := cell_regrown c0
  have k1 := cell_regrown c1
  have cR : ∀ d os, Calls Tryd.prog 16 #[.agg #[.bool p, .int .i64 n], .int .i64 total, .bool up] (grow (redrawn W d) os) fun e w'' => e = .returned (.int .i64 (resolveI p n total up)) ∧ ∃ p : Regrown, w'' = grow (redrawn W p.d) p.os := fun d os => Calls.regrown_of (resolve_any _ _ _ _ _)
  have cS : ∀ d os, Calls Tryd.prog 17 #[.agg #[.bool p, .int .i64 n], .int .i64 total, .bool up] (grow (redrawn W d) os) fun e w'' => e = .returned (.int .i64 (resolveI p n total up)) ∧ ∃ p : Regrown, w'' = grow (redrawn W p.d) p.os := fun d os => Calls.regrown_of (rresolve_any _ _ _ _ _)
  have cA : ∀ d os, Calls Tryd.prog 10 #[] (grow (redrawn W d) os) fun e w'' => e = .returned (.bool true) ∧ ∃ p : Regrown, w'' = grow (redrawn W p.d) p.os := fun d os => Calls.regrown_of (awake_any _ ((ht.below hw0).below (below_regrown W d os)))
  refine wp_region_quiet_below (by kernel_rfl) (by kernel_rfl) ?_
  repeat (first | go_big_quiet_step ((first | exact cR _ _ | exact cS _ _ | exact cA _ _)) | quiet_step (first | exact cR _ _ | exact cS _ _ | exact cA _ _))
  refine wpQuiet_nil ?_
  intro _ hw'
  obtain ⟨⟨dq, osq⟩, hw''⟩ := hw'
  subst hw''
  go_wp2
  go_ret
  exact ⟨rfl, next hw0 (below_regrown W dq osq)⟩

set_option maxHeartbeats 1000000 in
theorem rounds_walk (p : Bool) (n total more : Int) (up : Bool) (w : World) (ht : Tab w) :
    Calls Tryd.prog 9 #[.agg #[.bool p, .int .i64 n], .int .i64 total, .int .i64 more, .bool up] w fun e w' => e = .returned (.bool true) ∧ Below w.heap.size w w' := by
  obtain ⟨l0, l1⟩ := resolveI_range p n total false
  obtain ⟨g0, g1⟩ := resolveI_range p n total true
  obtain ⟨t0, t1⟩ := resolveI_two p n total
  have hmono := resolveI_mono p n (a := total) (b := more) up
  have HM := Lib.hid hmono
  clear hmono
  go_enter Tryd.func9, Tryd.ntmps9
  go_wp2
  have hw0 : Below w.heap.size w (w.alloc (.cells #[.bool p, .int .i64 n] 32)) := (Below.refl _ _).alloc (Nat.le_refl _) _
  have c0 : (w.alloc (.cells #[.bool p, .int .i64 n] 32)).cell? ⟨w.heap.size, 0, none⟩ = some (.bool p) := by simp
  have c1 : (w.alloc (.cells #[.bool p, .int .i64 n] 32)).cell? ⟨w.heap.size, 1, none⟩ = some (.int .i64 n) := by simp
  generalize w.alloc (.cells #[.bool p, .int .i64 n] 32) = W at *
  have k0 := cell_regrown c0
  have k1 := cell_regrown c1
  have cR : ∀ (T : Int) (b : Bool) d os, Calls Tryd.prog 16 #[.agg #[.bool p, .int .i64 n], .int .i64 T, .bool b] (grow (redrawn W d) os) fun e w'' => e = .returned (.int .i64 (resolveI p n T b)) ∧ ∃ p : Regrown, w'' = grow (redrawn W p.d) p.os := fun T b d os => Calls.regrown_of (resolve_any _ _ _ _ _)
  refine wp_region_quiet_below (by kernel_rfl) (by kernel_rfl) ?_
  repeat (first | go_big_quiet_step ((exact cR _ _ _ _)) | quiet_step (exact cR _ _ _ _))
  refine wpQuiet_nil ?_
  intro _ hw'
  obtain ⟨⟨dq, osq⟩, hw''⟩ := hw'
  subst hw''
  have hw1 : Below w.heap.size w (grow (redrawn W dq) osq) := next hw0 (below_regrown W dq osq)
  have d0 := k0 dq osq
  have d1 := k1 dq osq
  generalize grow (redrawn W dq) osq = V at *
  clear k0 k1 cR c0 c1
  have k0 := cell_regrown d0
  have k1 := cell_regrown d1
  have cR : ∀ (T : Int) (b : Bool) d os, Calls Tryd.prog 16 #[.agg #[.bool p, .int .i64 n], .int .i64 T, .bool b] (grow (redrawn V d) os) fun e w'' => e = .returned (.int .i64 (resolveI p n T b)) ∧ ∃ p : Regrown, w'' = grow (redrawn V p.d) p.os := fun T b d os => Calls.regrown_of (resolve_any _ _ _ _ _)
  have cA : ∀ d os, Calls Tryd.prog 10 #[] (grow (redrawn V d) os) fun e w'' => e = .returned (.bool true) ∧ ∃ p : Regrown, w'' = grow (redrawn V p.d) p.os := fun d os => Calls.regrown_of (awake_any _ ((ht.below hw1).below (below_regrown V d os)))
  go_wp2
  by_cases hgt : more < total
  · have hd : decide (more < total) = true := by simpa using hgt
    refine wp_region_quiet_below (by kernel_rfl) (by kernel_rfl) ?_
    repeat (first | go_big_quiet_step ((first | exact cR _ _ _ _ | exact cA _ _)) | quiet_step (first | exact cR _ _ _ _ | exact cA _ _))
    refine wpQuiet_nil ?_
    intro _ hw'
    obtain ⟨⟨dr, osr⟩, hw''⟩ := hw'
    subst hw''
    go_wp2
    go_ret
    exact ⟨rfl, next hw1 (below_regrown V dr osr)⟩
  · have hd : decide (more < total) = false := by simpa using hgt
    have hm := HM.out (by omega)
    have hd2 : decide (resolveI p n total up ≤ resolveI p n more up) = true := by simpa using hm
    refine wp_region_quiet_below (by kernel_rfl) (by kernel_rfl) ?_
    repeat (first | go_big_quiet_step ((first | exact cR _ _ _ _ | exact cA _ _)) | quiet_step (first | exact cR _ _ _ _ | exact cA _ _))
    refine wpQuiet_nil ?_
    intro _ hw'
    obtain ⟨⟨dr, osr⟩, hw''⟩ := hw'
    subst hw''
    go_wp2
    go_ret
    exact ⟨rfl, next hw1 (below_regrown V dr osr)⟩
end Go.Proofs.YtklpnkdfbfdbnaaDoor
