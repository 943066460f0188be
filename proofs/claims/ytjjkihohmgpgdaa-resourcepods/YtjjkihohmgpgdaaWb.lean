/- Contracts of Add and Sub. -/
import Derived.Test.YtjjkihohmgpgdaaWa
namespace Go.Proofs.Ytjjkihohmgpgdaa
open Go.RowKit Go.Sort Go.Proofs.LawFrame

set_option maxHeartbeats 1000000 in
theorem add_any (a0 a1 a2 b0 b1 b2 : Int) (w : World) :
    Calls Try.prog 9 #[.agg #[.int .i64 a0, .int .i64 a1, .int .i64 a2], .agg #[.int .i64 b0, .int .i64 b1, .int .i64 b2]] w fun e w' => e = .returned (.agg #[.int .i64 (addZ a0 b0), .int .i64 (addZ a1 b1), .int .i64 (addZ a2 b2)]) ∧ Below w.heap.size w w' := by
  go_enter Try.func9, Try.ntmps9
  go_wp2
  have oA : Own ((w.alloc (.cells #[.int .i64 a0, .int .i64 a1, .int .i64 a2] 23)).alloc (.cells #[.int .i64 b0, .int .i64 b1, .int .i64 b2] 23)) w.heap.size [.int .i64 a0, .int .i64 a1, .int .i64 a2] 23 := (Own.new _ _ _).alloc _
  have oB : Own ((w.alloc (.cells #[.int .i64 a0, .int .i64 a1, .int .i64 a2] 23)).alloc (.cells #[.int .i64 b0, .int .i64 b1, .int .i64 b2] 23)) (w.heap.size + 1) [.int .i64 b0, .int .i64 b1, .int .i64 b2] 23 := by simpa using Own.new (w.alloc (.cells #[.int .i64 a0, .int .i64 a1, .int .i64 a2] 23)) [.int .i64 b0, .int .i64 b1, .int .i64 b2] 23
  have hw0 : Below w.heap.size w ((w.alloc (.cells #[.int .i64 a0, .int .i64 a1, .int .i64 a2] 23)).alloc (.cells #[.int .i64 b0, .int .i64 b1, .int .i64 b2] 23)) := ((Below.refl _ _).alloc (Nat.le_refl _) _).alloc (by simp) _
  have oC : Own (((w.alloc (.cells #[.int .i64 a0, .int .i64 a1, .int .i64 a2] 23)).alloc (.cells #[.int .i64 b0, .int .i64 b1, .int .i64 b2] 23)).alloc (.cells #[.int .i64 0, .int .i64 0, .int .i64 0] 23)) (w.heap.size + 2) [.int .i64 0, .int .i64 0, .int .i64 0] 23 := by simpa using Own.new ((w.alloc (.cells #[.int .i64 a0, .int .i64 a1, .int .i64 a2] 23)).alloc (.cells #[.int .i64 b0, .int .i64 b1, .int .i64 b2] 23)) [.int .i64 0, .int .i64 0, .int .i64 0] 23
  replace oA := oA.alloc (.cells #[.int .i64 0, .int .i64 0, .int .i64 0] 23)
  replace oB := oB.alloc (.cells #[.int .i64 0, .int .i64 0, .int .i64 0] 23)
  replace hw0 := hw0.alloc (by simp; omega) (.cells #[.int .i64 0, .int .i64 0, .int .i64 0] 23)
  generalize ((w.alloc (.cells #[.int .i64 a0, .int .i64 a1, .int .i64 a2] 23)).alloc (.cells #[.int .i64 b0, .int .i64 b1, .int .i64 b2] 23)).alloc (.cells #[.int .i64 0, .int .i64 0, .int .i64 0] 23) = W at *
  obtain ⟨u0, u1, u2⟩ := oA.three
  obtain ⟨v0, v1, v2⟩ := oB.three
  have k0 := cell_regrown u0
  have k1 := cell_regrown u1
  have k2 := cell_regrown u2
  have l0 := cell_regrown v0
  have l1 := cell_regrown v1
  have l2 := cell_regrown v2
  have cR : ∀ (c m d : Int) dd os, Calls Try.prog 19 #[.agg #[.int .i64 c, .int .i64 m, .int .i64 d]] (grow (redrawn W dd) os) fun e w'' => e = .returned (.agg #[.int .i64 (clampZ c), .int .i64 (clampZ m), .int .i64 (clampZ d)]) ∧ ∃ p : Regrown, w'' = grow (redrawn W p.d) p.os := fun _ _ _ dd os => Calls.regrown_of (clamp_any _ _ _ _)
  refine wp_region_tail_below 4 (by kernel_rfl) (by kernel_rfl) ?_
  simp only [List.take_succ_cons, List.take_zero, List.drop_succ_cons, List.drop_zero]
  repeat (first | go_big_quiet_step ((exact cR _ _ _ _ _)) | quiet_step (exact cR _ _ _ _ _))
  refine wpQuiet_nil ?_
  intro _ hw'
  obtain ⟨⟨dq, osq⟩, hw''⟩ := hw'
  subst hw''
  have hw1 := below_all hw0 (below_regrown W dq osq)
  replace oA := oA.all (below_regrown W dq osq)
  replace oB := oB.all (below_regrown W dq osq)
  replace oC := oC.all (below_regrown W dq osq)
  clear u0 u1 u2 v0 v1 v2 k0 k1 k2 l0 l1 l2 cR hw0
  generalize grow (redrawn W dq) osq = V at *
  obtain ⟨u0, u1, u2⟩ := oA.three
  obtain ⟨v0, v1, v2⟩ := oB.three
  have f0 := oA.frozen 0
  have f1 := oA.frozen 1
  have f2 := oA.frozen 2
  have g0 := oB.frozen 0
  have g1 := oB.frozen 1
  have g2 := oB.frozen 2
  have pa0 := clampZ_lo a0
  have pa1 := clampZ_lo a1
  have pa2 := clampZ_lo a2
  have qa0 := clampZ_hi a0
  have qa1 := clampZ_hi a1
  have qa2 := clampZ_hi a2
  have pb0 := clampZ_lo b0
  have pb1 := clampZ_lo b1
  have pb2 := clampZ_lo b2
  have qb0 := clampZ_hi b0
  have qb1 := clampZ_hi b1
  have qb2 := clampZ_hi b2
  go_wp2_with fail
  have hw2 := below_set (b := w.heap.size + 1) (i := 2) (below_set (b := w.heap.size + 1) (i := 1) (below_set (b := w.heap.size + 1) (i := 0) (below_set (b := w.heap.size) (i := 2) (below_set (b := w.heap.size) (i := 1) (below_set (b := w.heap.size) (i := 0) (hw1) (by omega) (.int .i64 (clampZ a0))) (by omega) (.int .i64 (clampZ a1))) (by omega) (.int .i64 (clampZ a2))) (by omega) (.int .i64 (clampZ b0))) (by omega) (.int .i64 (clampZ b1))) (by omega) (.int .i64 (clampZ b2))
  have pC := Own.set_ne (b' := w.heap.size + 1) (Own.set_ne (b' := w.heap.size + 1) (Own.set_ne (b' := w.heap.size + 1) (Own.set_ne (b' := w.heap.size) (Own.set_ne (b' := w.heap.size) (Own.set_ne (b' := w.heap.size) (oC) (by omega) 0 (.int .i64 (clampZ a0))) (by omega) 1 (.int .i64 (clampZ a1))) (by omega) 2 (.int .i64 (clampZ a2))) (by omega) 0 (.int .i64 (clampZ b0))) (by omega) 1 (.int .i64 (clampZ b1))) (by omega) 2 (.int .i64 (clampZ b2))
  clear u0 u1 u2 v0 v1 v2 f0 f1 f2 g0 g1 g2 oA oB oC hw1
  generalize ((((((V).setCell ⟨w.heap.size, 0, none⟩ (.int .i64 (clampZ a0))).setCell ⟨w.heap.size, 1, none⟩ (.int .i64 (clampZ a1))).setCell ⟨w.heap.size, 2, none⟩ (.int .i64 (clampZ a2))).setCell ⟨w.heap.size + 1, 0, none⟩ (.int .i64 (clampZ b0))).setCell ⟨w.heap.size + 1, 1, none⟩ (.int .i64 (clampZ b1))).setCell ⟨w.heap.size + 1, 2, none⟩ (.int .i64 (clampZ b2)) = V1 at *
  refine (clamp_any _ _ _ _).mono ?_
  rintro e V2 ⟨rfl, hb⟩
  replace hw2 := below_all hw2 hb
  have oC := pC.all hb
  clear pC hb
  obtain ⟨c0, c1, c2⟩ := oC.three
  have g0 := oC.frozen 0
  have g1 := oC.frozen 1
  have g2 := oC.frozen 2
  go_wp2
  have hw3 := below_set (b := w.heap.size + 2) (i := 2) (below_set (b := w.heap.size + 2) (i := 1) (below_set (b := w.heap.size + 2) (i := 0) (hw2) (by omega) (.int .i64 (clampZ (clampZ a0 + clampZ b0)))) (by omega) (.int .i64 (clampZ (clampZ a1 + clampZ b1)))) (by omega) (.int .i64 (clampZ (clampZ a2 + clampZ b2)))
  have oR := (((oC).set 0 (.int .i64 (clampZ (clampZ a0 + clampZ b0)))).set 1 (.int .i64 (clampZ (clampZ a1 + clampZ b1)))).set 2 (.int .i64 (clampZ (clampZ a2 + clampZ b2)))
  clear c0 c1 c2 g0 g1 g2
  generalize (((V2).setCell ⟨w.heap.size + 2, 0, none⟩ (.int .i64 (clampZ (clampZ a0 + clampZ b0)))).setCell ⟨w.heap.size + 2, 1, none⟩ (.int .i64 (clampZ (clampZ a1 + clampZ b1)))).setCell ⟨w.heap.size + 2, 2, none⟩ (.int .i64 (clampZ (clampZ a2 + clampZ b2))) = U at *
  obtain ⟨c0, c1, c2⟩ := Own.three oR
  exact bodyPost_ret (v := .agg #[.int .i64 (clampZ (clampZ a0 + clampZ b0)), .int .i64 (clampZ (clampZ a1 + clampZ b1)), .int .i64 (clampZ (clampZ a2 + clampZ b2))]) (by simp [results, Try.results9, go_sem, c0, c1, c2]) rfl ⟨rfl, hw3⟩

set_option maxHeartbeats 1000000 in
theorem sub_any (a0 a1 a2 b0 b1 b2 : Int) (w : World) :
    Calls Try.prog 11 #[.agg #[.int .i64 a0, .int .i64 a1, .int .i64 a2], .agg #[.int .i64 b0, .int .i64 b1, .int .i64 b2]] w fun e w' => e = .returned (.agg #[.int .i64 (subZ a0 b0), .int .i64 (subZ a1 b1), .int .i64 (subZ a2 b2)]) ∧ Below w.heap.size w w' := by
  go_enter Try.func11, Try.ntmps11
  go_wp2
  have oA : Own ((w.alloc (.cells #[.int .i64 a0, .int .i64 a1, .int .i64 a2] 23)).alloc (.cells #[.int .i64 b0, .int .i64 b1, .int .i64 b2] 23)) w.heap.size [.int .i64 a0, .int .i64 a1, .int .i64 a2] 23 := (Own.new _ _ _).alloc _
  have oB : Own ((w.alloc (.cells #[.int .i64 a0, .int .i64 a1, .int .i64 a2] 23)).alloc (.cells #[.int .i64 b0, .int .i64 b1, .int .i64 b2] 23)) (w.heap.size + 1) [.int .i64 b0, .int .i64 b1, .int .i64 b2] 23 := by simpa using Own.new (w.alloc (.cells #[.int .i64 a0, .int .i64 a1, .int .i64 a2] 23)) [.int .i64 b0, .int .i64 b1, .int .i64 b2] 23
  have hw0 : Below w.heap.size w ((w.alloc (.cells #[.int .i64 a0, .int .i64 a1, .int .i64 a2] 23)).alloc (.cells #[.int .i64 b0, .int .i64 b1, .int .i64 b2] 23)) := ((Below.refl _ _).alloc (Nat.le_refl _) _).alloc (by simp) _
  have oC : Own (((w.alloc (.cells #[.int .i64 a0, .int .i64 a1, .int .i64 a2] 23)).alloc (.cells #[.int .i64 b0, .int .i64 b1, .int .i64 b2] 23)).alloc (.cells #[.int .i64 0, .int .i64 0, .int .i64 0] 23)) (w.heap.size + 2) [.int .i64 0, .int .i64 0, .int .i64 0] 23 := by simpa using Own.new ((w.alloc (.cells #[.int .i64 a0, .int .i64 a1, .int .i64 a2] 23)).alloc (.cells #[.int .i64 b0, .int .i64 b1, .int .i64 b2] 23)) [.int .i64 0, .int .i64 0, .int .i64 0] 23
  replace oA := oA.alloc (.cells #[.int .i64 0, .int .i64 0, .int .i64 0] 23)
  replace oB := oB.alloc (.cells #[.int .i64 0, .int .i64 0, .int .i64 0] 23)
  replace hw0 := hw0.alloc (by simp; omega) (.cells #[.int .i64 0, .int .i64 0, .int .i64 0] 23)
  generalize ((w.alloc (.cells #[.int .i64 a0, .int .i64 a1, .int .i64 a2] 23)).alloc (.cells #[.int .i64 b0, .int .i64 b1, .int .i64 b2] 23)).alloc (.cells #[.int .i64 0, .int .i64 0, .int .i64 0] 23) = W at *
  obtain ⟨u0, u1, u2⟩ := oA.three
  obtain ⟨v0, v1, v2⟩ := oB.three
  have k0 := cell_regrown u0
  have k1 := cell_regrown u1
  have k2 := cell_regrown u2
  have l0 := cell_regrown v0
  have l1 := cell_regrown v1
  have l2 := cell_regrown v2
  have cR : ∀ (c m d : Int) dd os, Calls Try.prog 19 #[.agg #[.int .i64 c, .int .i64 m, .int .i64 d]] (grow (redrawn W dd) os) fun e w'' => e = .returned (.agg #[.int .i64 (clampZ c), .int .i64 (clampZ m), .int .i64 (clampZ d)]) ∧ ∃ p : Regrown, w'' = grow (redrawn W p.d) p.os := fun _ _ _ dd os => Calls.regrown_of (clamp_any _ _ _ _)
  refine wp_region_tail_below 4 (by kernel_rfl) (by kernel_rfl) ?_
  simp only [List.take_succ_cons, List.take_zero, List.drop_succ_cons, List.drop_zero]
  repeat (first | go_big_quiet_step ((exact cR _ _ _ _ _)) | quiet_step (exact cR _ _ _ _ _))
  refine wpQuiet_nil ?_
  intro _ hw'
  obtain ⟨⟨dq, osq⟩, hw''⟩ := hw'
  subst hw''
  have hw1 := below_all hw0 (below_regrown W dq osq)
  replace oA := oA.all (below_regrown W dq osq)
  replace oB := oB.all (below_regrown W dq osq)
  replace oC := oC.all (below_regrown W dq osq)
  clear u0 u1 u2 v0 v1 v2 k0 k1 k2 l0 l1 l2 cR hw0
  generalize grow (redrawn W dq) osq = V at *
  obtain ⟨u0, u1, u2⟩ := oA.three
  obtain ⟨v0, v1, v2⟩ := oB.three
  have f0 := oA.frozen 0
  have f1 := oA.frozen 1
  have f2 := oA.frozen 2
  have g0 := oB.frozen 0
  have g1 := oB.frozen 1
  have g2 := oB.frozen 2
  have pa0 := clampZ_lo a0
  have pa1 := clampZ_lo a1
  have pa2 := clampZ_lo a2
  have qa0 := clampZ_hi a0
  have qa1 := clampZ_hi a1
  have qa2 := clampZ_hi a2
  have pb0 := clampZ_lo b0
  have pb1 := clampZ_lo b1
  have pb2 := clampZ_lo b2
  have qb0 := clampZ_hi b0
  have qb1 := clampZ_hi b1
  have qb2 := clampZ_hi b2
  go_wp2_with fail
  have hw2 := below_set (b := w.heap.size + 1) (i := 2) (below_set (b := w.heap.size + 1) (i := 1) (below_set (b := w.heap.size + 1) (i := 0) (below_set (b := w.heap.size) (i := 2) (below_set (b := w.heap.size) (i := 1) (below_set (b := w.heap.size) (i := 0) (hw1) (by omega) (.int .i64 (clampZ a0))) (by omega) (.int .i64 (clampZ a1))) (by omega) (.int .i64 (clampZ a2))) (by omega) (.int .i64 (clampZ b0))) (by omega) (.int .i64 (clampZ b1))) (by omega) (.int .i64 (clampZ b2))
  have pC := Own.set_ne (b' := w.heap.size + 1) (Own.set_ne (b' := w.heap.size + 1) (Own.set_ne (b' := w.heap.size + 1) (Own.set_ne (b' := w.heap.size) (Own.set_ne (b' := w.heap.size) (Own.set_ne (b' := w.heap.size) (oC) (by omega) 0 (.int .i64 (clampZ a0))) (by omega) 1 (.int .i64 (clampZ a1))) (by omega) 2 (.int .i64 (clampZ a2))) (by omega) 0 (.int .i64 (clampZ b0))) (by omega) 1 (.int .i64 (clampZ b1))) (by omega) 2 (.int .i64 (clampZ b2))
  clear u0 u1 u2 v0 v1 v2 f0 f1 f2 g0 g1 g2 oA oB oC hw1
  generalize ((((((V).setCell ⟨w.heap.size, 0, none⟩ (.int .i64 (clampZ a0))).setCell ⟨w.heap.size, 1, none⟩ (.int .i64 (clampZ a1))).setCell ⟨w.heap.size, 2, none⟩ (.int .i64 (clampZ a2))).setCell ⟨w.heap.size + 1, 0, none⟩ (.int .i64 (clampZ b0))).setCell ⟨w.heap.size + 1, 1, none⟩ (.int .i64 (clampZ b1))).setCell ⟨w.heap.size + 1, 2, none⟩ (.int .i64 (clampZ b2)) = V1 at *
  refine (clamp_any _ _ _ _).mono ?_
  rintro e V2 ⟨rfl, hb⟩
  replace hw2 := below_all hw2 hb
  have oC := pC.all hb
  clear pC hb
  obtain ⟨c0, c1, c2⟩ := oC.three
  have g0 := oC.frozen 0
  have g1 := oC.frozen 1
  have g2 := oC.frozen 2
  go_wp2
  have hw3 := below_set (b := w.heap.size + 2) (i := 2) (below_set (b := w.heap.size + 2) (i := 1) (below_set (b := w.heap.size + 2) (i := 0) (hw2) (by omega) (.int .i64 (clampZ (clampZ a0 - clampZ b0)))) (by omega) (.int .i64 (clampZ (clampZ a1 - clampZ b1)))) (by omega) (.int .i64 (clampZ (clampZ a2 - clampZ b2)))
  have oR := (((oC).set 0 (.int .i64 (clampZ (clampZ a0 - clampZ b0)))).set 1 (.int .i64 (clampZ (clampZ a1 - clampZ b1)))).set 2 (.int .i64 (clampZ (clampZ a2 - clampZ b2)))
  clear c0 c1 c2 g0 g1 g2
  generalize (((V2).setCell ⟨w.heap.size + 2, 0, none⟩ (.int .i64 (clampZ (clampZ a0 - clampZ b0)))).setCell ⟨w.heap.size + 2, 1, none⟩ (.int .i64 (clampZ (clampZ a1 - clampZ b1)))).setCell ⟨w.heap.size + 2, 2, none⟩ (.int .i64 (clampZ (clampZ a2 - clampZ b2))) = U at *
  obtain ⟨c0, c1, c2⟩ := Own.three oR
  exact bodyPost_ret (v := .agg #[.int .i64 (clampZ (clampZ a0 - clampZ b0)), .int .i64 (clampZ (clampZ a1 - clampZ b1)), .int .i64 (clampZ (clampZ a2 - clampZ b2))]) (by simp [results, Try.results11, go_sem, c0, c1, c2]) rfl ⟨rfl, hw3⟩

set_option maxHeartbeats 1000000 in
theorem radd_any (a0 a1 a2 b0 b1 b2 : Int) (w : World) :
    Calls Try.prog 10 #[.agg #[.int .i64 a0, .int .i64 a1, .int .i64 a2], .agg #[.int .i64 b0, .int .i64 b1, .int .i64 b2]] w fun e w' => e = .returned (.agg #[.int .i64 (addZ a0 b0), .int .i64 (addZ a1 b1), .int .i64 (addZ a2 b2)]) ∧ Below w.heap.size w w' := by
  have pa0 := clampZ_lo a0
  have pa1 := clampZ_lo a1
  have pa2 := clampZ_lo a2
  have qa0 := clampZ_hi a0
  have qa1 := clampZ_hi a1
  have qa2 := clampZ_hi a2
  have pb0 := clampZ_lo b0
  have pb1 := clampZ_lo b1
  have pb2 := clampZ_lo b2
  have qb0 := clampZ_hi b0
  have qb1 := clampZ_hi b1
  have qb2 := clampZ_hi b2
  go_enter Try.func10, Try.ntmps10
  go_wp2
  have oA : Own ((w.alloc (.cells #[.int .i64 a0, .int .i64 a1, .int .i64 a2] 23)).alloc (.cells #[.int .i64 b0, .int .i64 b1, .int .i64 b2] 23)) w.heap.size [.int .i64 a0, .int .i64 a1, .int .i64 a2] 23 := (Own.new _ _ _).alloc _
  have oB : Own ((w.alloc (.cells #[.int .i64 a0, .int .i64 a1, .int .i64 a2] 23)).alloc (.cells #[.int .i64 b0, .int .i64 b1, .int .i64 b2] 23)) (w.heap.size + 1) [.int .i64 b0, .int .i64 b1, .int .i64 b2] 23 := by simpa using Own.new (w.alloc (.cells #[.int .i64 a0, .int .i64 a1, .int .i64 a2] 23)) [.int .i64 b0, .int .i64 b1, .int .i64 b2] 23
  have hw0 : Below w.heap.size w ((w.alloc (.cells #[.int .i64 a0, .int .i64 a1, .int .i64 a2] 23)).alloc (.cells #[.int .i64 b0, .int .i64 b1, .int .i64 b2] 23)) := ((Below.refl _ _).alloc (Nat.le_refl _) _).alloc (by simp) _
  have oC : Own (((w.alloc (.cells #[.int .i64 a0, .int .i64 a1, .int .i64 a2] 23)).alloc (.cells #[.int .i64 b0, .int .i64 b1, .int .i64 b2] 23)).alloc (.cells #[.int .i64 0, .int .i64 0, .int .i64 0] 23)) (w.heap.size + 2) [.int .i64 0, .int .i64 0, .int .i64 0] 23 := by simpa using Own.new ((w.alloc (.cells #[.int .i64 a0, .int .i64 a1, .int .i64 a2] 23)).alloc (.cells #[.int .i64 b0, .int .i64 b1, .int .i64 b2] 23)) [.int .i64 0, .int .i64 0, .int .i64 0] 23
  replace oA := oA.alloc (.cells #[.int .i64 0, .int .i64 0, .int .i64 0] 23)
  replace oB := oB.alloc (.cells #[.int .i64 0, .int .i64 0, .int .i64 0] 23)
  replace hw0 := hw0.alloc (by simp; omega) (.cells #[.int .i64 0, .int .i64 0, .int .i64 0] 23)
  generalize ((w.alloc (.cells #[.int .i64 a0, .int .i64 a1, .int .i64 a2] 23)).alloc (.cells #[.int .i64 b0, .int .i64 b1, .int .i64 b2] 23)).alloc (.cells #[.int .i64 0, .int .i64 0, .int .i64 0] 23) = W at *
  obtain ⟨u0, u1, u2⟩ := oA.three
  obtain ⟨v0, v1, v2⟩ := oB.three
  have k0 := cell_regrown u0
  have k1 := cell_regrown u1
  have k2 := cell_regrown u2
  have l0 := cell_regrown v0
  have l1 := cell_regrown v1
  have l2 := cell_regrown v2
  have cR : ∀ (n : Int) dd os, Calls Try.prog 20 #[.int .i64 n] (grow (redrawn W dd) os) fun e w'' => e = .returned (.int .i64 (clampZ n)) ∧ ∃ p : Regrown, w'' = grow (redrawn W p.d) p.os := fun n dd os => (rclamp_any n _).mono fun _ _ ⟨he, hw⟩ => ⟨he, ⟨⟨dd, os⟩, hw.symm⟩⟩
  refine wp_region_tail_below 25 (by kernel_rfl) (by kernel_rfl) ?_
  simp only [List.take_succ_cons, List.take_zero, List.drop_succ_cons, List.drop_zero]
  repeat (first | go_big_quiet_step ((exact cR _ _ _)) | quiet_step (exact cR _ _ _))
  refine wpQuiet_nil ?_
  intro _ hw'
  obtain ⟨⟨dq, osq⟩, hw''⟩ := hw'
  subst hw''
  have hw1 := below_all hw0 (below_regrown W dq osq)
  replace oA := oA.all (below_regrown W dq osq)
  replace oB := oB.all (below_regrown W dq osq)
  replace oC := oC.all (below_regrown W dq osq)
  clear u0 u1 u2 v0 v1 v2 k0 k1 k2 l0 l1 l2 cR hw0
  generalize grow (redrawn W dq) osq = V at *
  have hw2 := hw1
  obtain ⟨c0, c1, c2⟩ := oC.three
  have g0 := oC.frozen 0
  have g1 := oC.frozen 1
  have g2 := oC.frozen 2
  go_wp2
  have hw3 := below_set (b := w.heap.size + 2) (i := 2) (below_set (b := w.heap.size + 2) (i := 1) (below_set (b := w.heap.size + 2) (i := 0) (hw2) (by omega) (.int .i64 (clampZ (clampZ a0 + clampZ b0)))) (by omega) (.int .i64 (clampZ (clampZ a1 + clampZ b1)))) (by omega) (.int .i64 (clampZ (clampZ a2 + clampZ b2)))
  have oR := (((oC).set 0 (.int .i64 (clampZ (clampZ a0 + clampZ b0)))).set 1 (.int .i64 (clampZ (clampZ a1 + clampZ b1)))).set 2 (.int .i64 (clampZ (clampZ a2 + clampZ b2)))
  clear c0 c1 c2 g0 g1 g2
  generalize (((V).setCell ⟨w.heap.size + 2, 0, none⟩ (.int .i64 (clampZ (clampZ a0 + clampZ b0)))).setCell ⟨w.heap.size + 2, 1, none⟩ (.int .i64 (clampZ (clampZ a1 + clampZ b1)))).setCell ⟨w.heap.size + 2, 2, none⟩ (.int .i64 (clampZ (clampZ a2 + clampZ b2))) = U at *
  obtain ⟨c0, c1, c2⟩ := Own.three oR
  exact bodyPost_ret (v := .agg #[.int .i64 (clampZ (clampZ a0 + clampZ b0)), .int .i64 (clampZ (clampZ a1 + clampZ b1)), .int .i64 (clampZ (clampZ a2 + clampZ b2))]) (by simp [results, Try.results10, go_sem, c0, c1, c2]) rfl ⟨rfl, hw3⟩

set_option maxHeartbeats 1000000 in
theorem rsub_any (a0 a1 a2 b0 b1 b2 : Int) (w : World) :
    Calls Try.prog 12 #[.agg #[.int .i64 a0, .int .i64 a1, .int .i64 a2], .agg #[.int .i64 b0, .int .i64 b1, .int .i64 b2]] w fun e w' => e = .returned (.agg #[.int .i64 (subZ a0 b0), .int .i64 (subZ a1 b1), .int .i64 (subZ a2 b2)]) ∧ Below w.heap.size w w' := by
  have pa0 := clampZ_lo a0
  have pa1 := clampZ_lo a1
  have pa2 := clampZ_lo a2
  have qa0 := clampZ_hi a0
  have qa1 := clampZ_hi a1
  have qa2 := clampZ_hi a2
  have pb0 := clampZ_lo b0
  have pb1 := clampZ_lo b1
  have pb2 := clampZ_lo b2
  have qb0 := clampZ_hi b0
  have qb1 := clampZ_hi b1
  have qb2 := clampZ_hi b2
  go_enter Try.func12, Try.ntmps12
  go_wp2
  have oA : Own ((w.alloc (.cells #[.int .i64 a0, .int .i64 a1, .int .i64 a2] 23)).alloc (.cells #[.int .i64 b0, .int .i64 b1, .int .i64 b2] 23)) w.heap.size [.int .i64 a0, .int .i64 a1, .int .i64 a2] 23 := (Own.new _ _ _).alloc _
  have oB : Own ((w.alloc (.cells #[.int .i64 a0, .int .i64 a1, .int .i64 a2] 23)).alloc (.cells #[.int .i64 b0, .int .i64 b1, .int .i64 b2] 23)) (w.heap.size + 1) [.int .i64 b0, .int .i64 b1, .int .i64 b2] 23 := by simpa using Own.new (w.alloc (.cells #[.int .i64 a0, .int .i64 a1, .int .i64 a2] 23)) [.int .i64 b0, .int .i64 b1, .int .i64 b2] 23
  have hw0 : Below w.heap.size w ((w.alloc (.cells #[.int .i64 a0, .int .i64 a1, .int .i64 a2] 23)).alloc (.cells #[.int .i64 b0, .int .i64 b1, .int .i64 b2] 23)) := ((Below.refl _ _).alloc (Nat.le_refl _) _).alloc (by simp) _
  have oC : Own (((w.alloc (.cells #[.int .i64 a0, .int .i64 a1, .int .i64 a2] 23)).alloc (.cells #[.int .i64 b0, .int .i64 b1, .int .i64 b2] 23)).alloc (.cells #[.int .i64 0, .int .i64 0, .int .i64 0] 23)) (w.heap.size + 2) [.int .i64 0, .int .i64 0, .int .i64 0] 23 := by simpa using Own.new ((w.alloc (.cells #[.int .i64 a0, .int .i64 a1, .int .i64 a2] 23)).alloc (.cells #[.int .i64 b0, .int .i64 b1, .int .i64 b2] 23)) [.int .i64 0, .int .i64 0, .int .i64 0] 23
  replace oA := oA.alloc (.cells #[.int .i64 0, .int .i64 0, .int .i64 0] 23)
  replace oB := oB.alloc (.cells #[.int .i64 0, .int .i64 0, .int .i64 0] 23)
  replace hw0 := hw0.alloc (by simp; omega) (.cells #[.int .i64 0, .int .i64 0, .int .i64 0] 23)
  generalize ((w.alloc (.cells #[.int .i64 a0, .int .i64 a1, .int .i64 a2] 23)).alloc (.cells #[.int .i64 b0, .int .i64 b1, .int .i64 b2] 23)).alloc (.cells #[.int .i64 0, .int .i64 0, .int .i64 0] 23) = W at *
  obtain ⟨u0, u1, u2⟩ := oA.three
  obtain ⟨v0, v1, v2⟩ := oB.three
  have k0 := cell_regrown u0
  have k1 := cell_regrown u1
  have k2 := cell_regrown u2
  have l0 := cell_regrown v0
  have l1 := cell_regrown v1
  have l2 := cell_regrown v2
  have cR : ∀ (n : Int) dd os, Calls Try.prog 20 #[.int .i64 n] (grow (redrawn W dd) os) fun e w'' => e = .returned (.int .i64 (clampZ n)) ∧ ∃ p : Regrown, w'' = grow (redrawn W p.d) p.os := fun n dd os => (rclamp_any n _).mono fun _ _ ⟨he, hw⟩ => ⟨he, ⟨⟨dd, os⟩, hw.symm⟩⟩
  refine wp_region_tail_below 25 (by kernel_rfl) (by kernel_rfl) ?_
  simp only [List.take_succ_cons, List.take_zero, List.drop_succ_cons, List.drop_zero]
  repeat (first | go_big_quiet_step ((exact cR _ _ _)) | quiet_step (exact cR _ _ _))
  refine wpQuiet_nil ?_
  intro _ hw'
  obtain ⟨⟨dq, osq⟩, hw''⟩ := hw'
  subst hw''
  have hw1 := below_all hw0 (below_regrown W dq osq)
  replace oA := oA.all (below_regrown W dq osq)
  replace oB := oB.all (below_regrown W dq osq)
  replace oC := oC.all (below_regrown W dq osq)
  clear u0 u1 u2 v0 v1 v2 k0 k1 k2 l0 l1 l2 cR hw0
  generalize grow (redrawn W dq) osq = V at *
  have hw2 := hw1
  obtain ⟨c0, c1, c2⟩ := oC.three
  have g0 := oC.frozen 0
  have g1 := oC.frozen 1
  have g2 := oC.frozen 2
  go_wp2
  have hw3 := below_set (b := w.heap.size + 2) (i := 2) (below_set (b := w.heap.size + 2) (i := 1) (below_set (b := w.heap.size + 2) (i := 0) (hw2) (by omega) (.int .i64 (clampZ (clampZ a0 - clampZ b0)))) (by omega) (.int .i64 (clampZ (clampZ a1 - clampZ b1)))) (by omega) (.int .i64 (clampZ (clampZ a2 - clampZ b2)))
  have oR := (((oC).set 0 (.int .i64 (clampZ (clampZ a0 - clampZ b0)))).set 1 (.int .i64 (clampZ (clampZ a1 - clampZ b1)))).set 2 (.int .i64 (clampZ (clampZ a2 - clampZ b2)))
  clear c0 c1 c2 g0 g1 g2
  generalize (((V).setCell ⟨w.heap.size + 2, 0, none⟩ (.int .i64 (clampZ (clampZ a0 - clampZ b0)))).setCell ⟨w.heap.size + 2, 1, none⟩ (.int .i64 (clampZ (clampZ a1 - clampZ b1)))).setCell ⟨w.heap.size + 2, 2, none⟩ (.int .i64 (clampZ (clampZ a2 - clampZ b2))) = U at *
  obtain ⟨c0, c1, c2⟩ := Own.three oR
  exact bodyPost_ret (v := .agg #[.int .i64 (clampZ (clampZ a0 - clampZ b0)), .int .i64 (clampZ (clampZ a1 - clampZ b1)), .int .i64 (clampZ (clampZ a2 - clampZ b2))]) (by simp [results, Try.results12, go_sem, c0, c1, c2]) rfl ⟨rfl, hw3⟩
end Go.Proofs.Ytjjkihohmgpgdaa
