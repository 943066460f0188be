/- The walk of ValueValid. -/
import Derived.Test.YtmmembmohkideaaWu
import Derived.Test.YtmmembmohkideaaWi
namespace Go.Proofs.Ytmmembmohkideaa
open Go.RowKit Go.Sort Go.Proofs.LawFrame

theorem rb_fixed {w : World} {P : Prop} {B : Bool} (hB : B = true ↔ P) {e : Ending} {w' : World} (h : RB w P e w') : e = .returned (.bool B) ∧ Below w.heap.size w w' := by
  obtain ⟨r, h1, h2, h3⟩ := h.out
  have : r = B := by rw [Bool.eq_iff_iff, h3, hB]
  rw [this] at h1; exact ⟨h1, h2⟩

set_option maxHeartbeats 2000000 in
set_option maxRecDepth 4000 in
theorem valid_walk (c : VC) (t : T) (w : World) (hI : Is w c t) :
    Calls Try.prog 3 #[.agg #[.int .i64 c.k, .int .i64 c.n, sV c.s, .slice c.la c.ln c.lc, .slice c.fa c.fn c.fc]] w fun e w' => e = .returned (.bool true) ∧ Below w.heap.size w w' := by
  obtain ⟨k, n, s, la, ln, lc, fa, fn, fc⟩ := c
  have hw0 : Below w.heap.size w (w.alloc (.cells #[.int .i64 k, .int .i64 n, sV s, .slice la ln lc, .slice fa fn fc] 25)) := (Below.refl _ _).alloc (Nat.le_refl _) _
  have o0 : Own (w.alloc (.cells #[.int .i64 k, .int .i64 n, sV s, .slice la ln lc, .slice fa fn fc] 25)) w.heap.size [.int .i64 k, .int .i64 n, sV s, .slice la ln lc, .slice fa fn fc] 25 := Own.new _ _ _
  have S := Lib.hid (small_any t ⟨k, n, s, la, ln, lc, fa, fn, fc⟩ _ (hI.all hw0))
  go_enter Try.func3, Try.ntmps3
  go_wp2_with fail
  generalize w.alloc (.cells #[.int .i64 k, .int .i64 n, sV s, .slice la ln lc, .slice fa fn fc] 25) = W0 at *
  refine S.out.mono ?_
  rintro e w1 ⟨r, rfl, hb1, hr⟩
  have hbw := below_all hw0 hb1
  have o1 := o0.all hb1
  clear S hb1 hw0 o0
  cases r with
  | false =>
    go_wp2_with fail
    refine (awake_any _).mono ?_
    rintro e w2 ⟨rfl, hb2⟩
    go_wp2
    go_ret
    exact ⟨rfl, below_all hbw hb2⟩
  | true =>
    obtain ⟨hz, hni⟩ := hr rfl
    clear hr
    have hI1 := hI.all hbw
    obtain ⟨B, hB⟩ : ∃ B : Bool, B = true ↔ (Val 12 t ∧ t.size ≤ 600) := by
      by_cases h : Val 12 t ∧ t.size ≤ 600
      · exact ⟨true, by simp; exact h⟩
      · exact ⟨false, by rw [iff_false_right h]; simp⟩
    have m0 := cell_regrown (o1.cell (i := 0) rfl)
    have m1 := cell_regrown (o1.cell (i := 1) rfl)
    have m2 := cell_regrown (o1.cell (i := 2) rfl)
    have m3 := cell_regrown (o1.cell (i := 3) rfl)
    have m4 := cell_regrown (o1.cell (i := 4) rfl)
    have cV : ∀ dd os, Calls Try.prog 11 #[.agg #[.int .i64 k, .int .i64 n, sV s, .slice la ln lc, .slice fa fn fc]] (grow (redrawn w1 dd) os) fun e w'' => e = .returned (.bool B) ∧ ∃ p : Regrown, w'' = grow (redrawn w1 p.d) p.os := fun dd os => Calls.regrown_of ((valid_any t ⟨k, n, s, la, ln, lc, fa, fn, fc⟩ _ (hI1.all (below_regrown w1 dd os))).mono (fun _ _ h => rb_fixed hB h))
    have cRV : ∀ dd os, Calls Try.prog 12 #[.agg #[.int .i64 k, .int .i64 n, sV s, .slice la ln lc, .slice fa fn fc]] (grow (redrawn w1 dd) os) fun e w'' => e = .returned (.bool B) ∧ ∃ p : Regrown, w'' = grow (redrawn w1 p.d) p.os := fun dd os => Calls.regrown_of ((rvalidtop_any t ⟨k, n, s, la, ln, lc, fa, fn, fc⟩ _ (hI1.all (below_regrown w1 dd os)) hni (by omega)).mono (fun _ _ h => rb_fixed hB h))
    have cS : ∀ dd os, Calls Try.prog 13 #[.agg #[.int .i64 k, .int .i64 n, sV s, .slice la ln lc, .slice fa fn fc]] (grow (redrawn w1 dd) os) fun e w'' => e = .returned (.int .i64 t.size) ∧ ∃ p : Regrown, w'' = grow (redrawn w1 p.d) p.os := fun dd os => Calls.regrown_of (size_any _ t (Nat.le_refl _) ⟨k, n, s, la, ln, lc, fa, fn, fc⟩ _ (hI1.all (below_regrown w1 dd os)) (by omega))
    have cRS : ∀ dd os, Calls Try.prog 14 #[.agg #[.int .i64 k, .int .i64 n, sV s, .slice la ln lc, .slice fa fn fc]] (grow (redrawn w1 dd) os) fun e w'' => e = .returned (.int .i64 t.size) ∧ ∃ p : Regrown, w'' = grow (redrawn w1 p.d) p.os := fun dd os => Calls.regrown_of (rsize_any _ t (Nat.le_refl _) ⟨k, n, s, la, ln, lc, fa, fn, fc⟩ _ (hI1.all (below_regrown w1 dd os)) (by omega))
    have cD : ∀ dd os, Calls Try.prog 15 #[.agg #[.int .i64 k, .int .i64 n, sV s, .slice la ln lc, .slice fa fn fc]] (grow (redrawn w1 dd) os) fun e w'' => e = .returned (.int .i64 t.depth) ∧ ∃ p : Regrown, w'' = grow (redrawn w1 p.d) p.os := fun dd os => Calls.regrown_of (depth_any _ t (Nat.le_refl _) ⟨k, n, s, la, ln, lc, fa, fn, fc⟩ _ (hI1.all (below_regrown w1 dd os)) (by omega))
    have cRD : ∀ dd os, Calls Try.prog 16 #[.agg #[.int .i64 k, .int .i64 n, sV s, .slice la ln lc, .slice fa fn fc]] (grow (redrawn w1 dd) os) fun e w'' => e = .returned (.int .i64 t.depth) ∧ ∃ p : Regrown, w'' = grow (redrawn w1 p.d) p.os := fun dd os => Calls.regrown_of (rdepth_any _ t (Nat.le_refl _) ⟨k, n, s, la, ln, lc, fa, fn, fc⟩ _ (hI1.all (below_regrown w1 dd os)) (by omega))
    have cA : ∀ dd os, Calls Try.prog 10 #[] (grow (redrawn w1 dd) os) fun e w'' => e = .returned (.bool true) ∧ ∃ p : Regrown, w'' = grow (redrawn w1 p.d) p.os := fun dd os => Calls.regrown_of (awake_any _)
    clear hI hI1 hni hB o1
    go_wp2
    refine wp_region_quiet_below (by kernel_rfl) (by kernel_rfl) ?_
    repeat (first | go_big_quiet_step ((first | with_reducible exact cV _ _ | with_reducible exact cRV _ _ | with_reducible exact cS _ _ | with_reducible exact cRS _ _ | with_reducible exact cD _ _ | with_reducible exact cRD _ _ | with_reducible exact cA _ _)) | quiet_step (first | with_reducible exact cV _ _ | with_reducible exact cRV _ _ | with_reducible exact cS _ _ | with_reducible exact cRS _ _ | with_reducible exact cD _ _ | with_reducible exact cRD _ _ | with_reducible exact cA _ _))
    refine wpQuiet_nil ?_
    intro _ hw'
    obtain ⟨⟨dq, osq⟩, hw''⟩ := hw'
    subst hw''
    go_wp2
    go_ret
    exact ⟨rfl, below_all hbw (below_regrown w1 dq osq)⟩
end Go.Proofs.Ytmmembmohkideaa
