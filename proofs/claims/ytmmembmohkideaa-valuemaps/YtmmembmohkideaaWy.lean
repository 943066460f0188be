/- The walk of ValueCompares. -/
import Derived.Test.YtmmembmohkideaaWw
import Derived.Test.YtmmembmohkideaaWx
namespace Go.Proofs.Ytmmembmohkideaa
open Go.RowKit Go.Sort Go.Proofs.LawFrame

theorem rcompare_at {t t' : T} {x : Int} (hx : cmpT t t' = x) {c d : VC} {w : World} (hI : Is w c t) (hJ : Is w d t') : Calls Try.prog 18 #[c.val, d.val] w fun e w' => e = .returned (.int .i64 x) ∧ Below w.heap.size w w' := by
  have := rcompare_any _ t (Nat.le_refl _) t' c d w hI hJ
  rw [hx] at this; exact this
theorem requal_at {t t' : T} {x : Int} (hx : cmpT t t' = x) {c d : VC} {w : World} (hI : Is w c t) (hJ : Is w d t') : Calls Try.prog 20 #[c.val, d.val] w fun e w' => e = .returned (.bool (x == 0)) ∧ Below w.heap.size w w' := by
  have := requal_any t t' c d w hI hJ
  rw [hx] at this; exact this

set_option maxHeartbeats 4000000 in
set_option maxRecDepth 4000 in
theorem compares_walk (a b : VC) (ta tb : T) (w : World) (hA : Is w a ta) (hB : Is w b tb) :
    Calls Try.prog 4 #[.agg #[.int .i64 a.k, .int .i64 a.n, sV a.s, .slice a.la a.ln a.lc, .slice a.fa a.fn a.fc], .agg #[.int .i64 b.k, .int .i64 b.n, sV b.s, .slice b.la b.ln b.lc, .slice b.fa b.fn b.fc]] w fun e w' => e = .returned (.bool true) ∧ Below w.heap.size w w' := by
  have hw0 : Below w.heap.size w ((w.alloc (.cells #[.int .i64 a.k, .int .i64 a.n, sV a.s, .slice a.la a.ln a.lc, .slice a.fa a.fn a.fc] 25)).alloc (.cells #[.int .i64 b.k, .int .i64 b.n, sV b.s, .slice b.la b.ln b.lc, .slice b.fa b.fn b.fc] 25)) := ((Below.refl _ _).alloc (Nat.le_refl _) _).alloc (by simp) _
  have oA0 : Own ((w.alloc (.cells #[.int .i64 a.k, .int .i64 a.n, sV a.s, .slice a.la a.ln a.lc, .slice a.fa a.fn a.fc] 25)).alloc (.cells #[.int .i64 b.k, .int .i64 b.n, sV b.s, .slice b.la b.ln b.lc, .slice b.fa b.fn b.fc] 25)) w.heap.size [.int .i64 a.k, .int .i64 a.n, sV a.s, .slice a.la a.ln a.lc, .slice a.fa a.fn a.fc] 25 := (Own.new _ _ _).alloc _
  have oB0 : Own ((w.alloc (.cells #[.int .i64 a.k, .int .i64 a.n, sV a.s, .slice a.la a.ln a.lc, .slice a.fa a.fn a.fc] 25)).alloc (.cells #[.int .i64 b.k, .int .i64 b.n, sV b.s, .slice b.la b.ln b.lc, .slice b.fa b.fn b.fc] 25)) (w.heap.size + 1) [.int .i64 b.k, .int .i64 b.n, sV b.s, .slice b.la b.ln b.lc, .slice b.fa b.fn b.fc] 25 := Own.new_at (by rw [size_alloc]) _ _
  have HI := Lib.hid (And.intro hA hB)
  clear hA hB
  go_enter Try.func4, Try.ntmps4
  go_wp2_with fail
  generalize ((w.alloc (.cells #[.int .i64 a.k, .int .i64 a.n, sV a.s, .slice a.la a.ln a.lc, .slice a.fa a.fn a.fc] 25)).alloc (.cells #[.int .i64 b.k, .int .i64 b.n, sV b.s, .slice b.la b.ln b.lc, .slice b.fa b.fn b.fc] 25)) = V0 at *
  have S1 := Lib.hid (small_any ta a V0 (HI.out.1.all hw0))
  refine S1.out.mono ?_
  rintro e w1 ⟨r1, rfl, hb1, -⟩
  clear S1
  have hbw1 := below_all hw0 hb1
  have oA1 := oA0.all hb1
  have oB1 := oB0.all hb1
  clear hw0 oA0 oB0 hb1
  cases r1 with
  | false =>
    clear oA1 oB1
    go_wp2_with fail
    refine (awake_any _).mono ?_
    rintro e w2 ⟨rfl, hb2⟩
    go_wp2
    go_ret
    exact ⟨rfl, below_all hbw1 hb2⟩
  | true =>
  have a0 := oA1.cell (i := 0) rfl
  have a1 := oA1.cell (i := 1) rfl
  have a2 := oA1.cell (i := 2) rfl
  have a3 := oA1.cell (i := 3) rfl
  have a4 := oA1.cell (i := 4) rfl
  have b0 := oB1.cell (i := 0) rfl
  have b1 := oB1.cell (i := 1) rfl
  have b2 := oB1.cell (i := 2) rfl
  have b3 := oB1.cell (i := 3) rfl
  have b4 := oB1.cell (i := 4) rfl
  have S2 := Lib.hid (small_any tb b w1 (HI.out.2.all hbw1))
  go_wp2_with fail
  clear a0 a1 a2 a3 a4 b0 b1 b2 b3 b4
  refine S2.out.mono ?_
  rintro e w2 ⟨r2, rfl, hb2, -⟩
  clear S2
  have hbw2 := below_all hbw1 hb2
  have oA2 := oA1.all hb2
  have oB2 := oB1.all hb2
  clear hbw1 oA1 oB1 hb2
  cases r2 with
  | false =>
    clear oA2 oB2
    go_wp2_with fail
    refine (awake_any _).mono ?_
    rintro e w3 ⟨rfl, hb3⟩
    go_wp2
    go_ret
    exact ⟨rfl, below_all hbw2 hb3⟩
  | true =>
  generalize hx : cmpT ta tb = x at *
  obtain ⟨E, hE⟩ : ∃ E : Bool, (x == 0) = E := ⟨_, rfl⟩
  have cX : ∀ dd os, Calls Try.prog 17 #[.agg #[.int .i64 a.k, .int .i64 a.n, sV a.s, .slice a.la a.ln a.lc, .slice a.fa a.fn a.fc], .agg #[.int .i64 b.k, .int .i64 b.n, sV b.s, .slice b.la b.ln b.lc, .slice b.fa b.fn b.fc]] (grow (redrawn w2 dd) os) fun e w'' => e = .returned (.int .i64 x) ∧ ∃ p : Regrown, w'' = grow (redrawn w2 p.d) p.os := fun dd os => Calls.regrown_of (compare_at hx ((HI.out.1.all hbw2).all (below_regrown w2 dd os)) ((HI.out.2.all hbw2).all (below_regrown w2 dd os)))
  have cR : ∀ dd os, Calls Try.prog 18 #[.agg #[.int .i64 a.k, .int .i64 a.n, sV a.s, .slice a.la a.ln a.lc, .slice a.fa a.fn a.fc], .agg #[.int .i64 b.k, .int .i64 b.n, sV b.s, .slice b.la b.ln b.lc, .slice b.fa b.fn b.fc]] (grow (redrawn w2 dd) os) fun e w'' => e = .returned (.int .i64 x) ∧ ∃ p : Regrown, w'' = grow (redrawn w2 p.d) p.os := fun dd os => Calls.regrown_of (rcompare_at hx ((HI.out.1.all hbw2).all (below_regrown w2 dd os)) ((HI.out.2.all hbw2).all (below_regrown w2 dd os)))
  have cE : ∀ dd os, Calls Try.prog 19 #[.agg #[.int .i64 a.k, .int .i64 a.n, sV a.s, .slice a.la a.ln a.lc, .slice a.fa a.fn a.fc], .agg #[.int .i64 b.k, .int .i64 b.n, sV b.s, .slice b.la b.ln b.lc, .slice b.fa b.fn b.fc]] (grow (redrawn w2 dd) os) fun e w'' => e = .returned (.bool E) ∧ ∃ p : Regrown, w'' = grow (redrawn w2 p.d) p.os := fun dd os => Calls.regrown_of (by rw [← hE]; exact equal_at hx ((HI.out.1.all hbw2).all (below_regrown w2 dd os)) ((HI.out.2.all hbw2).all (below_regrown w2 dd os)))
  have cF : ∀ dd os, Calls Try.prog 20 #[.agg #[.int .i64 a.k, .int .i64 a.n, sV a.s, .slice a.la a.ln a.lc, .slice a.fa a.fn a.fc], .agg #[.int .i64 b.k, .int .i64 b.n, sV b.s, .slice b.la b.ln b.lc, .slice b.fa b.fn b.fc]] (grow (redrawn w2 dd) os) fun e w'' => e = .returned (.bool E) ∧ ∃ p : Regrown, w'' = grow (redrawn w2 p.d) p.os := fun dd os => Calls.regrown_of (by rw [← hE]; exact requal_at hx ((HI.out.1.all hbw2).all (below_regrown w2 dd os)) ((HI.out.2.all hbw2).all (below_regrown w2 dd os)))
  have cS : ∀ dd os, Calls Try.prog 19 #[.agg #[.int .i64 a.k, .int .i64 a.n, sV a.s, .slice a.la a.ln a.lc, .slice a.fa a.fn a.fc], .agg #[.int .i64 a.k, .int .i64 a.n, sV a.s, .slice a.la a.ln a.lc, .slice a.fa a.fn a.fc]] (grow (redrawn w2 dd) os) fun e w'' => e = .returned (.bool true) ∧ ∃ p : Regrown, w'' = grow (redrawn w2 p.d) p.os := fun dd os => Calls.regrown_of (equal_at (cmpT_refl ta) ((HI.out.1.all hbw2).all (below_regrown w2 dd os)) ((HI.out.1.all hbw2).all (below_regrown w2 dd os)))
  have cA : ∀ dd os, Calls Try.prog 10 #[] (grow (redrawn w2 dd) os) fun e w'' => e = .returned (.bool true) ∧ ∃ p : Regrown, w'' = grow (redrawn w2 p.d) p.os := fun dd os => Calls.regrown_of (awake_any _)
  clear hx hE
  have a0 := cell_regrown (oA2.cell (i := 0) rfl)
  have a1 := cell_regrown (oA2.cell (i := 1) rfl)
  have a2 := cell_regrown (oA2.cell (i := 2) rfl)
  have a3 := cell_regrown (oA2.cell (i := 3) rfl)
  have a4 := cell_regrown (oA2.cell (i := 4) rfl)
  have b0 := cell_regrown (oB2.cell (i := 0) rfl)
  have b1 := cell_regrown (oB2.cell (i := 1) rfl)
  have b2 := cell_regrown (oB2.cell (i := 2) rfl)
  have b3 := cell_regrown (oB2.cell (i := 3) rfl)
  have b4 := cell_regrown (oB2.cell (i := 4) rfl)
  go_wp2
  refine wp_region_quiet_below (by kernel_rfl) (by kernel_rfl) ?_
  repeat (first | go_big_quiet_step ((first | with_reducible exact cX _ _ | with_reducible exact cR _ _ | with_reducible exact cE _ _ | with_reducible exact cF _ _ | with_reducible exact cS _ _ | with_reducible exact cA _ _)) | quiet_step (first | with_reducible exact cX _ _ | with_reducible exact cR _ _ | with_reducible exact cE _ _ | with_reducible exact cF _ _ | with_reducible exact cS _ _ | with_reducible exact cA _ _))
  refine wpQuiet_nil ?_
  intro _ hw'
  obtain ⟨⟨dq, osq⟩, hw''⟩ := hw'
  subst hw''
  go_wp2
  go_ret
  exact ⟨rfl, below_all hbw2 (below_regrown w2 dq osq)⟩
end Go.Proofs.Ytmmembmohkideaa
