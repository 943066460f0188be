/- The walk of ValueOrder. -/
import Derived.Test.YtmmembmohkideaaWu
namespace Go.Proofs.Ytmmembmohkideaa
open Go.RowKit Go.Sort Go.Proofs.LawFrame

theorem cmp_facts (ta tb tc : T) : (cmpT ta tb = 0 → cmpT tb tc = cmpT ta tc) ∧ (cmpT ta tb ≤ 0 → cmpT tb tc ≤ 0 → cmpT ta tc ≤ 0) ∧ (0 ≤ cmpT ta tb → 0 ≤ cmpT tb tc → 0 ≤ cmpT ta tc) := by
  have h1 := cmpT_tri ta tb
  have h2 := cmpT_tri tb tc
  have h3 := cmpT_tri ta tc
  refine ⟨fun h => by rw [cmpT_eq h], fun hx hy => ?_, fun hx hy => ?_⟩
  · rcases h1 with h1 | h1 | h1
    · rcases h2 with h2 | h2 | h2
      · rw [cmpT_trans h1 h2]; omega
      · rw [← cmpT_eq h2]; omega
      · omega
    · rw [cmpT_eq h1]; omega
    · omega
  · rcases h1 with h1 | h1 | h1
    · omega
    · rw [cmpT_eq h1]; omega
    · rcases h2 with h2 | h2 | h2
      · omega
      · rw [← cmpT_eq h2]; omega
      · have e1 : cmpT tb ta = -1 := by rw [cmpT_anti ta tb]; omega
        have e2 : cmpT tc tb = -1 := by rw [cmpT_anti tb tc]; omega
        have e3 := cmpT_trans e2 e1
        rw [cmpT_anti ta tc] at e3; omega
theorem compare_at {t t' : T} {x : Int} (hx : cmpT t t' = x) {c d : VC} {w : World} (hI : Is w c t) (hJ : Is w d t') : Calls Try.prog 17 #[c.val, d.val] w fun e w' => e = .returned (.int .i64 x) ∧ Below w.heap.size w w' := by
  have := compare_any _ t (Nat.le_refl _) t' c d w hI hJ
  rw [hx] at this; exact this
theorem equal_at {t t' : T} {x : Int} (hx : cmpT t t' = x) {c d : VC} {w : World} (hI : Is w c t) (hJ : Is w d t') : Calls Try.prog 19 #[c.val, d.val] w fun e w' => e = .returned (.bool (x == 0)) ∧ Below w.heap.size w w' := by
  have := equal_any t t' c d w hI hJ
  rw [hx] at this; exact this

set_option maxHeartbeats 4000000 in
set_option maxRecDepth 4000 in
theorem order_walk (a b c : VC) (ta tb tc : T) (w : World) (hA : Is w a ta) (hB : Is w b tb) (hC : Is w c tc) :
    Calls Try.prog 5 #[.agg #[.int .i64 a.k, .int .i64 a.n, sV a.s, .slice a.la a.ln a.lc, .slice a.fa a.fn a.fc], .agg #[.int .i64 b.k, .int .i64 b.n, sV b.s, .slice b.la b.ln b.lc, .slice b.fa b.fn b.fc], .agg #[.int .i64 c.k, .int .i64 c.n, sV c.s, .slice c.la c.ln c.lc, .slice c.fa c.fn c.fc]] w fun e w' => e = .returned (.bool true) ∧ Below w.heap.size w w' := by
  have hw0 : Below w.heap.size w (((w.alloc (.cells #[.int .i64 a.k, .int .i64 a.n, sV a.s, .slice a.la a.ln a.lc, .slice a.fa a.fn a.fc] 25)).alloc (.cells #[.int .i64 b.k, .int .i64 b.n, sV b.s, .slice b.la b.ln b.lc, .slice b.fa b.fn b.fc] 25)).alloc (.cells #[.int .i64 c.k, .int .i64 c.n, sV c.s, .slice c.la c.ln c.lc, .slice c.fa c.fn c.fc] 25)) := (((Below.refl _ _).alloc (Nat.le_refl _) _).alloc (by simp) _).alloc (by simp; omega) _
  have oA0 : Own (((w.alloc (.cells #[.int .i64 a.k, .int .i64 a.n, sV a.s, .slice a.la a.ln a.lc, .slice a.fa a.fn a.fc] 25)).alloc (.cells #[.int .i64 b.k, .int .i64 b.n, sV b.s, .slice b.la b.ln b.lc, .slice b.fa b.fn b.fc] 25)).alloc (.cells #[.int .i64 c.k, .int .i64 c.n, sV c.s, .slice c.la c.ln c.lc, .slice c.fa c.fn c.fc] 25)) w.heap.size [.int .i64 a.k, .int .i64 a.n, sV a.s, .slice a.la a.ln a.lc, .slice a.fa a.fn a.fc] 25 := ((Own.new _ _ _).alloc _).alloc _
  have oB0 : Own (((w.alloc (.cells #[.int .i64 a.k, .int .i64 a.n, sV a.s, .slice a.la a.ln a.lc, .slice a.fa a.fn a.fc] 25)).alloc (.cells #[.int .i64 b.k, .int .i64 b.n, sV b.s, .slice b.la b.ln b.lc, .slice b.fa b.fn b.fc] 25)).alloc (.cells #[.int .i64 c.k, .int .i64 c.n, sV c.s, .slice c.la c.ln c.lc, .slice c.fa c.fn c.fc] 25)) (w.heap.size + 1) [.int .i64 b.k, .int .i64 b.n, sV b.s, .slice b.la b.ln b.lc, .slice b.fa b.fn b.fc] 25 := (Own.new_at (by rw [size_alloc]) _ _).alloc _
  have oC0 : Own (((w.alloc (.cells #[.int .i64 a.k, .int .i64 a.n, sV a.s, .slice a.la a.ln a.lc, .slice a.fa a.fn a.fc] 25)).alloc (.cells #[.int .i64 b.k, .int .i64 b.n, sV b.s, .slice b.la b.ln b.lc, .slice b.fa b.fn b.fc] 25)).alloc (.cells #[.int .i64 c.k, .int .i64 c.n, sV c.s, .slice c.la c.ln c.lc, .slice c.fa c.fn c.fc] 25)) (w.heap.size + 1 + 1) [.int .i64 c.k, .int .i64 c.n, sV c.s, .slice c.la c.ln c.lc, .slice c.fa c.fn c.fc] 25 := Own.new_at (by rw [size_alloc, size_alloc]) _ _
  have HI := Lib.hid (And.intro hA (And.intro hB hC))
  clear hA hB hC
  go_enter Try.func5, Try.ntmps5
  go_wp2_with fail
  generalize (((w.alloc (.cells #[.int .i64 a.k, .int .i64 a.n, sV a.s, .slice a.la a.ln a.lc, .slice a.fa a.fn a.fc] 25)).alloc (.cells #[.int .i64 b.k, .int .i64 b.n, sV b.s, .slice b.la b.ln b.lc, .slice b.fa b.fn b.fc] 25)).alloc (.cells #[.int .i64 c.k, .int .i64 c.n, sV c.s, .slice c.la c.ln c.lc, .slice c.fa c.fn c.fc] 25)) = V0 at *
  have S1 := Lib.hid (small_any ta a V0 (HI.out.1.all hw0))
  refine S1.out.mono ?_
  rintro e w1 ⟨r1, rfl, hb1, -⟩
  clear S1
  have hbw1 := below_all hw0 hb1
  have oA1 := oA0.all hb1
  have oB1 := oB0.all hb1
  have oC1 := oC0.all hb1
  clear hw0 oA0 oB0 oC0 hb1
  cases r1 with
  | false =>
    clear oA1 oB1 oC1
    go_wp2_with fail
    refine (awake_any _).mono ?_
    rintro e w2 ⟨rfl, hb2⟩
    go_wp2
    go_ret
    exact ⟨rfl, below_all hbw1 hb2⟩
  | true =>
  have a0 := oA1.cell (i := 0) rfl
  have a1 := oA1.cell (i := 1) rfl
  have a2 := oA1.cell (i := 2) rfl
  have a3 := oA1.cell (i := 3) rfl
  have a4 := oA1.cell (i := 4) rfl
  have b0 := oB1.cell (i := 0) rfl
  have b1 := oB1.cell (i := 1) rfl
  have b2 := oB1.cell (i := 2) rfl
  have b3 := oB1.cell (i := 3) rfl
  have b4 := oB1.cell (i := 4) rfl
  have c0 := oC1.cell (i := 0) rfl
  have c1 := oC1.cell (i := 1) rfl
  have c2 := oC1.cell (i := 2) rfl
  have c3 := oC1.cell (i := 3) rfl
  have c4 := oC1.cell (i := 4) rfl
  have S2 := Lib.hid (small_any tb b w1 (HI.out.2.1.all hbw1))
  go_wp2_with fail
  clear a0 a1 a2 a3 a4 b0 b1 b2 b3 b4 c0 c1 c2 c3 c4
  refine S2.out.mono ?_
  rintro e w2 ⟨r2, rfl, hb2, -⟩
  clear S2
  have hbw2 := below_all hbw1 hb2
  have oA2 := oA1.all hb2
  have oB2 := oB1.all hb2
  have oC2 := oC1.all hb2
  clear hbw1 oA1 oB1 oC1 hb2
  cases r2 with
  | false =>
    clear oA2 oB2 oC2
    go_wp2_with fail
    refine (awake_any _).mono ?_
    rintro e w3 ⟨rfl, hb3⟩
    go_wp2
    go_ret
    exact ⟨rfl, below_all hbw2 hb3⟩
  | true =>
  have a0 := oA2.cell (i := 0) rfl
  have a1 := oA2.cell (i := 1) rfl
  have a2 := oA2.cell (i := 2) rfl
  have a3 := oA2.cell (i := 3) rfl
  have a4 := oA2.cell (i := 4) rfl
  have b0 := oB2.cell (i := 0) rfl
  have b1 := oB2.cell (i := 1) rfl
  have b2 := oB2.cell (i := 2) rfl
  have b3 := oB2.cell (i := 3) rfl
  have b4 := oB2.cell (i := 4) rfl
  have c0 := oC2.cell (i := 0) rfl
  have c1 := oC2.cell (i := 1) rfl
  have c2 := oC2.cell (i := 2) rfl
  have c3 := oC2.cell (i := 3) rfl
  have c4 := oC2.cell (i := 4) rfl
  have S3 := Lib.hid (small_any tc c w2 (HI.out.2.2.all hbw2))
  go_wp2_with fail
  clear a0 a1 a2 a3 a4 b0 b1 b2 b3 b4 c0 c1 c2 c3 c4
  refine S3.out.mono ?_
  rintro e w3 ⟨r3, rfl, hb3, -⟩
  clear S3
  have hbw3 := below_all hbw2 hb3
  have oA3 := oA2.all hb3
  have oB3 := oB2.all hb3
  have oC3 := oC2.all hb3
  clear hbw2 oA2 oB2 oC2 hb3
  cases r3 with
  | false =>
    clear oA3 oB3 oC3
    go_wp2_with fail
    refine (awake_any _).mono ?_
    rintro e w4 ⟨rfl, hb4⟩
    go_wp2
    go_ret
    exact ⟨rfl, below_all hbw3 hb4⟩
  | true =>
  obtain ⟨F1, F2, F3'⟩ := cmp_facts ta tb tc
  have h1 := cmpT_tri ta tb
  have h2 := cmpT_tri tb tc
  have h3 := cmpT_tri ta tc
  have h4 := cmpT_anti ta tb
  have h5 := cmpT_refl ta
  generalize hx : cmpT ta tb = x at *
  generalize hy : cmpT tb tc = y at *
  generalize hz : cmpT ta tc = z at *
  have HF := Lib.hid (And.intro F1 (And.intro F2 (And.intro F3' (And.intro h1 (And.intro h2 h3)))))
  have hx1 : -1 ≤ x := by omega
  have hx2 : x ≤ 1 := by omega
  clear F1 F2 F3' h1 h2 h3
  have cX : ∀ dd os, Calls Try.prog 17 #[.agg #[.int .i64 a.k, .int .i64 a.n, sV a.s, .slice a.la a.ln a.lc, .slice a.fa a.fn a.fc], .agg #[.int .i64 b.k, .int .i64 b.n, sV b.s, .slice b.la b.ln b.lc, .slice b.fa b.fn b.fc]] (grow (redrawn w3 dd) os) fun e w'' => e = .returned (.int .i64 x) ∧ ∃ p : Regrown, w'' = grow (redrawn w3 p.d) p.os := fun dd os => Calls.regrown_of (compare_at hx ((HI.out.1.all hbw3).all (below_regrown w3 dd os)) ((HI.out.2.1.all hbw3).all (below_regrown w3 dd os)))
  have cY : ∀ dd os, Calls Try.prog 17 #[.agg #[.int .i64 b.k, .int .i64 b.n, sV b.s, .slice b.la b.ln b.lc, .slice b.fa b.fn b.fc], .agg #[.int .i64 c.k, .int .i64 c.n, sV c.s, .slice c.la c.ln c.lc, .slice c.fa c.fn c.fc]] (grow (redrawn w3 dd) os) fun e w'' => e = .returned (.int .i64 y) ∧ ∃ p : Regrown, w'' = grow (redrawn w3 p.d) p.os := fun dd os => Calls.regrown_of (compare_at hy ((HI.out.2.1.all hbw3).all (below_regrown w3 dd os)) ((HI.out.2.2.all hbw3).all (below_regrown w3 dd os)))
  have cZ : ∀ dd os, Calls Try.prog 17 #[.agg #[.int .i64 a.k, .int .i64 a.n, sV a.s, .slice a.la a.ln a.lc, .slice a.fa a.fn a.fc], .agg #[.int .i64 c.k, .int .i64 c.n, sV c.s, .slice c.la c.ln c.lc, .slice c.fa c.fn c.fc]] (grow (redrawn w3 dd) os) fun e w'' => e = .returned (.int .i64 z) ∧ ∃ p : Regrown, w'' = grow (redrawn w3 p.d) p.os := fun dd os => Calls.regrown_of (compare_at hz ((HI.out.1.all hbw3).all (below_regrown w3 dd os)) ((HI.out.2.2.all hbw3).all (below_regrown w3 dd os)))
  have HX := Lib.hid (And.intro hx (And.intro h4 h5))
  clear hx hy hz h4 h5
  have a0 := cell_regrown (oA3.cell (i := 0) rfl)
  have a1 := cell_regrown (oA3.cell (i := 1) rfl)
  have a2 := cell_regrown (oA3.cell (i := 2) rfl)
  have a3 := cell_regrown (oA3.cell (i := 3) rfl)
  have a4 := cell_regrown (oA3.cell (i := 4) rfl)
  have b0 := cell_regrown (oB3.cell (i := 0) rfl)
  have b1 := cell_regrown (oB3.cell (i := 1) rfl)
  have b2 := cell_regrown (oB3.cell (i := 2) rfl)
  have b3 := cell_regrown (oB3.cell (i := 3) rfl)
  have b4 := cell_regrown (oB3.cell (i := 4) rfl)
  have c0 := cell_regrown (oC3.cell (i := 0) rfl)
  have c1 := cell_regrown (oC3.cell (i := 1) rfl)
  have c2 := cell_regrown (oC3.cell (i := 2) rfl)
  have c3 := cell_regrown (oC3.cell (i := 3) rfl)
  have c4 := cell_regrown (oC3.cell (i := 4) rfl)
  go_wp2
  refine wp_region_quiet_below (by kernel_rfl) (by kernel_rfl) ?_
  repeat (first | go_big_quiet_step ((first | with_reducible exact cX _ _ | with_reducible exact cY _ _ | with_reducible exact cZ _ _)) | quiet_step (first | with_reducible exact cX _ _ | with_reducible exact cY _ _ | with_reducible exact cZ _ _))
  refine wpQuiet_nil ?_
  intro _ hw'
  obtain ⟨⟨dq, osq⟩, hw''⟩ := hw'
  subst hw''
  have hbw4 := below_all hbw3 (below_regrown w3 dq osq)
  have oA4 := oA3.all (below_regrown w3 dq osq)
  have oB4 := oB3.all (below_regrown w3 dq osq)
  have oC4 := oC3.all (below_regrown w3 dq osq)
  clear cX cY cZ hbw3 oA3 oB3 oC3 a0 a1 a2 a3 a4 b0 b1 b2 b3 b4 c0 c1 c2 c3 c4
  generalize grow (redrawn w3 dq) osq = w4 at *
  have a0 := oA4.cell (i := 0) rfl
  have a1 := oA4.cell (i := 1) rfl
  have a2 := oA4.cell (i := 2) rfl
  have a3 := oA4.cell (i := 3) rfl
  have a4 := oA4.cell (i := 4) rfl
  have b0 := oB4.cell (i := 0) rfl
  have b1 := oB4.cell (i := 1) rfl
  have b2 := oB4.cell (i := 2) rfl
  have b3 := oB4.cell (i := 3) rfl
  have b4 := oB4.cell (i := 4) rfl
  have c0 := oC4.cell (i := 0) rfl
  have c1 := oC4.cell (i := 1) rfl
  have c2 := oC4.cell (i := 2) rfl
  have c3 := oC4.cell (i := 3) rfl
  have c4 := oC4.cell (i := 4) rfl
  have K1 := Lib.hid (compare_at HX.out.2.1 (HI.out.2.1.all hbw4) (HI.out.1.all hbw4))
  go_wp2_with fail
  clear a0 a1 a2 a3 a4 b0 b1 b2 b3 b4 c0 c1 c2 c3 c4
  refine K1.out.mono ?_
  rintro e w5 ⟨rfl, hb5⟩
  clear K1
  have hbw5 := below_all hbw4 hb5
  have oA5 := oA4.all hb5
  have oB5 := oB4.all hb5
  have oC5 := oC4.all hb5
  clear hbw4 oA4 oB4 oC4 hb5
  have a0 := oA5.cell (i := 0) rfl
  have a1 := oA5.cell (i := 1) rfl
  have a2 := oA5.cell (i := 2) rfl
  have a3 := oA5.cell (i := 3) rfl
  have a4 := oA5.cell (i := 4) rfl
  have b0 := oB5.cell (i := 0) rfl
  have b1 := oB5.cell (i := 1) rfl
  have b2 := oB5.cell (i := 2) rfl
  have b3 := oB5.cell (i := 3) rfl
  have b4 := oB5.cell (i := 4) rfl
  have c0 := oC5.cell (i := 0) rfl
  have c1 := oC5.cell (i := 1) rfl
  have c2 := oC5.cell (i := 2) rfl
  have c3 := oC5.cell (i := 3) rfl
  have c4 := oC5.cell (i := 4) rfl
  have K2 := Lib.hid (equal_at HX.out.1 (HI.out.1.all hbw5) (HI.out.2.1.all hbw5))
  go_wp2_with fail
  clear a0 a1 a2 a3 a4 b0 b1 b2 b3 b4 c0 c1 c2 c3 c4
  refine K2.out.mono ?_
  rintro e w6 ⟨rfl, hb6⟩
  clear K2
  have hbw6 := below_all hbw5 hb6
  have oA6 := oA5.all hb6
  clear hbw5 oA5 oB5 oC5 hb6
  have a0 := oA6.cell (i := 0) rfl
  have a1 := oA6.cell (i := 1) rfl
  have a2 := oA6.cell (i := 2) rfl
  have a3 := oA6.cell (i := 3) rfl
  have a4 := oA6.cell (i := 4) rfl
  have K3 := Lib.hid (compare_at HX.out.2.2 (HI.out.1.all hbw6) (HI.out.1.all hbw6))
  go_wp2_with fail
  clear a0 a1 a2 a3 a4
  refine K3.out.mono ?_
  rintro e w7 ⟨rfl, hb7⟩
  have hbw7 := below_all hbw6 hb7
  clear K3 hbw6 oA6 hb7 HX hx1 hx2
  obtain ⟨F1, F2, F3', h1, h2, h3⟩ := HF.out
  rcases h1 with h1 | h1 | h1 <;> rcases h2 with h2 | h2 | h2 <;> rcases h3 with h3 | h3 | h3
  all_goals first
    | (exfalso; omega)
    | (subst h1 h2 h3
       clear F1 F2 F3' HF
       go_wp2_with fail
       refine (awake_any _).mono ?_
       rintro e w8 ⟨rfl, hb8⟩
       go_wp2
       go_ret
       exact ⟨rfl, below_all hbw7 hb8⟩)
end Go.Proofs.Ytmmembmohkideaa
