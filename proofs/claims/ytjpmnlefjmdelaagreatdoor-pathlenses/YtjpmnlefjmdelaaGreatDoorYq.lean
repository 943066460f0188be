/- The law PathLenses. -/
import Derived.Test.YtjpmnlefjmdelaaGreatDoorYoJ
set_option linter.unusedSimpArgs false
set_option linter.unusedVariables false
namespace Go.Proofs.YtjpmnlefjmdelaaGreatDoor
open Go.RowKit Go.Sort Go.Proofs.LawFrame

theorem resS_zero {p : List S} {t x : T} (h : (resS p t x).2 = 0) : pathOk p = true ∧ OkT t ∧ OkT x ∧ (setP p t x).2 = 0 ∧ OkT (setP p t x).1 ∧ resS p t x = ((setP p t x).1, 0) := by
  by_cases h1 : pathOk p = true ∧ OkT t ∧ OkT x
  · by_cases h2 : (setP p t x).2 = 0
    · by_cases h3 : OkT (setP p t x).1
      · exact ⟨h1.1, h1.2.1, h1.2.2, h2, h3, resS_ok h1 h2 h3⟩
      · rw [resS_long h1 h2 h3] at h; simp at h
    · rw [resS_er h1 h2] at h; exact absurd h h2
  · rw [resS_bad h1] at h; simp at h
theorem hasPre_no {p q : List S} (h : hasPre p q = false) : ¬ q <+: p := by
  intro hp
  unfold hasPre at h
  rw [decide_eq_false_iff_not] at h
  exact h ⟨hp.length_le, (List.prefix_iff_eq_take.1 hp).symm⟩
theorem is_zero (w : World) : Is w ⟨0, 0, [], none, 0, 0, none, 0, 0⟩ T0 := (isA_zero w (fun _ => True)).is
theorem val_niceL : ∀ (d : Nat) (t : T), Val d t → t.nice
  | 0, t, h => by cases t; exact absurd h (by simp [Val])
  | d + 1, .mk k n s l f, h => by
    rw [Val] at h
    obtain ⟨a1, a2, a3, a4, a5, a6, a7, a8⟩ := h
    have hs : s.length ≤ 4000 := by
      rcases a1 with ⟨-, -, e⟩ | ⟨-, -, -, e⟩ | ⟨-, -, e⟩ | ⟨-, -, e⟩
      · rw [e]; simp
      · rw [e]; simp
      · unfold strOk at e; simp only [Bool.and_eq_true, decide_eq_true_eq] at e; omega
      · rw [e]; simp
    have hl : ∀ r : List T, (∀ t ∈ r, t ∈ l) → niceL r := by
      intro r
      induction r with
      | nil => intro _; trivial
      | cons t r ih => intro h; exact ⟨val_niceL d t (a7 t (h t (by simp))), ih (fun u hu => h u (by simp [hu]))⟩
    have hf : ∀ r : List (Str × T), (∀ t ∈ r, t ∈ f) → niceF r := by
      intro r
      induction r with
      | nil => intro _; trivial
      | cons p r ih =>
        intro h
        obtain ⟨x, t⟩ := p
        have hm := h (x, t) (by simp)
        have hx := nm_names a6 (x, t) hm
        refine ⟨?_, val_niceL d t (a8 (x, t) hm), ih (fun u hu => h u (by simp [hu]))⟩
        unfold nameOk at hx; simp only [Bool.and_eq_true, decide_eq_true_eq] at hx; omega
    exact ⟨hs, hl l (fun t h => h), hf f (fun t h => h)⟩
set_option maxHeartbeats 16000000 in
set_option maxRecDepth 4000 in
theorem pathLenses_walk (c cg ch : VC) (t x y : T) (v1 v2 : Value) (p q : List S) (w : World) (hI : Is w c t) (hX : Is w cg x) (hY : Is w ch y) (ht : t.strB 140737488355328) (hx : x.strB 140737488355328) (hy : y.strB 140737488355328) (hp : Stps w v1 p) (hq : Stps w v2 q) :
    Calls Tryz.prog 12 #[.agg #[.int .i64 c.k, .int .i64 c.n, sV c.s, .slice c.la c.ln c.lc, .slice c.fa c.fn c.fc, v1, v2, .int .i64 cg.k, .int .i64 cg.n, sV cg.s, .slice cg.la cg.ln cg.lc, .slice cg.fa cg.fn cg.fc, .int .i64 ch.k, .int .i64 ch.n, sV ch.s, .slice ch.la ch.ln ch.lc, .slice ch.fa ch.fn ch.fc]] w fun e w' => e = .returned (.bool true) ∧ Below w.heap.size w w' := by
  obtain ⟨ck, cn, cs, cla, cln, clc, cfa, cfn, cfc⟩ := c
  obtain ⟨gk, gn, gs, gla, gln, glc, gfa, gfn, gfc⟩ := cg
  obtain ⟨hk, hn, hs, hla, hln, hlc, hfa, hfn, hfc⟩ := ch
  obtain ⟨pao, pcp, hv, -, -⟩ := Stps.form hp
  obtain ⟨pn, hpn⟩ : ∃ n, p.length = n := ⟨_, rfl⟩
  rw [hpn] at hv
  subst hv
  obtain ⟨qao, qcp, hv, -, -⟩ := Stps.form hq
  obtain ⟨qn, hqn⟩ : ∃ n, q.length = n := ⟨_, rfl⟩
  rw [hqn] at hv
  subst hv
  clear hpn hqn
  show Calls Tryz.prog 12 #[.agg #[.int .i64 ck, .int .i64 cn, sV cs, .slice cla cln clc, .slice cfa cfn cfc, .slice pao pn pcp, .slice qao qn qcp, .int .i64 gk, .int .i64 gn, sV gs, .slice gla gln glc, .slice gfa gfn gfc, .int .i64 hk, .int .i64 hn, sV hs, .slice hla hln hlc, .slice hfa hfn hfc]] w _
  have hb0 := below_alloc w (.cells #[.int .i64 ck, .int .i64 cn, sV cs, .slice cla cln clc, .slice cfa cfn cfc, .slice pao pn pcp, .slice qao qn qcp, .int .i64 gk, .int .i64 gn, sV gs, .slice gla gln glc, .slice gfa gfn gfc, .int .i64 hk, .int .i64 hn, sV hs, .slice hla hln hlc, .slice hfa hfn hfc] 49)
  have o0 := Own.new w [.int .i64 ck, .int .i64 cn, sV cs, .slice cla cln clc, .slice cfa cfn cfc, .slice pao pn pcp, .slice qao qn qcp, .int .i64 gk, .int .i64 gn, sV gs, .slice gla gln glc, .slice gfa gfn gfc, .int .i64 hk, .int .i64 hn, sV hs, .slice hla hln hlc, .slice hfa hfn hfc] 49
  have HS0 := Lib.hid (show Below w.heap.size w (w.alloc (.cells #[.int .i64 ck, .int .i64 cn, sV cs, .slice cla cln clc, .slice cfa cfn cfc, .slice pao pn pcp, .slice qao qn qcp, .int .i64 gk, .int .i64 gn, sV gs, .slice gla gln glc, .slice gfa gfn gfc, .int .i64 hk, .int .i64 hn, sV hs, .slice hla hln hlc, .slice hfa hfn hfc] 49)) ∧ Own (w.alloc (.cells #[.int .i64 ck, .int .i64 cn, sV cs, .slice cla cln clc, .slice cfa cfn cfc, .slice pao pn pcp, .slice qao qn qcp, .int .i64 gk, .int .i64 gn, sV gs, .slice gla gln glc, .slice gfa gfn gfc, .int .i64 hk, .int .i64 hn, sV hs, .slice hla hln hlc, .slice hfa hfn hfc] 49)) w.heap.size [.int .i64 ck, .int .i64 cn, sV cs, .slice cla cln clc, .slice cfa cfn cfc, .slice pao pn pcp, .slice qao qn qcp, .int .i64 gk, .int .i64 gn, sV gs, .slice gla gln glc, .slice gfa gfn gfc, .int .i64 hk, .int .i64 hn, sV hs, .slice hla hln hlc, .slice hfa hfn hfc] 49 ∧ Is (w.alloc (.cells #[.int .i64 ck, .int .i64 cn, sV cs, .slice cla cln clc, .slice cfa cfn cfc, .slice pao pn pcp, .slice qao qn qcp, .int .i64 gk, .int .i64 gn, sV gs, .slice gla gln glc, .slice gfa gfn gfc, .int .i64 hk, .int .i64 hn, sV hs, .slice hla hln hlc, .slice hfa hfn hfc] 49)) ⟨ck, cn, cs, cla, cln, clc, cfa, cfn, cfc⟩ t ∧ Is (w.alloc (.cells #[.int .i64 ck, .int .i64 cn, sV cs, .slice cla cln clc, .slice cfa cfn cfc, .slice pao pn pcp, .slice qao qn qcp, .int .i64 gk, .int .i64 gn, sV gs, .slice gla gln glc, .slice gfa gfn gfc, .int .i64 hk, .int .i64 hn, sV hs, .slice hla hln hlc, .slice hfa hfn hfc] 49)) ⟨gk, gn, gs, gla, gln, glc, gfa, gfn, gfc⟩ x ∧ Is (w.alloc (.cells #[.int .i64 ck, .int .i64 cn, sV cs, .slice cla cln clc, .slice cfa cfn cfc, .slice pao pn pcp, .slice qao qn qcp, .int .i64 gk, .int .i64 gn, sV gs, .slice gla gln glc, .slice gfa gfn gfc, .int .i64 hk, .int .i64 hn, sV hs, .slice hla hln hlc, .slice hfa hfn hfc] 49)) ⟨hk, hn, hs, hla, hln, hlc, hfa, hfn, hfc⟩ y ∧ Stps (w.alloc (.cells #[.int .i64 ck, .int .i64 cn, sV cs, .slice cla cln clc, .slice cfa cfn cfc, .slice pao pn pcp, .slice qao qn qcp, .int .i64 gk, .int .i64 gn, sV gs, .slice gla gln glc, .slice gfa gfn gfc, .int .i64 hk, .int .i64 hn, sV hs, .slice hla hln hlc, .slice hfa hfn hfc] 49)) (.slice pao pn pcp) p ∧ Stps (w.alloc (.cells #[.int .i64 ck, .int .i64 cn, sV cs, .slice cla cln clc, .slice cfa cfn cfc, .slice pao pn pcp, .slice qao qn qcp, .int .i64 gk, .int .i64 gn, sV gs, .slice gla gln glc, .slice gfa gfn gfc, .int .i64 hk, .int .i64 hn, sV hs, .slice hla hln hlc, .slice hfa hfn hfc] 49)) (.slice qao qn qcp) q from ⟨hb0, o0, hI.all hb0, hX.all hb0, hY.all hb0, Flat.all hp hb0, Flat.all hq hb0⟩)
  have HT := Lib.hid (And.intro ht (And.intro hx hy))
  clear hb0 o0 hI hX hY ht hx hy hp hq
  go_enter Tryz.func12, Tryz.ntmps12
  go_upto_region 1 with (fail)
  change Code.wp Tryz.prog _ _ _ (w.alloc (.cells #[.int .i64 ck, .int .i64 cn, sV cs, .slice cla cln clc, .slice cfa cfn cfc, .slice pao pn pcp, .slice qao qn qcp, .int .i64 gk, .int .i64 gn, sV gs, .slice gla gln glc, .slice gfa gfn gfc, .int .i64 hk, .int .i64 hn, sV hs, .slice hla hln hlc, .slice hfa hfn hfc] 49))
  generalize w.alloc (.cells #[.int .i64 ck, .int .i64 cn, sV cs, .slice cla cln clc, .slice cfa cfn cfc, .slice pao pn pcp, .slice qao qn qcp, .int .i64 gk, .int .i64 gn, sV gs, .slice gla gln glc, .slice gfa gfn gfc, .int .i64 hk, .int .i64 hn, sV hs, .slice hla hln hlc, .slice hfa hfn hfc] 49) = V at *
  have z0 := HS0.out.2.1.cell (i := 0) rfl
  have z1 := HS0.out.2.1.cell (i := 1) rfl
  have z2 := HS0.out.2.1.cell (i := 2) rfl
  have z3 := HS0.out.2.1.cell (i := 3) rfl
  have z4 := HS0.out.2.1.cell (i := 4) rfl
  have C := Lib.hid (few2000_any t ⟨ck, cn, cs, cla, cln, clc, cfa, cfn, cfc⟩ V HS0.out.2.2.1 HT.out.1)
  obtain ⟨Bv, hB⟩ : ∃ B, decide (0 ≤ leftT t 2000) = B := ⟨_, rfl⟩
  rw [hB] at C
  have HBv := Lib.hid hB
  clear hB
  go_wp2_with fail
  refine C.out.mono ?_
  rintro e w1 ⟨rfl, hb⟩
  have HS2 := Lib.hid (show Below w.heap.size w w1 ∧ Own w1 w.heap.size [.int .i64 ck, .int .i64 cn, sV cs, .slice cla cln clc, .slice cfa cfn cfc, .slice pao pn pcp, .slice qao qn qcp, .int .i64 gk, .int .i64 gn, sV gs, .slice gla gln glc, .slice gfa gfn gfc, .int .i64 hk, .int .i64 hn, sV hs, .slice hla hln hlc, .slice hfa hfn hfc] 49 ∧ Is w1 ⟨ck, cn, cs, cla, cln, clc, cfa, cfn, cfc⟩ t ∧ Is w1 ⟨gk, gn, gs, gla, gln, glc, gfa, gfn, gfc⟩ x ∧ Is w1 ⟨hk, hn, hs, hla, hln, hlc, hfa, hfn, hfc⟩ y ∧ Stps w1 (.slice pao pn pcp) p ∧ Stps w1 (.slice qao qn qcp) q from ⟨below_all HS0.out.1 hb, HS0.out.2.1.all hb, HS0.out.2.2.1.all hb, HS0.out.2.2.2.1.all hb, HS0.out.2.2.2.2.1.all hb, Flat.all HS0.out.2.2.2.2.2.1 hb, Flat.all HS0.out.2.2.2.2.2.2 hb⟩)
  clear HS0
  clear C hb
  clear z0 z1 z2 z3 z4
  cases Bv with
  | false =>
    have CL := Lib.hid (plives_any w1)
    go_wp2_with fail
    refine CL.out.mono ?_
    rintro e wl ⟨rfl, hbl⟩
    have HBl := Lib.hid (below_all HS2.out.1 hbl)
    clear CL hbl
    go_wp2
    go_ret
    exact ⟨rfl, HBl.out⟩
  | true =>
    have z7 := HS2.out.2.1.cell (i := 7) rfl
    have z8 := HS2.out.2.1.cell (i := 8) rfl
    have z9 := HS2.out.2.1.cell (i := 9) rfl
    have z10 := HS2.out.2.1.cell (i := 10) rfl
    have z11 := HS2.out.2.1.cell (i := 11) rfl
    have C := Lib.hid (few2000_any x ⟨gk, gn, gs, gla, gln, glc, gfa, gfn, gfc⟩ w1 HS2.out.2.2.2.1 HT.out.2.1)
    obtain ⟨Bx, hB⟩ : ∃ B, decide (0 ≤ leftT x 2000) = B := ⟨_, rfl⟩
    rw [hB] at C
    have HBx := Lib.hid hB
    clear hB
    go_wp2_with fail
    refine C.out.mono ?_
    rintro e w3 ⟨rfl, hb⟩
    have HS4 := Lib.hid (show Below w.heap.size w w3 ∧ Own w3 w.heap.size [.int .i64 ck, .int .i64 cn, sV cs, .slice cla cln clc, .slice cfa cfn cfc, .slice pao pn pcp, .slice qao qn qcp, .int .i64 gk, .int .i64 gn, sV gs, .slice gla gln glc, .slice gfa gfn gfc, .int .i64 hk, .int .i64 hn, sV hs, .slice hla hln hlc, .slice hfa hfn hfc] 49 ∧ Is w3 ⟨ck, cn, cs, cla, cln, clc, cfa, cfn, cfc⟩ t ∧ Is w3 ⟨gk, gn, gs, gla, gln, glc, gfa, gfn, gfc⟩ x ∧ Is w3 ⟨hk, hn, hs, hla, hln, hlc, hfa, hfn, hfc⟩ y ∧ Stps w3 (.slice pao pn pcp) p ∧ Stps w3 (.slice qao qn qcp) q from ⟨below_all HS2.out.1 hb, HS2.out.2.1.all hb, HS2.out.2.2.1.all hb, HS2.out.2.2.2.1.all hb, HS2.out.2.2.2.2.1.all hb, Flat.all HS2.out.2.2.2.2.2.1 hb, Flat.all HS2.out.2.2.2.2.2.2 hb⟩)
    clear HS2
    clear C hb
    clear z7 z8 z9 z10 z11
    cases Bx with
    | false =>
      have CL := Lib.hid (plives_any w3)
      go_wp2_with fail
      refine CL.out.mono ?_
      rintro e wl ⟨rfl, hbl⟩
      have HBl := Lib.hid (below_all HS4.out.1 hbl)
      clear CL hbl
      go_wp2
      go_ret
      exact ⟨rfl, HBl.out⟩
    | true =>
      have z12 := HS4.out.2.1.cell (i := 12) rfl
      have z13 := HS4.out.2.1.cell (i := 13) rfl
      have z14 := HS4.out.2.1.cell (i := 14) rfl
      have z15 := HS4.out.2.1.cell (i := 15) rfl
      have z16 := HS4.out.2.1.cell (i := 16) rfl
      have C := Lib.hid (few2000_any y ⟨hk, hn, hs, hla, hln, hlc, hfa, hfn, hfc⟩ w3 HS4.out.2.2.2.2.1 HT.out.2.2)
      obtain ⟨By, hB⟩ : ∃ B, decide (0 ≤ leftT y 2000) = B := ⟨_, rfl⟩
      rw [hB] at C
      have HBy := Lib.hid hB
      clear hB
      go_wp2_with fail
      refine C.out.mono ?_
      rintro e w5 ⟨rfl, hb⟩
      have HS6 := Lib.hid (show Below w.heap.size w w5 ∧ Own w5 w.heap.size [.int .i64 ck, .int .i64 cn, sV cs, .slice cla cln clc, .slice cfa cfn cfc, .slice pao pn pcp, .slice qao qn qcp, .int .i64 gk, .int .i64 gn, sV gs, .slice gla gln glc, .slice gfa gfn gfc, .int .i64 hk, .int .i64 hn, sV hs, .slice hla hln hlc, .slice hfa hfn hfc] 49 ∧ Is w5 ⟨ck, cn, cs, cla, cln, clc, cfa, cfn, cfc⟩ t ∧ Is w5 ⟨gk, gn, gs, gla, gln, glc, gfa, gfn, gfc⟩ x ∧ Is w5 ⟨hk, hn, hs, hla, hln, hlc, hfa, hfn, hfc⟩ y ∧ Stps w5 (.slice pao pn pcp) p ∧ Stps w5 (.slice qao qn qcp) q from ⟨below_all HS4.out.1 hb, HS4.out.2.1.all hb, HS4.out.2.2.1.all hb, HS4.out.2.2.2.1.all hb, HS4.out.2.2.2.2.1.all hb, Flat.all HS4.out.2.2.2.2.2.1 hb, Flat.all HS4.out.2.2.2.2.2.2 hb⟩)
      clear HS4
      clear C hb
      clear z12 z13 z14 z15 z16
      cases By with
      | false =>
        have CL := Lib.hid (plives_any w5)
        go_wp2_with fail
        refine CL.out.mono ?_
        rintro e wl ⟨rfl, hbl⟩
        have HBl := Lib.hid (below_all HS6.out.1 hbl)
        clear CL hbl
        go_wp2
        go_ret
        exact ⟨rfl, HBl.out⟩
      | true =>
        have z5 := HS6.out.2.1.cell (i := 5) rfl
        have C := Lib.hid (few_any _ p w5 HS6.out.2.2.2.2.2.1)
        obtain ⟨Bp, hB⟩ : ∃ B, fewOk p = B := ⟨_, rfl⟩
        rw [hB] at C
        have HBp := Lib.hid hB
        clear hB
        go_wp2_with fail
        refine C.out.mono ?_
        rintro e w7 ⟨rfl, hb⟩
        have HS8 := Lib.hid (show Below w.heap.size w w7 ∧ Own w7 w.heap.size [.int .i64 ck, .int .i64 cn, sV cs, .slice cla cln clc, .slice cfa cfn cfc, .slice pao pn pcp, .slice qao qn qcp, .int .i64 gk, .int .i64 gn, sV gs, .slice gla gln glc, .slice gfa gfn gfc, .int .i64 hk, .int .i64 hn, sV hs, .slice hla hln hlc, .slice hfa hfn hfc] 49 ∧ Is w7 ⟨ck, cn, cs, cla, cln, clc, cfa, cfn, cfc⟩ t ∧ Is w7 ⟨gk, gn, gs, gla, gln, glc, gfa, gfn, gfc⟩ x ∧ Is w7 ⟨hk, hn, hs, hla, hln, hlc, hfa, hfn, hfc⟩ y ∧ Stps w7 (.slice pao pn pcp) p ∧ Stps w7 (.slice qao qn qcp) q from ⟨below_all HS6.out.1 hb, HS6.out.2.1.all hb, HS6.out.2.2.1.all hb, HS6.out.2.2.2.1.all hb, HS6.out.2.2.2.2.1.all hb, Flat.all HS6.out.2.2.2.2.2.1 hb, Flat.all HS6.out.2.2.2.2.2.2 hb⟩)
        clear HS6
        clear C hb
        clear z5
        cases Bp with
        | false =>
          have CL := Lib.hid (plives_any w7)
          go_wp2_with fail
          refine CL.out.mono ?_
          rintro e wl ⟨rfl, hbl⟩
          have HBl := Lib.hid (below_all HS8.out.1 hbl)
          clear CL hbl
          go_wp2
          go_ret
          exact ⟨rfl, HBl.out⟩
        | true =>
          have z6 := HS8.out.2.1.cell (i := 6) rfl
          have C := Lib.hid (few_any _ q w7 HS8.out.2.2.2.2.2.2)
          obtain ⟨Bq, hB⟩ : ∃ B, fewOk q = B := ⟨_, rfl⟩
          rw [hB] at C
          have HBq := Lib.hid hB
          clear hB
          go_wp2_with fail
          refine C.out.mono ?_
          rintro e w9 ⟨rfl, hb⟩
          have HS10 := Lib.hid (show Below w.heap.size w w9 ∧ Own w9 w.heap.size [.int .i64 ck, .int .i64 cn, sV cs, .slice cla cln clc, .slice cfa cfn cfc, .slice pao pn pcp, .slice qao qn qcp, .int .i64 gk, .int .i64 gn, sV gs, .slice gla gln glc, .slice gfa gfn gfc, .int .i64 hk, .int .i64 hn, sV hs, .slice hla hln hlc, .slice hfa hfn hfc] 49 ∧ Is w9 ⟨ck, cn, cs, cla, cln, clc, cfa, cfn, cfc⟩ t ∧ Is w9 ⟨gk, gn, gs, gla, gln, glc, gfa, gfn, gfc⟩ x ∧ Is w9 ⟨hk, hn, hs, hla, hln, hlc, hfa, hfn, hfc⟩ y ∧ Stps w9 (.slice pao pn pcp) p ∧ Stps w9 (.slice qao qn qcp) q from ⟨below_all HS8.out.1 hb, HS8.out.2.1.all hb, HS8.out.2.2.1.all hb, HS8.out.2.2.2.1.all hb, HS8.out.2.2.2.2.1.all hb, Flat.all HS8.out.2.2.2.2.2.1 hb, Flat.all HS8.out.2.2.2.2.2.2 hb⟩)
          clear HS8
          clear C hb
          clear z6
          cases Bq with
          | false =>
            have CL := Lib.hid (plives_any w9)
            go_wp2_with fail
            refine CL.out.mono ?_
            rintro e wl ⟨rfl, hbl⟩
            have HBl := Lib.hid (below_all HS10.out.1 hbl)
            clear CL hbl
            go_wp2
            go_ret
            exact ⟨rfl, HBl.out⟩
          | true =>
            have HSZ := Lib.hid (And.intro (few2000 HT.out.1 HBv.out).1 (And.intro (fewOk_iff HBp.out).1 (fewOk_iff HBq.out).1))
            have z0 := HS10.out.2.1.cell (i := 0) rfl
            have z1 := HS10.out.2.1.cell (i := 1) rfl
            have z2 := HS10.out.2.1.cell (i := 2) rfl
            have z3 := HS10.out.2.1.cell (i := 3) rfl
            have z4 := HS10.out.2.1.cell (i := 4) rfl
            have z5 := HS10.out.2.1.cell (i := 5) rfl
            have z7 := HS10.out.2.1.cell (i := 7) rfl
            have z8 := HS10.out.2.1.cell (i := 8) rfl
            have z9 := HS10.out.2.1.cell (i := 9) rfl
            have z10 := HS10.out.2.1.cell (i := 10) rfl
            have z11 := HS10.out.2.1.cell (i := 11) rfl
            have C := Lib.hid (pathSet_any p _ w9 HS10.out.2.2.2.2.2.1 (by have := HSZ.out.2.1; omega) ⟨ck, cn, cs, cla, cln, clc, cfa, cfn, cfc⟩ ⟨gk, gn, gs, gla, gln, glc, gfa, gfn, gfc⟩ t x HS10.out.2.2.1 HS10.out.2.2.2.1)
            go_wp2_with fail
            refine C.out.mono ?_
            intro e w11 hres
            clear C
            clear z0 z1 z2 z3 z4 z5 z7 z8 z9 z10 z11
            obtain ⟨⟨rk, rn, rs, rla, rln, rlc, rfa, rfn, rfc⟩, he, hId⟩ := hres.out
            have HRr := Lib.hid (show resS p t x = resS p t x from rfl)
            obtain ⟨⟨rr, cdr⟩, hrr⟩ : ∃ r, resS p t x = r := ⟨_, rfl⟩
            rw [hrr] at he hId
            simp only at he hId
            subst he
            have HQr := Lib.hid hrr
            clear hrr HRr
            have hbr := hres.below
            have HS12 := Lib.hid (show Below w.heap.size w w11 ∧ Own w11 w.heap.size [.int .i64 ck, .int .i64 cn, sV cs, .slice cla cln clc, .slice cfa cfn cfc, .slice pao pn pcp, .slice qao qn qcp, .int .i64 gk, .int .i64 gn, sV gs, .slice gla gln glc, .slice gfa gfn gfc, .int .i64 hk, .int .i64 hn, sV hs, .slice hla hln hlc, .slice hfa hfn hfc] 49 ∧ Is w11 ⟨ck, cn, cs, cla, cln, clc, cfa, cfn, cfc⟩ t ∧ Is w11 ⟨gk, gn, gs, gla, gln, glc, gfa, gfn, gfc⟩ x ∧ Is w11 ⟨hk, hn, hs, hla, hln, hlc, hfa, hfn, hfc⟩ y ∧ Stps w11 (.slice pao pn pcp) p ∧ Stps w11 (.slice qao qn qcp) q from ⟨below_all HS10.out.1 hbr, HS10.out.2.1.all hbr, HS10.out.2.2.1.all hbr, HS10.out.2.2.2.1.all hbr, HS10.out.2.2.2.2.1.all hbr, Flat.all HS10.out.2.2.2.2.2.1 hbr, Flat.all HS10.out.2.2.2.2.2.2 hbr⟩)
            clear HS10
            have hbA := below_alloc w11 (.cells #[.int .i64 rk, .int .i64 rn, sV rs, .slice rla rln rlc, .slice rfa rfn rfc] 25)
            have HXr := Lib.hid (And.intro (Own.new w11 [.int .i64 rk, .int .i64 rn, sV rs, .slice rla rln rlc, .slice rfa rfn rfc] 25) (hId.is.all hbA))
            have HS13 := Lib.hid (show Below w.heap.size w (w11.alloc (.cells #[.int .i64 rk, .int .i64 rn, sV rs, .slice rla rln rlc, .slice rfa rfn rfc] 25)) ∧ Own (w11.alloc (.cells #[.int .i64 rk, .int .i64 rn, sV rs, .slice rla rln rlc, .slice rfa rfn rfc] 25)) w.heap.size [.int .i64 ck, .int .i64 cn, sV cs, .slice cla cln clc, .slice cfa cfn cfc, .slice pao pn pcp, .slice qao qn qcp, .int .i64 gk, .int .i64 gn, sV gs, .slice gla gln glc, .slice gfa gfn gfc, .int .i64 hk, .int .i64 hn, sV hs, .slice hla hln hlc, .slice hfa hfn hfc] 49 ∧ Is (w11.alloc (.cells #[.int .i64 rk, .int .i64 rn, sV rs, .slice rla rln rlc, .slice rfa rfn rfc] 25)) ⟨ck, cn, cs, cla, cln, clc, cfa, cfn, cfc⟩ t ∧ Is (w11.alloc (.cells #[.int .i64 rk, .int .i64 rn, sV rs, .slice rla rln rlc, .slice rfa rfn rfc] 25)) ⟨gk, gn, gs, gla, gln, glc, gfa, gfn, gfc⟩ x ∧ Is (w11.alloc (.cells #[.int .i64 rk, .int .i64 rn, sV rs, .slice rla rln rlc, .slice rfa rfn rfc] 25)) ⟨hk, hn, hs, hla, hln, hlc, hfa, hfn, hfc⟩ y ∧ Stps (w11.alloc (.cells #[.int .i64 rk, .int .i64 rn, sV rs, .slice rla rln rlc, .slice rfa rfn rfc] 25)) (.slice pao pn pcp) p ∧ Stps (w11.alloc (.cells #[.int .i64 rk, .int .i64 rn, sV rs, .slice rla rln rlc, .slice rfa rfn rfc] 25)) (.slice qao qn qcp) q from ⟨below_all HS12.out.1 hbA, HS12.out.2.1.all hbA, HS12.out.2.2.1.all hbA, HS12.out.2.2.2.1.all hbA, HS12.out.2.2.2.2.1.all hbA, Flat.all HS12.out.2.2.2.2.2.1 hbA, Flat.all HS12.out.2.2.2.2.2.2 hbA⟩)
            clear HS12
            clear hres hbr hbA hId
            go_upto_region 4 with (fail)
            change Code.wp Tryz.prog _ _ _ (w11.alloc (.cells #[.int .i64 rk, .int .i64 rn, sV rs, .slice rla rln rlc, .slice rfa rfn rfc] 25))
            generalize (w11.alloc (.cells #[.int .i64 rk, .int .i64 rn, sV rs, .slice rla rln rlc, .slice rfa rfn rfc] 25)) = V14 at *
            generalize w11.heap.size = bxr at *
            by_cases hcd : cdr = 0
            case neg =>
              have hcd2 : (cdr != 0) = true := by rw [bne_iff_ne]; exact hcd
              have CL := Lib.hid (plives_any V14)
              go_wp2_with fail
              refine CL.out.mono ?_
              rintro e wl ⟨rfl, hbl⟩
              have HBl := Lib.hid (below_all HS13.out.1 hbl)
              clear CL hbl
              go_wp2
              go_ret
              exact ⟨rfl, HBl.out⟩
            subst hcd
            obtain ⟨hpok, hOt, hOx, hs0, hOw, hres0⟩ := resS_zero (show (resS p t x).2 = 0 by rw [HQr.out])
            obtain rfl : rr = (setP p t x).1 := by have := HQr.out; rw [hres0] at this; exact (congrArg Prod.fst this).symm
            have hfound := found_set (pathOk_all hpok).2 hs0
            have hss : ∀ z z2 : T, resS p t y = (z, 0) → resS p (setP p t x).1 y = (z2, 0) → z = z2 := fun z z2 e1 e2 => by
              obtain ⟨-, -, -, a1, -, a2⟩ := resS_zero (show (resS p t y).2 = 0 by rw [e1])
              obtain ⟨-, -, -, b1, -, b2⟩ := resS_zero (show (resS p (setP p t x).1 y).2 = 0 by rw [e2])
              rw [e1] at a2; rw [e2] at b2
              have := set_set (pathOk_all hpok).2 hs0 a1 b1
              exact (congrArg Prod.fst a2 : z = _).trans (this.symm.trans (congrArg Prod.fst b2 : z2 = _).symm)
            have hoth : pathOk q = true → (∀ s ∈ p, ¬ s.k = 3) → (∀ s ∈ q, ¬ s.k = 3) → ¬ p <+: q → ¬ q <+: p → findT (setP p t x).1 q = findT t q := fun a b c d e => found_other (pathOk_all hpok).2 (pathOk_all a).2 b c d e ⟨12, hOt.1⟩ hs0
            have HM := Lib.hid (And.intro hpok (And.intro hOw (And.intro hfound (And.intro hss hoth))))
            clear hpok hOt hOx hs0 hres0 hfound hss hoth HQr
            generalize (setP p t x).1 = wt at *
            have z5 := HS13.out.2.1.cell (i := 5) rfl
            have y0 := HXr.out.1.cell (i := 0) rfl
            have y1 := HXr.out.1.cell (i := 1) rfl
            have y2 := HXr.out.1.cell (i := 2) rfl
            have y3 := HXr.out.1.cell (i := 3) rfl
            have y4 := HXr.out.1.cell (i := 4) rfl
            have C := Lib.hid (pathGet_any ⟨rk, rn, rs, rla, rln, rlc, rfa, rfn, rfc⟩ wt _ p V14 HXr.out.2 (by have := HM.out.2.1.2; omega) HS13.out.2.2.2.2.2.1 (by have := HSZ.out.2.1; omega))
            go_wp2_with fail
            refine C.out.mono ?_
            intro e w15 hres
            clear C
            clear z5
            clear y0 y1 y2 y3 y4
            obtain ⟨⟨jk, jn, js, jla, jln, jlc, jfa, jfn, jfc⟩, hi, rfl, -, -, hIS⟩ := hres.ok HM.out.1 x HM.out.2.2.1
            have hIj := hIS.is
            have hbr := hres.below
            have HS16 := Lib.hid (show Below w.heap.size w w15 ∧ Own w15 w.heap.size [.int .i64 ck, .int .i64 cn, sV cs, .slice cla cln clc, .slice cfa cfn cfc, .slice pao pn pcp, .slice qao qn qcp, .int .i64 gk, .int .i64 gn, sV gs, .slice gla gln glc, .slice gfa gfn gfc, .int .i64 hk, .int .i64 hn, sV hs, .slice hla hln hlc, .slice hfa hfn hfc] 49 ∧ Is w15 ⟨ck, cn, cs, cla, cln, clc, cfa, cfn, cfc⟩ t ∧ Is w15 ⟨gk, gn, gs, gla, gln, glc, gfa, gfn, gfc⟩ x ∧ Is w15 ⟨hk, hn, hs, hla, hln, hlc, hfa, hfn, hfc⟩ y ∧ Stps w15 (.slice pao pn pcp) p ∧ Stps w15 (.slice qao qn qcp) q from ⟨below_all HS13.out.1 hbr, HS13.out.2.1.all hbr, HS13.out.2.2.1.all hbr, HS13.out.2.2.2.1.all hbr, HS13.out.2.2.2.2.1.all hbr, Flat.all HS13.out.2.2.2.2.2.1 hbr, Flat.all HS13.out.2.2.2.2.2.2 hbr⟩)
            have HE17 := Lib.hid (And.intro (HXr.out.1.all hbr) (HXr.out.2.all hbr))
            clear HS13 HXr
            have hbA := below_alloc w15 (.cells #[.int .i64 jk, .int .i64 jn, sV js, .slice jla jln jlc, .slice jfa jfn jfc] 25)
            have HXj := Lib.hid (And.intro (Own.new w15 [.int .i64 jk, .int .i64 jn, sV js, .slice jla jln jlc, .slice jfa jfn jfc] 25) (hIj.all hbA))
            have HS18 := Lib.hid (show Below w.heap.size w (w15.alloc (.cells #[.int .i64 jk, .int .i64 jn, sV js, .slice jla jln jlc, .slice jfa jfn jfc] 25)) ∧ Own (w15.alloc (.cells #[.int .i64 jk, .int .i64 jn, sV js, .slice jla jln jlc, .slice jfa jfn jfc] 25)) w.heap.size [.int .i64 ck, .int .i64 cn, sV cs, .slice cla cln clc, .slice cfa cfn cfc, .slice pao pn pcp, .slice qao qn qcp, .int .i64 gk, .int .i64 gn, sV gs, .slice gla gln glc, .slice gfa gfn gfc, .int .i64 hk, .int .i64 hn, sV hs, .slice hla hln hlc, .slice hfa hfn hfc] 49 ∧ Is (w15.alloc (.cells #[.int .i64 jk, .int .i64 jn, sV js, .slice jla jln jlc, .slice jfa jfn jfc] 25)) ⟨ck, cn, cs, cla, cln, clc, cfa, cfn, cfc⟩ t ∧ Is (w15.alloc (.cells #[.int .i64 jk, .int .i64 jn, sV js, .slice jla jln jlc, .slice jfa jfn jfc] 25)) ⟨gk, gn, gs, gla, gln, glc, gfa, gfn, gfc⟩ x ∧ Is (w15.alloc (.cells #[.int .i64 jk, .int .i64 jn, sV js, .slice jla jln jlc, .slice jfa jfn jfc] 25)) ⟨hk, hn, hs, hla, hln, hlc, hfa, hfn, hfc⟩ y ∧ Stps (w15.alloc (.cells #[.int .i64 jk, .int .i64 jn, sV js, .slice jla jln jlc, .slice jfa jfn jfc] 25)) (.slice pao pn pcp) p ∧ Stps (w15.alloc (.cells #[.int .i64 jk, .int .i64 jn, sV js, .slice jla jln jlc, .slice jfa jfn jfc] 25)) (.slice qao qn qcp) q from ⟨below_all HS16.out.1 hbA, HS16.out.2.1.all hbA, HS16.out.2.2.1.all hbA, HS16.out.2.2.2.1.all hbA, HS16.out.2.2.2.2.1.all hbA, Flat.all HS16.out.2.2.2.2.2.1 hbA, Flat.all HS16.out.2.2.2.2.2.2 hbA⟩)
            have HE19 := Lib.hid (And.intro (HE17.out.1.all hbA) (HE17.out.2.all hbA))
            clear HS16 HE17
            clear hres hbr hbA hIS hIj
            go_upto_region 7 with (fail)
            change Code.wp Tryz.prog _ _ _ (w15.alloc (.cells #[.int .i64 jk, .int .i64 jn, sV js, .slice jla jln jlc, .slice jfa jfn jfc] 25))
            generalize (w15.alloc (.cells #[.int .i64 jk, .int .i64 jn, sV js, .slice jla jln jlc, .slice jfa jfn jfc] 25)) = V20 at *
            generalize w15.heap.size = bxj at *
            have z7 := HS18.out.2.1.cell (i := 7) rfl
            have z8 := HS18.out.2.1.cell (i := 8) rfl
            have z9 := HS18.out.2.1.cell (i := 9) rfl
            have z10 := HS18.out.2.1.cell (i := 10) rfl
            have z11 := HS18.out.2.1.cell (i := 11) rfl
            have y0 := HXj.out.1.cell (i := 0) rfl
            have y1 := HXj.out.1.cell (i := 1) rfl
            have y2 := HXj.out.1.cell (i := 2) rfl
            have y3 := HXj.out.1.cell (i := 3) rfl
            have y4 := HXj.out.1.cell (i := 4) rfl
            have C := Lib.hid (alike_any _ x (Nat.le_refl _) ⟨jk, jn, js, jla, jln, jlc, jfa, jfn, jfc⟩ ⟨gk, gn, gs, gla, gln, glc, gfa, gfn, gfc⟩ V20 HXj.out.2 HS18.out.2.2.2.1)
            go_wp2_with fail
            refine C.out.mono ?_
            rintro e w21 ⟨rfl, hb⟩
            clear C
            clear z7 z8 z9 z10 z11
            clear y0 y1 y2 y3 y4
            have HS22 := Lib.hid (show Below w.heap.size w w21 ∧ Own w21 w.heap.size [.int .i64 ck, .int .i64 cn, sV cs, .slice cla cln clc, .slice cfa cfn cfc, .slice pao pn pcp, .slice qao qn qcp, .int .i64 gk, .int .i64 gn, sV gs, .slice gla gln glc, .slice gfa gfn gfc, .int .i64 hk, .int .i64 hn, sV hs, .slice hla hln hlc, .slice hfa hfn hfc] 49 ∧ Is w21 ⟨ck, cn, cs, cla, cln, clc, cfa, cfn, cfc⟩ t ∧ Is w21 ⟨gk, gn, gs, gla, gln, glc, gfa, gfn, gfc⟩ x ∧ Is w21 ⟨hk, hn, hs, hla, hln, hlc, hfa, hfn, hfc⟩ y ∧ Stps w21 (.slice pao pn pcp) p ∧ Stps w21 (.slice qao qn qcp) q from ⟨below_all HS18.out.1 hb, HS18.out.2.1.all hb, HS18.out.2.2.1.all hb, HS18.out.2.2.2.1.all hb, HS18.out.2.2.2.2.1.all hb, Flat.all HS18.out.2.2.2.2.2.1 hb, Flat.all HS18.out.2.2.2.2.2.2 hb⟩)
            have HE23 := Lib.hid (And.intro (HE19.out.1.all hb) (HE19.out.2.all hb))
            clear HS18 HE19
            clear hb HXj
            have y0 := HE23.out.1.cell (i := 0) rfl
            have y1 := HE23.out.1.cell (i := 1) rfl
            have y2 := HE23.out.1.cell (i := 2) rfl
            have y3 := HE23.out.1.cell (i := 3) rfl
            have y4 := HE23.out.1.cell (i := 4) rfl
            have CV := Lib.hid (rvalidtop_any wt ⟨rk, rn, rs, rla, rln, rlc, rfa, rfn, rfc⟩ w21 HE23.out.2 (val_niceL 12 wt HM.out.2.1.1) (by have := HM.out.2.1.2; omega))
            go_wp2_with fail
            refine CV.out.mono ?_
            intro e w24 hrb
            obtain ⟨R, rfl, hb, hR⟩ := hrb.out
            obtain rfl : R = true := hR.2 HM.out.2.1
            clear CV hrb hR
            clear y0 y1 y2 y3 y4
            have HS25 := Lib.hid (show Below w.heap.size w w24 ∧ Own w24 w.heap.size [.int .i64 ck, .int .i64 cn, sV cs, .slice cla cln clc, .slice cfa cfn cfc, .slice pao pn pcp, .slice qao qn qcp, .int .i64 gk, .int .i64 gn, sV gs, .slice gla gln glc, .slice gfa gfn gfc, .int .i64 hk, .int .i64 hn, sV hs, .slice hla hln hlc, .slice hfa hfn hfc] 49 ∧ Is w24 ⟨ck, cn, cs, cla, cln, clc, cfa, cfn, cfc⟩ t ∧ Is w24 ⟨gk, gn, gs, gla, gln, glc, gfa, gfn, gfc⟩ x ∧ Is w24 ⟨hk, hn, hs, hla, hln, hlc, hfa, hfn, hfc⟩ y ∧ Stps w24 (.slice pao pn pcp) p ∧ Stps w24 (.slice qao qn qcp) q from ⟨below_all HS22.out.1 hb, HS22.out.2.1.all hb, HS22.out.2.2.1.all hb, HS22.out.2.2.2.1.all hb, HS22.out.2.2.2.2.1.all hb, Flat.all HS22.out.2.2.2.2.2.1 hb, Flat.all HS22.out.2.2.2.2.2.2 hb⟩)
            have HE26 := Lib.hid (And.intro (HE23.out.1.all hb) (HE23.out.2.all hb))
            clear HS22 HE23
            clear hb
            have z0 := HS25.out.2.1.cell (i := 0) rfl
            have z1 := HS25.out.2.1.cell (i := 1) rfl
            have z2 := HS25.out.2.1.cell (i := 2) rfl
            have z3 := HS25.out.2.1.cell (i := 3) rfl
            have z4 := HS25.out.2.1.cell (i := 4) rfl
            have z5 := HS25.out.2.1.cell (i := 5) rfl
            have z12 := HS25.out.2.1.cell (i := 12) rfl
            have z13 := HS25.out.2.1.cell (i := 13) rfl
            have z14 := HS25.out.2.1.cell (i := 14) rfl
            have z15 := HS25.out.2.1.cell (i := 15) rfl
            have z16 := HS25.out.2.1.cell (i := 16) rfl
            have C := Lib.hid (pathSet_any p _ w24 HS25.out.2.2.2.2.2.1 (by have := HSZ.out.2.1; omega) ⟨ck, cn, cs, cla, cln, clc, cfa, cfn, cfc⟩ ⟨hk, hn, hs, hla, hln, hlc, hfa, hfn, hfc⟩ t y HS25.out.2.2.1 HS25.out.2.2.2.2.1)
            go_wp2_with fail
            refine C.out.mono ?_
            intro e w27 hres
            clear C
            clear z0 z1 z2 z3 z4 z5 z12 z13 z14 z15 z16
            obtain ⟨⟨ok, on, os, ola, oln, olc, ofa, ofn, ofc⟩, he, hId⟩ := hres.out
            have HRo := Lib.hid (show resS p t y = resS p t y from rfl)
            obtain ⟨⟨ro, cdo⟩, hro⟩ : ∃ r, resS p t y = r := ⟨_, rfl⟩
            rw [hro] at he hId
            simp only at he hId
            subst he
            have HQo := Lib.hid hro
            clear hro HRo
            have hbr := hres.below
            have HS28 := Lib.hid (show Below w.heap.size w w27 ∧ Own w27 w.heap.size [.int .i64 ck, .int .i64 cn, sV cs, .slice cla cln clc, .slice cfa cfn cfc, .slice pao pn pcp, .slice qao qn qcp, .int .i64 gk, .int .i64 gn, sV gs, .slice gla gln glc, .slice gfa gfn gfc, .int .i64 hk, .int .i64 hn, sV hs, .slice hla hln hlc, .slice hfa hfn hfc] 49 ∧ Is w27 ⟨ck, cn, cs, cla, cln, clc, cfa, cfn, cfc⟩ t ∧ Is w27 ⟨gk, gn, gs, gla, gln, glc, gfa, gfn, gfc⟩ x ∧ Is w27 ⟨hk, hn, hs, hla, hln, hlc, hfa, hfn, hfc⟩ y ∧ Stps w27 (.slice pao pn pcp) p ∧ Stps w27 (.slice qao qn qcp) q from ⟨below_all HS25.out.1 hbr, HS25.out.2.1.all hbr, HS25.out.2.2.1.all hbr, HS25.out.2.2.2.1.all hbr, HS25.out.2.2.2.2.1.all hbr, Flat.all HS25.out.2.2.2.2.2.1 hbr, Flat.all HS25.out.2.2.2.2.2.2 hbr⟩)
            have HE29 := Lib.hid (And.intro (HE26.out.1.all hbr) (HE26.out.2.all hbr))
            clear HS25 HE26
            have hbA := below_alloc w27 (.cells #[.int .i64 ok, .int .i64 on, sV os, .slice ola oln olc, .slice ofa ofn ofc] 25)
            have HXo := Lib.hid (And.intro (Own.new w27 [.int .i64 ok, .int .i64 on, sV os, .slice ola oln olc, .slice ofa ofn ofc] 25) (hId.is.all hbA))
            have HS30 := Lib.hid (show Below w.heap.size w (w27.alloc (.cells #[.int .i64 ok, .int .i64 on, sV os, .slice ola oln olc, .slice ofa ofn ofc] 25)) ∧ Own (w27.alloc (.cells #[.int .i64 ok, .int .i64 on, sV os, .slice ola oln olc, .slice ofa ofn ofc] 25)) w.heap.size [.int .i64 ck, .int .i64 cn, sV cs, .slice cla cln clc, .slice cfa cfn cfc, .slice pao pn pcp, .slice qao qn qcp, .int .i64 gk, .int .i64 gn, sV gs, .slice gla gln glc, .slice gfa gfn gfc, .int .i64 hk, .int .i64 hn, sV hs, .slice hla hln hlc, .slice hfa hfn hfc] 49 ∧ Is (w27.alloc (.cells #[.int .i64 ok, .int .i64 on, sV os, .slice ola oln olc, .slice ofa ofn ofc] 25)) ⟨ck, cn, cs, cla, cln, clc, cfa, cfn, cfc⟩ t ∧ Is (w27.alloc (.cells #[.int .i64 ok, .int .i64 on, sV os, .slice ola oln olc, .slice ofa ofn ofc] 25)) ⟨gk, gn, gs, gla, gln, glc, gfa, gfn, gfc⟩ x ∧ Is (w27.alloc (.cells #[.int .i64 ok, .int .i64 on, sV os, .slice ola oln olc, .slice ofa ofn ofc] 25)) ⟨hk, hn, hs, hla, hln, hlc, hfa, hfn, hfc⟩ y ∧ Stps (w27.alloc (.cells #[.int .i64 ok, .int .i64 on, sV os, .slice ola oln olc, .slice ofa ofn ofc] 25)) (.slice pao pn pcp) p ∧ Stps (w27.alloc (.cells #[.int .i64 ok, .int .i64 on, sV os, .slice ola oln olc, .slice ofa ofn ofc] 25)) (.slice qao qn qcp) q from ⟨below_all HS28.out.1 hbA, HS28.out.2.1.all hbA, HS28.out.2.2.1.all hbA, HS28.out.2.2.2.1.all hbA, HS28.out.2.2.2.2.1.all hbA, Flat.all HS28.out.2.2.2.2.2.1 hbA, Flat.all HS28.out.2.2.2.2.2.2 hbA⟩)
            have HE31 := Lib.hid (And.intro (HE29.out.1.all hbA) (HE29.out.2.all hbA))
            clear HS28 HE29
            clear hres hbr hbA hId
            go_upto_region 10 with (fail)
            change Code.wp Tryz.prog _ _ _ (w27.alloc (.cells #[.int .i64 ok, .int .i64 on, sV os, .slice ola oln olc, .slice ofa ofn ofc] 25))
            generalize (w27.alloc (.cells #[.int .i64 ok, .int .i64 on, sV os, .slice ola oln olc, .slice ofa ofn ofc] 25)) = V32 at *
            generalize w27.heap.size = bxo at *
            have z5 := HS30.out.2.1.cell (i := 5) rfl
            have z12 := HS30.out.2.1.cell (i := 12) rfl
            have z13 := HS30.out.2.1.cell (i := 13) rfl
            have z14 := HS30.out.2.1.cell (i := 14) rfl
            have z15 := HS30.out.2.1.cell (i := 15) rfl
            have z16 := HS30.out.2.1.cell (i := 16) rfl
            have y0 := HE31.out.1.cell (i := 0) rfl
            have y1 := HE31.out.1.cell (i := 1) rfl
            have y2 := HE31.out.1.cell (i := 2) rfl
            have y3 := HE31.out.1.cell (i := 3) rfl
            have y4 := HE31.out.1.cell (i := 4) rfl
            have C := Lib.hid (pathSet_any p _ V32 HS30.out.2.2.2.2.2.1 (by have := HSZ.out.2.1; omega) ⟨rk, rn, rs, rla, rln, rlc, rfa, rfn, rfc⟩ ⟨hk, hn, hs, hla, hln, hlc, hfa, hfn, hfc⟩ wt y HE31.out.2 HS30.out.2.2.2.2.1)
            go_wp2_with fail
            refine C.out.mono ?_
            intro e w33 hres
            clear C
            clear z5 z12 z13 z14 z15 z16
            clear y0 y1 y2 y3 y4
            obtain ⟨⟨dk, dn, ds, dla, dln, dlc, dfa, dfn, dfc⟩, he, hId⟩ := hres.out
            have HRd := Lib.hid (show resS p wt y = resS p wt y from rfl)
            obtain ⟨⟨rd, cdd⟩, hrd⟩ : ∃ r, resS p wt y = r := ⟨_, rfl⟩
            rw [hrd] at he hId
            simp only at he hId
            subst he
            have HQd := Lib.hid hrd
            clear hrd HRd
            have hbr := hres.below
            have HS34 := Lib.hid (show Below w.heap.size w w33 ∧ Own w33 w.heap.size [.int .i64 ck, .int .i64 cn, sV cs, .slice cla cln clc, .slice cfa cfn cfc, .slice pao pn pcp, .slice qao qn qcp, .int .i64 gk, .int .i64 gn, sV gs, .slice gla gln glc, .slice gfa gfn gfc, .int .i64 hk, .int .i64 hn, sV hs, .slice hla hln hlc, .slice hfa hfn hfc] 49 ∧ Is w33 ⟨ck, cn, cs, cla, cln, clc, cfa, cfn, cfc⟩ t ∧ Is w33 ⟨gk, gn, gs, gla, gln, glc, gfa, gfn, gfc⟩ x ∧ Is w33 ⟨hk, hn, hs, hla, hln, hlc, hfa, hfn, hfc⟩ y ∧ Stps w33 (.slice pao pn pcp) p ∧ Stps w33 (.slice qao qn qcp) q from ⟨below_all HS30.out.1 hbr, HS30.out.2.1.all hbr, HS30.out.2.2.1.all hbr, HS30.out.2.2.2.1.all hbr, HS30.out.2.2.2.2.1.all hbr, Flat.all HS30.out.2.2.2.2.2.1 hbr, Flat.all HS30.out.2.2.2.2.2.2 hbr⟩)
            have HE35 := Lib.hid (And.intro (HE31.out.1.all hbr) (HE31.out.2.all hbr))
            have HE36 := Lib.hid (And.intro (HXo.out.1.all hbr) (HXo.out.2.all hbr))
            clear HS30 HE31 HXo
            have hbA := below_alloc w33 (.cells #[.int .i64 dk, .int .i64 dn, sV ds, .slice dla dln dlc, .slice dfa dfn dfc] 25)
            have HXd := Lib.hid (And.intro (Own.new w33 [.int .i64 dk, .int .i64 dn, sV ds, .slice dla dln dlc, .slice dfa dfn dfc] 25) (hId.is.all hbA))
            have HS37 := Lib.hid (show Below w.heap.size w (w33.alloc (.cells #[.int .i64 dk, .int .i64 dn, sV ds, .slice dla dln dlc, .slice dfa dfn dfc] 25)) ∧ Own (w33.alloc (.cells #[.int .i64 dk, .int .i64 dn, sV ds, .slice dla dln dlc, .slice dfa dfn dfc] 25)) w.heap.size [.int .i64 ck, .int .i64 cn, sV cs, .slice cla cln clc, .slice cfa cfn cfc, .slice pao pn pcp, .slice qao qn qcp, .int .i64 gk, .int .i64 gn, sV gs, .slice gla gln glc, .slice gfa gfn gfc, .int .i64 hk, .int .i64 hn, sV hs, .slice hla hln hlc, .slice hfa hfn hfc] 49 ∧ Is (w33.alloc (.cells #[.int .i64 dk, .int .i64 dn, sV ds, .slice dla dln dlc, .slice dfa dfn dfc] 25)) ⟨ck, cn, cs, cla, cln, clc, cfa, cfn, cfc⟩ t ∧ Is (w33.alloc (.cells #[.int .i64 dk, .int .i64 dn, sV ds, .slice dla dln dlc, .slice dfa dfn dfc] 25)) ⟨gk, gn, gs, gla, gln, glc, gfa, gfn, gfc⟩ x ∧ Is (w33.alloc (.cells #[.int .i64 dk, .int .i64 dn, sV ds, .slice dla dln dlc, .slice dfa dfn dfc] 25)) ⟨hk, hn, hs, hla, hln, hlc, hfa, hfn, hfc⟩ y ∧ Stps (w33.alloc (.cells #[.int .i64 dk, .int .i64 dn, sV ds, .slice dla dln dlc, .slice dfa dfn dfc] 25)) (.slice pao pn pcp) p ∧ Stps (w33.alloc (.cells #[.int .i64 dk, .int .i64 dn, sV ds, .slice dla dln dlc, .slice dfa dfn dfc] 25)) (.slice qao qn qcp) q from ⟨below_all HS34.out.1 hbA, HS34.out.2.1.all hbA, HS34.out.2.2.1.all hbA, HS34.out.2.2.2.1.all hbA, HS34.out.2.2.2.2.1.all hbA, Flat.all HS34.out.2.2.2.2.2.1 hbA, Flat.all HS34.out.2.2.2.2.2.2 hbA⟩)
            have HE38 := Lib.hid (And.intro (HE35.out.1.all hbA) (HE35.out.2.all hbA))
            have HE39 := Lib.hid (And.intro (HE36.out.1.all hbA) (HE36.out.2.all hbA))
            clear HS34 HE35 HE36
            clear hres hbr hbA hId
            go_upto_region 11 with (fail)
            change Code.wp Tryz.prog _ _ _ (w33.alloc (.cells #[.int .i64 dk, .int .i64 dn, sV ds, .slice dla dln dlc, .slice dfa dfn dfc] 25))
            generalize (w33.alloc (.cells #[.int .i64 dk, .int .i64 dn, sV ds, .slice dla dln dlc, .slice dfa dfn dfc] 25)) = V40 at *
            generalize w33.heap.size = bxd at *
            by_cases hf : cdo = 0
            case neg =>
              have hf2 : (cdo == 0) = false := by rw [beq_eq_false_iff_ne]; exact hf
              have z5 := HS37.out.2.1.cell (i := 5) rfl
              have C := Lib.hid (plain_any _ p V40 HS37.out.2.2.2.2.2.1)
              obtain ⟨P1, hB⟩ : ∃ B, plainOk p = B := ⟨_, rfl⟩
              rw [hB] at C
              have HP1 := Lib.hid hB
              clear hB
              go_wp2_with fail
              refine C.out.mono ?_
              rintro e w41 ⟨rfl, hb⟩
              have HS42 := Lib.hid (show Below w.heap.size w w41 ∧ Own w41 w.heap.size [.int .i64 ck, .int .i64 cn, sV cs, .slice cla cln clc, .slice cfa cfn cfc, .slice pao pn pcp, .slice qao qn qcp, .int .i64 gk, .int .i64 gn, sV gs, .slice gla gln glc, .slice gfa gfn gfc, .int .i64 hk, .int .i64 hn, sV hs, .slice hla hln hlc, .slice hfa hfn hfc] 49 ∧ Is w41 ⟨ck, cn, cs, cla, cln, clc, cfa, cfn, cfc⟩ t ∧ Is w41 ⟨gk, gn, gs, gla, gln, glc, gfa, gfn, gfc⟩ x ∧ Is w41 ⟨hk, hn, hs, hla, hln, hlc, hfa, hfn, hfc⟩ y ∧ Stps w41 (.slice pao pn pcp) p ∧ Stps w41 (.slice qao qn qcp) q from ⟨below_all HS37.out.1 hb, HS37.out.2.1.all hb, HS37.out.2.2.1.all hb, HS37.out.2.2.2.1.all hb, HS37.out.2.2.2.2.1.all hb, Flat.all HS37.out.2.2.2.2.2.1 hb, Flat.all HS37.out.2.2.2.2.2.2 hb⟩)
              have HE43 := Lib.hid (And.intro (HE38.out.1.all hb) (HE38.out.2.all hb))
              have HE44 := Lib.hid (And.intro (HE39.out.1.all hb) (HE39.out.2.all hb))
              have HE45 := Lib.hid (And.intro (HXd.out.1.all hb) (HXd.out.2.all hb))
              clear HS37 HE38 HE39 HXd
              clear C hb
              clear z5
              cases P1 with
              | false =>
                have CL := Lib.hid (plives_any w41)
                go_wp2_with fail
                refine CL.out.mono ?_
                rintro e wl ⟨rfl, hbl⟩
                have HBl := Lib.hid (below_all HS42.out.1 hbl)
                clear CL hbl
                go_wp2
                go_ret
                exact ⟨rfl, HBl.out⟩
              | true =>
                have z6 := HS42.out.2.1.cell (i := 6) rfl
                have C := Lib.hid (plain_any _ q w41 HS42.out.2.2.2.2.2.2)
                obtain ⟨P2, hB⟩ : ∃ B, plainOk q = B := ⟨_, rfl⟩
                rw [hB] at C
                have HP2 := Lib.hid hB
                clear hB
                go_wp2_with fail
                refine C.out.mono ?_
                rintro e w46 ⟨rfl, hb⟩
                have HS47 := Lib.hid (show Below w.heap.size w w46 ∧ Own w46 w.heap.size [.int .i64 ck, .int .i64 cn, sV cs, .slice cla cln clc, .slice cfa cfn cfc, .slice pao pn pcp, .slice qao qn qcp, .int .i64 gk, .int .i64 gn, sV gs, .slice gla gln glc, .slice gfa gfn gfc, .int .i64 hk, .int .i64 hn, sV hs, .slice hla hln hlc, .slice hfa hfn hfc] 49 ∧ Is w46 ⟨ck, cn, cs, cla, cln, clc, cfa, cfn, cfc⟩ t ∧ Is w46 ⟨gk, gn, gs, gla, gln, glc, gfa, gfn, gfc⟩ x ∧ Is w46 ⟨hk, hn, hs, hla, hln, hlc, hfa, hfn, hfc⟩ y ∧ Stps w46 (.slice pao pn pcp) p ∧ Stps w46 (.slice qao qn qcp) q from ⟨below_all HS42.out.1 hb, HS42.out.2.1.all hb, HS42.out.2.2.1.all hb, HS42.out.2.2.2.1.all hb, HS42.out.2.2.2.2.1.all hb, Flat.all HS42.out.2.2.2.2.2.1 hb, Flat.all HS42.out.2.2.2.2.2.2 hb⟩)
                have HE48 := Lib.hid (And.intro (HE43.out.1.all hb) (HE43.out.2.all hb))
                have HE49 := Lib.hid (And.intro (HE44.out.1.all hb) (HE44.out.2.all hb))
                have HE50 := Lib.hid (And.intro (HE45.out.1.all hb) (HE45.out.2.all hb))
                clear HS42 HE43 HE44 HE45
                clear C hb
                clear z6
                cases P2 with
                | false =>
                  have CL := Lib.hid (plives_any w46)
                  go_wp2_with fail
                  refine CL.out.mono ?_
                  rintro e wl ⟨rfl, hbl⟩
                  have HBl := Lib.hid (below_all HS47.out.1 hbl)
                  clear CL hbl
                  go_wp2
                  go_ret
                  exact ⟨rfl, HBl.out⟩
                | true =>
                  have z5 := HS47.out.2.1.cell (i := 5) rfl
                  have z6 := HS47.out.2.1.cell (i := 6) rfl
                  have C := Lib.hid (hasPrefix_any _ _ p q w46 HS47.out.2.2.2.2.2.1 HS47.out.2.2.2.2.2.2 (by have := HSZ.out.2.1; omega) (by have := HSZ.out.2.2; omega))
                  obtain ⟨P3, hB⟩ : ∃ B, hasPre p q = B := ⟨_, rfl⟩
                  rw [hB] at C
                  have HP3 := Lib.hid hB
                  clear hB
                  go_wp2_with fail
                  refine C.out.mono ?_
                  rintro e w51 ⟨rfl, hb⟩
                  have HS52 := Lib.hid (show Below w.heap.size w w51 ∧ Own w51 w.heap.size [.int .i64 ck, .int .i64 cn, sV cs, .slice cla cln clc, .slice cfa cfn cfc, .slice pao pn pcp, .slice qao qn qcp, .int .i64 gk, .int .i64 gn, sV gs, .slice gla gln glc, .slice gfa gfn gfc, .int .i64 hk, .int .i64 hn, sV hs, .slice hla hln hlc, .slice hfa hfn hfc] 49 ∧ Is w51 ⟨ck, cn, cs, cla, cln, clc, cfa, cfn, cfc⟩ t ∧ Is w51 ⟨gk, gn, gs, gla, gln, glc, gfa, gfn, gfc⟩ x ∧ Is w51 ⟨hk, hn, hs, hla, hln, hlc, hfa, hfn, hfc⟩ y ∧ Stps w51 (.slice pao pn pcp) p ∧ Stps w51 (.slice qao qn qcp) q from ⟨below_all HS47.out.1 hb, HS47.out.2.1.all hb, HS47.out.2.2.1.all hb, HS47.out.2.2.2.1.all hb, HS47.out.2.2.2.2.1.all hb, Flat.all HS47.out.2.2.2.2.2.1 hb, Flat.all HS47.out.2.2.2.2.2.2 hb⟩)
                  have HE53 := Lib.hid (And.intro (HE48.out.1.all hb) (HE48.out.2.all hb))
                  have HE54 := Lib.hid (And.intro (HE49.out.1.all hb) (HE49.out.2.all hb))
                  have HE55 := Lib.hid (And.intro (HE50.out.1.all hb) (HE50.out.2.all hb))
                  clear HS47 HE48 HE49 HE50
                  clear C hb
                  clear z5 z6
                  cases P3 with
                  | true =>
                    have CL := Lib.hid (plives_any w51)
                    go_wp2_with fail
                    refine CL.out.mono ?_
                    rintro e wl ⟨rfl, hbl⟩
                    have HBl := Lib.hid (below_all HS52.out.1 hbl)
                    clear CL hbl
                    go_wp2
                    go_ret
                    exact ⟨rfl, HBl.out⟩
                  | false =>
                    have z5 := HS52.out.2.1.cell (i := 5) rfl
                    have z6 := HS52.out.2.1.cell (i := 6) rfl
                    have C := Lib.hid (hasPrefix_any _ _ q p w51 HS52.out.2.2.2.2.2.2 HS52.out.2.2.2.2.2.1 (by have := HSZ.out.2.2; omega) (by have := HSZ.out.2.1; omega))
                    obtain ⟨P4, hB⟩ : ∃ B, hasPre q p = B := ⟨_, rfl⟩
                    rw [hB] at C
                    have HP4 := Lib.hid hB
                    clear hB
                    go_wp2_with fail
                    refine C.out.mono ?_
                    rintro e w56 ⟨rfl, hb⟩
                    have HS57 := Lib.hid (show Below w.heap.size w w56 ∧ Own w56 w.heap.size [.int .i64 ck, .int .i64 cn, sV cs, .slice cla cln clc, .slice cfa cfn cfc, .slice pao pn pcp, .slice qao qn qcp, .int .i64 gk, .int .i64 gn, sV gs, .slice gla gln glc, .slice gfa gfn gfc, .int .i64 hk, .int .i64 hn, sV hs, .slice hla hln hlc, .slice hfa hfn hfc] 49 ∧ Is w56 ⟨ck, cn, cs, cla, cln, clc, cfa, cfn, cfc⟩ t ∧ Is w56 ⟨gk, gn, gs, gla, gln, glc, gfa, gfn, gfc⟩ x ∧ Is w56 ⟨hk, hn, hs, hla, hln, hlc, hfa, hfn, hfc⟩ y ∧ Stps w56 (.slice pao pn pcp) p ∧ Stps w56 (.slice qao qn qcp) q from ⟨below_all HS52.out.1 hb, HS52.out.2.1.all hb, HS52.out.2.2.1.all hb, HS52.out.2.2.2.1.all hb, HS52.out.2.2.2.2.1.all hb, Flat.all HS52.out.2.2.2.2.2.1 hb, Flat.all HS52.out.2.2.2.2.2.2 hb⟩)
                    have HE58 := Lib.hid (And.intro (HE53.out.1.all hb) (HE53.out.2.all hb))
                    have HE59 := Lib.hid (And.intro (HE54.out.1.all hb) (HE54.out.2.all hb))
                    have HE60 := Lib.hid (And.intro (HE55.out.1.all hb) (HE55.out.2.all hb))
                    clear HS52 HE53 HE54 HE55
                    clear C hb
                    clear z5 z6
                    cases P4 with
                    | true =>
                      have CL := Lib.hid (plives_any w56)
                      go_wp2_with fail
                      refine CL.out.mono ?_
                      rintro e wl ⟨rfl, hbl⟩
                      have HBl := Lib.hid (below_all HS57.out.1 hbl)
                      clear CL hbl
                      go_wp2
                      go_ret
                      exact ⟨rfl, HBl.out⟩
                    | false =>
                      have HOT : Hid (pathOk q = true → findT wt q = findT t q) := Lib.hid (fun h => HM.out.2.2.2.2 h (plainOk_iff HP1.out) (plainOk_iff HP2.out) (hasPre_no HP4.out) (hasPre_no HP3.out))
                      have z0 := HS57.out.2.1.cell (i := 0) rfl
                      have z1 := HS57.out.2.1.cell (i := 1) rfl
                      have z2 := HS57.out.2.1.cell (i := 2) rfl
                      have z3 := HS57.out.2.1.cell (i := 3) rfl
                      have z4 := HS57.out.2.1.cell (i := 4) rfl
                      have z6 := HS57.out.2.1.cell (i := 6) rfl
                      have C := Lib.hid (pathGet_any ⟨ck, cn, cs, cla, cln, clc, cfa, cfn, cfc⟩ t _ q w56 HS57.out.2.2.1 (by have := HSZ.out.1; omega) HS57.out.2.2.2.2.2.2 (by have := HSZ.out.2.2; omega))
                      go_wp2_with fail
                      refine C.out.mono ?_
                      intro e w61 hres
                      clear C
                      clear z0 z1 z2 z3 z4 z6
                      by_cases hgot : pathOk q = true ∧ ∃ u, findT t q = some u
                      · skip
                        obtain ⟨hqok, u, hfu⟩ := hgot
                        obtain ⟨⟨mk, mn, ms, mla, mln, mlc, mfa, mfn, mfc⟩, hi, rfl, -, -, hIS⟩ := hres.ok hqok u hfu
                        have hIm := hIS.is
                        have hfw := (HOT.out hqok).trans hfu
                        have HU := Lib.hid (And.intro hqok hfw)
                        clear hqok hfu hfw HOT
                        have hbr := hres.below
                        have HS62 := Lib.hid (show Below w.heap.size w w61 ∧ Own w61 w.heap.size [.int .i64 ck, .int .i64 cn, sV cs, .slice cla cln clc, .slice cfa cfn cfc, .slice pao pn pcp, .slice qao qn qcp, .int .i64 gk, .int .i64 gn, sV gs, .slice gla gln glc, .slice gfa gfn gfc, .int .i64 hk, .int .i64 hn, sV hs, .slice hla hln hlc, .slice hfa hfn hfc] 49 ∧ Is w61 ⟨ck, cn, cs, cla, cln, clc, cfa, cfn, cfc⟩ t ∧ Is w61 ⟨gk, gn, gs, gla, gln, glc, gfa, gfn, gfc⟩ x ∧ Is w61 ⟨hk, hn, hs, hla, hln, hlc, hfa, hfn, hfc⟩ y ∧ Stps w61 (.slice pao pn pcp) p ∧ Stps w61 (.slice qao qn qcp) q from ⟨below_all HS57.out.1 hbr, HS57.out.2.1.all hbr, HS57.out.2.2.1.all hbr, HS57.out.2.2.2.1.all hbr, HS57.out.2.2.2.2.1.all hbr, Flat.all HS57.out.2.2.2.2.2.1 hbr, Flat.all HS57.out.2.2.2.2.2.2 hbr⟩)
                        have HE63 := Lib.hid (And.intro (HE58.out.1.all hbr) (HE58.out.2.all hbr))
                        have HE64 := Lib.hid (And.intro (HE59.out.1.all hbr) (HE59.out.2.all hbr))
                        have HE65 := Lib.hid (And.intro (HE60.out.1.all hbr) (HE60.out.2.all hbr))
                        clear HS57 HE58 HE59 HE60
                        have hbA := below_alloc w61 (.cells #[.int .i64 mk, .int .i64 mn, sV ms, .slice mla mln mlc, .slice mfa mfn mfc] 25)
                        have HXm := Lib.hid (And.intro (Own.new w61 [.int .i64 mk, .int .i64 mn, sV ms, .slice mla mln mlc, .slice mfa mfn mfc] 25) (hIm.all hbA))
                        have HS66 := Lib.hid (show Below w.heap.size w (w61.alloc (.cells #[.int .i64 mk, .int .i64 mn, sV ms, .slice mla mln mlc, .slice mfa mfn mfc] 25)) ∧ Own (w61.alloc (.cells #[.int .i64 mk, .int .i64 mn, sV ms, .slice mla mln mlc, .slice mfa mfn mfc] 25)) w.heap.size [.int .i64 ck, .int .i64 cn, sV cs, .slice cla cln clc, .slice cfa cfn cfc, .slice pao pn pcp, .slice qao qn qcp, .int .i64 gk, .int .i64 gn, sV gs, .slice gla gln glc, .slice gfa gfn gfc, .int .i64 hk, .int .i64 hn, sV hs, .slice hla hln hlc, .slice hfa hfn hfc] 49 ∧ Is (w61.alloc (.cells #[.int .i64 mk, .int .i64 mn, sV ms, .slice mla mln mlc, .slice mfa mfn mfc] 25)) ⟨ck, cn, cs, cla, cln, clc, cfa, cfn, cfc⟩ t ∧ Is (w61.alloc (.cells #[.int .i64 mk, .int .i64 mn, sV ms, .slice mla mln mlc, .slice mfa mfn mfc] 25)) ⟨gk, gn, gs, gla, gln, glc, gfa, gfn, gfc⟩ x ∧ Is (w61.alloc (.cells #[.int .i64 mk, .int .i64 mn, sV ms, .slice mla mln mlc, .slice mfa mfn mfc] 25)) ⟨hk, hn, hs, hla, hln, hlc, hfa, hfn, hfc⟩ y ∧ Stps (w61.alloc (.cells #[.int .i64 mk, .int .i64 mn, sV ms, .slice mla mln mlc, .slice mfa mfn mfc] 25)) (.slice pao pn pcp) p ∧ Stps (w61.alloc (.cells #[.int .i64 mk, .int .i64 mn, sV ms, .slice mla mln mlc, .slice mfa mfn mfc] 25)) (.slice qao qn qcp) q from ⟨below_all HS62.out.1 hbA, HS62.out.2.1.all hbA, HS62.out.2.2.1.all hbA, HS62.out.2.2.2.1.all hbA, HS62.out.2.2.2.2.1.all hbA, Flat.all HS62.out.2.2.2.2.2.1 hbA, Flat.all HS62.out.2.2.2.2.2.2 hbA⟩)
                        have HE67 := Lib.hid (And.intro (HE63.out.1.all hbA) (HE63.out.2.all hbA))
                        have HE68 := Lib.hid (And.intro (HE64.out.1.all hbA) (HE64.out.2.all hbA))
                        have HE69 := Lib.hid (And.intro (HE65.out.1.all hbA) (HE65.out.2.all hbA))
                        clear HS62 HE63 HE64 HE65
                        clear hres hbr hbA hIm hIS
                        go_upto_region 15 with (fail)
                        change Code.wp Tryz.prog _ _ _ (w61.alloc (.cells #[.int .i64 mk, .int .i64 mn, sV ms, .slice mla mln mlc, .slice mfa mfn mfc] 25))
                        generalize (w61.alloc (.cells #[.int .i64 mk, .int .i64 mn, sV ms, .slice mla mln mlc, .slice mfa mfn mfc] 25)) = V70 at *
                        generalize w61.heap.size = bxm at *
                        have z6 := HS66.out.2.1.cell (i := 6) rfl
                        have y0 := HE67.out.1.cell (i := 0) rfl
                        have y1 := HE67.out.1.cell (i := 1) rfl
                        have y2 := HE67.out.1.cell (i := 2) rfl
                        have y3 := HE67.out.1.cell (i := 3) rfl
                        have y4 := HE67.out.1.cell (i := 4) rfl
                        have C := Lib.hid (pathGet_any ⟨rk, rn, rs, rla, rln, rlc, rfa, rfn, rfc⟩ wt _ q V70 HE67.out.2 (by have := HM.out.2.1.2; omega) HS66.out.2.2.2.2.2.2 (by have := HSZ.out.2.2; omega))
                        go_wp2_with fail
                        refine C.out.mono ?_
                        intro e w71 hres
                        clear C
                        clear z6
                        clear y0 y1 y2 y3 y4
                        obtain ⟨⟨lk, ln, ls, lla, lln, llc, lfa, lfn, lfc⟩, hi2, rfl, -, -, hIS⟩ := hres.ok HU.out.1 u HU.out.2
                        have hIl := hIS.is
                        have hbr := hres.below
                        have HS72 := Lib.hid (show Below w.heap.size w w71 ∧ Own w71 w.heap.size [.int .i64 ck, .int .i64 cn, sV cs, .slice cla cln clc, .slice cfa cfn cfc, .slice pao pn pcp, .slice qao qn qcp, .int .i64 gk, .int .i64 gn, sV gs, .slice gla gln glc, .slice gfa gfn gfc, .int .i64 hk, .int .i64 hn, sV hs, .slice hla hln hlc, .slice hfa hfn hfc] 49 ∧ Is w71 ⟨ck, cn, cs, cla, cln, clc, cfa, cfn, cfc⟩ t ∧ Is w71 ⟨gk, gn, gs, gla, gln, glc, gfa, gfn, gfc⟩ x ∧ Is w71 ⟨hk, hn, hs, hla, hln, hlc, hfa, hfn, hfc⟩ y ∧ Stps w71 (.slice pao pn pcp) p ∧ Stps w71 (.slice qao qn qcp) q from ⟨below_all HS66.out.1 hbr, HS66.out.2.1.all hbr, HS66.out.2.2.1.all hbr, HS66.out.2.2.2.1.all hbr, HS66.out.2.2.2.2.1.all hbr, Flat.all HS66.out.2.2.2.2.2.1 hbr, Flat.all HS66.out.2.2.2.2.2.2 hbr⟩)
                        have HE73 := Lib.hid (And.intro (HE67.out.1.all hbr) (HE67.out.2.all hbr))
                        have HE74 := Lib.hid (And.intro (HE68.out.1.all hbr) (HE68.out.2.all hbr))
                        have HE75 := Lib.hid (And.intro (HE69.out.1.all hbr) (HE69.out.2.all hbr))
                        have HE76 := Lib.hid (And.intro (HXm.out.1.all hbr) (HXm.out.2.all hbr))
                        clear HS66 HE67 HE68 HE69 HXm
                        have hbA := below_alloc w71 (.cells #[.int .i64 lk, .int .i64 ln, sV ls, .slice lla lln llc, .slice lfa lfn lfc] 25)
                        have HXl := Lib.hid (And.intro (Own.new w71 [.int .i64 lk, .int .i64 ln, sV ls, .slice lla lln llc, .slice lfa lfn lfc] 25) (hIl.all hbA))
                        have HS77 := Lib.hid (show Below w.heap.size w (w71.alloc (.cells #[.int .i64 lk, .int .i64 ln, sV ls, .slice lla lln llc, .slice lfa lfn lfc] 25)) ∧ Own (w71.alloc (.cells #[.int .i64 lk, .int .i64 ln, sV ls, .slice lla lln llc, .slice lfa lfn lfc] 25)) w.heap.size [.int .i64 ck, .int .i64 cn, sV cs, .slice cla cln clc, .slice cfa cfn cfc, .slice pao pn pcp, .slice qao qn qcp, .int .i64 gk, .int .i64 gn, sV gs, .slice gla gln glc, .slice gfa gfn gfc, .int .i64 hk, .int .i64 hn, sV hs, .slice hla hln hlc, .slice hfa hfn hfc] 49 ∧ Is (w71.alloc (.cells #[.int .i64 lk, .int .i64 ln, sV ls, .slice lla lln llc, .slice lfa lfn lfc] 25)) ⟨ck, cn, cs, cla, cln, clc, cfa, cfn, cfc⟩ t ∧ Is (w71.alloc (.cells #[.int .i64 lk, .int .i64 ln, sV ls, .slice lla lln llc, .slice lfa lfn lfc] 25)) ⟨gk, gn, gs, gla, gln, glc, gfa, gfn, gfc⟩ x ∧ Is (w71.alloc (.cells #[.int .i64 lk, .int .i64 ln, sV ls, .slice lla lln llc, .slice lfa lfn lfc] 25)) ⟨hk, hn, hs, hla, hln, hlc, hfa, hfn, hfc⟩ y ∧ Stps (w71.alloc (.cells #[.int .i64 lk, .int .i64 ln, sV ls, .slice lla lln llc, .slice lfa lfn lfc] 25)) (.slice pao pn pcp) p ∧ Stps (w71.alloc (.cells #[.int .i64 lk, .int .i64 ln, sV ls, .slice lla lln llc, .slice lfa lfn lfc] 25)) (.slice qao qn qcp) q from ⟨below_all HS72.out.1 hbA, HS72.out.2.1.all hbA, HS72.out.2.2.1.all hbA, HS72.out.2.2.2.1.all hbA, HS72.out.2.2.2.2.1.all hbA, Flat.all HS72.out.2.2.2.2.2.1 hbA, Flat.all HS72.out.2.2.2.2.2.2 hbA⟩)
                        have HE78 := Lib.hid (And.intro (HE73.out.1.all hbA) (HE73.out.2.all hbA))
                        have HE79 := Lib.hid (And.intro (HE74.out.1.all hbA) (HE74.out.2.all hbA))
                        have HE80 := Lib.hid (And.intro (HE75.out.1.all hbA) (HE75.out.2.all hbA))
                        have HE81 := Lib.hid (And.intro (HE76.out.1.all hbA) (HE76.out.2.all hbA))
                        clear HS72 HE73 HE74 HE75 HE76
                        clear hres hbr hbA hIl hIS
                        go_upto_region 16 with (fail)
                        change Code.wp Tryz.prog _ _ _ (w71.alloc (.cells #[.int .i64 lk, .int .i64 ln, sV ls, .slice lla lln llc, .slice lfa lfn lfc] 25))
                        generalize (w71.alloc (.cells #[.int .i64 lk, .int .i64 ln, sV ls, .slice lla lln llc, .slice lfa lfn lfc] 25)) = V82 at *
                        generalize w71.heap.size = bxl at *
                        have z0 := HE81.out.1.cell (i := 0) rfl
                        have z1 := HE81.out.1.cell (i := 1) rfl
                        have z2 := HE81.out.1.cell (i := 2) rfl
                        have z3 := HE81.out.1.cell (i := 3) rfl
                        have z4 := HE81.out.1.cell (i := 4) rfl
                        have y0 := HXl.out.1.cell (i := 0) rfl
                        have y1 := HXl.out.1.cell (i := 1) rfl
                        have y2 := HXl.out.1.cell (i := 2) rfl
                        have y3 := HXl.out.1.cell (i := 3) rfl
                        have y4 := HXl.out.1.cell (i := 4) rfl
                        have C := Lib.hid (alike_any _ u (Nat.le_refl _) ⟨mk, mn, ms, mla, mln, mlc, mfa, mfn, mfc⟩ ⟨lk, ln, ls, lla, lln, llc, lfa, lfn, lfc⟩ V82 HE81.out.2 HXl.out.2)
                        go_wp2_with fail
                        refine C.out.mono ?_
                        rintro e w83 ⟨rfl, hb⟩
                        clear C
                        clear z0 z1 z2 z3 z4
                        clear y0 y1 y2 y3 y4
                        have HBe := Lib.hid (below_all HS77.out.1 hb)
                        clear hb
                        have CL := Lib.hid (plives_any w83)
                        go_wp2_with fail
                        refine CL.out.mono ?_
                        rintro e wl ⟨rfl, hbl⟩
                        have HBl := Lib.hid (below_all HBe.out hbl)
                        clear CL hbl
                        go_wp2
                        go_ret
                        exact ⟨rfl, HBl.out⟩
                      · skip
                        have hno : pathOk q = true → findT t q = none := fun h => by
                          cases hq : findT t q with
                          | none => rfl
                          | some u => exact absurd ⟨h, u, hq⟩ hgot
                        obtain rfl := hres.no hno
                        have hIm := is_zero w61
                        have HU : Hid (pathOk q = true → findT wt q = none) := Lib.hid (fun h => (HOT.out h).trans (hno h))
                        clear hgot hno HOT
                        have hbr := hres.below
                        have HS84 := Lib.hid (show Below w.heap.size w w61 ∧ Own w61 w.heap.size [.int .i64 ck, .int .i64 cn, sV cs, .slice cla cln clc, .slice cfa cfn cfc, .slice pao pn pcp, .slice qao qn qcp, .int .i64 gk, .int .i64 gn, sV gs, .slice gla gln glc, .slice gfa gfn gfc, .int .i64 hk, .int .i64 hn, sV hs, .slice hla hln hlc, .slice hfa hfn hfc] 49 ∧ Is w61 ⟨ck, cn, cs, cla, cln, clc, cfa, cfn, cfc⟩ t ∧ Is w61 ⟨gk, gn, gs, gla, gln, glc, gfa, gfn, gfc⟩ x ∧ Is w61 ⟨hk, hn, hs, hla, hln, hlc, hfa, hfn, hfc⟩ y ∧ Stps w61 (.slice pao pn pcp) p ∧ Stps w61 (.slice qao qn qcp) q from ⟨below_all HS57.out.1 hbr, HS57.out.2.1.all hbr, HS57.out.2.2.1.all hbr, HS57.out.2.2.2.1.all hbr, HS57.out.2.2.2.2.1.all hbr, Flat.all HS57.out.2.2.2.2.2.1 hbr, Flat.all HS57.out.2.2.2.2.2.2 hbr⟩)
                        have HE85 := Lib.hid (And.intro (HE58.out.1.all hbr) (HE58.out.2.all hbr))
                        have HE86 := Lib.hid (And.intro (HE59.out.1.all hbr) (HE59.out.2.all hbr))
                        have HE87 := Lib.hid (And.intro (HE60.out.1.all hbr) (HE60.out.2.all hbr))
                        clear HS57 HE58 HE59 HE60
                        have hbA := below_alloc w61 (.cells #[.int .i64 0, .int .i64 0, .string ⟨#[]⟩, .slice none 0 0, .slice none 0 0] 25)
                        have HXm := Lib.hid (And.intro (Own.new w61 [.int .i64 0, .int .i64 0, .string ⟨#[]⟩, .slice none 0 0, .slice none 0 0] 25) (hIm.all hbA))
                        have HS88 := Lib.hid (show Below w.heap.size w (w61.alloc (.cells #[.int .i64 0, .int .i64 0, .string ⟨#[]⟩, .slice none 0 0, .slice none 0 0] 25)) ∧ Own (w61.alloc (.cells #[.int .i64 0, .int .i64 0, .string ⟨#[]⟩, .slice none 0 0, .slice none 0 0] 25)) w.heap.size [.int .i64 ck, .int .i64 cn, sV cs, .slice cla cln clc, .slice cfa cfn cfc, .slice pao pn pcp, .slice qao qn qcp, .int .i64 gk, .int .i64 gn, sV gs, .slice gla gln glc, .slice gfa gfn gfc, .int .i64 hk, .int .i64 hn, sV hs, .slice hla hln hlc, .slice hfa hfn hfc] 49 ∧ Is (w61.alloc (.cells #[.int .i64 0, .int .i64 0, .string ⟨#[]⟩, .slice none 0 0, .slice none 0 0] 25)) ⟨ck, cn, cs, cla, cln, clc, cfa, cfn, cfc⟩ t ∧ Is (w61.alloc (.cells #[.int .i64 0, .int .i64 0, .string ⟨#[]⟩, .slice none 0 0, .slice none 0 0] 25)) ⟨gk, gn, gs, gla, gln, glc, gfa, gfn, gfc⟩ x ∧ Is (w61.alloc (.cells #[.int .i64 0, .int .i64 0, .string ⟨#[]⟩, .slice none 0 0, .slice none 0 0] 25)) ⟨hk, hn, hs, hla, hln, hlc, hfa, hfn, hfc⟩ y ∧ Stps (w61.alloc (.cells #[.int .i64 0, .int .i64 0, .string ⟨#[]⟩, .slice none 0 0, .slice none 0 0] 25)) (.slice pao pn pcp) p ∧ Stps (w61.alloc (.cells #[.int .i64 0, .int .i64 0, .string ⟨#[]⟩, .slice none 0 0, .slice none 0 0] 25)) (.slice qao qn qcp) q from ⟨below_all HS84.out.1 hbA, HS84.out.2.1.all hbA, HS84.out.2.2.1.all hbA, HS84.out.2.2.2.1.all hbA, HS84.out.2.2.2.2.1.all hbA, Flat.all HS84.out.2.2.2.2.2.1 hbA, Flat.all HS84.out.2.2.2.2.2.2 hbA⟩)
                        have HE89 := Lib.hid (And.intro (HE85.out.1.all hbA) (HE85.out.2.all hbA))
                        have HE90 := Lib.hid (And.intro (HE86.out.1.all hbA) (HE86.out.2.all hbA))
                        have HE91 := Lib.hid (And.intro (HE87.out.1.all hbA) (HE87.out.2.all hbA))
                        clear HS84 HE85 HE86 HE87
                        clear hres hbr hbA hIm
                        go_upto_region 15 with (fail)
                        change Code.wp Tryz.prog _ _ _ (w61.alloc (.cells #[.int .i64 0, .int .i64 0, .string ⟨#[]⟩, .slice none 0 0, .slice none 0 0] 25))
                        generalize (w61.alloc (.cells #[.int .i64 0, .int .i64 0, .string ⟨#[]⟩, .slice none 0 0, .slice none 0 0] 25)) = V92 at *
                        generalize w61.heap.size = bxm at *
                        have z6 := HS88.out.2.1.cell (i := 6) rfl
                        have y0 := HE89.out.1.cell (i := 0) rfl
                        have y1 := HE89.out.1.cell (i := 1) rfl
                        have y2 := HE89.out.1.cell (i := 2) rfl
                        have y3 := HE89.out.1.cell (i := 3) rfl
                        have y4 := HE89.out.1.cell (i := 4) rfl
                        have C := Lib.hid (pathGet_any ⟨rk, rn, rs, rla, rln, rlc, rfa, rfn, rfc⟩ wt _ q V92 HE89.out.2 (by have := HM.out.2.1.2; omega) HS88.out.2.2.2.2.2.2 (by have := HSZ.out.2.2; omega))
                        go_wp2_with fail
                        refine C.out.mono ?_
                        intro e w93 hres
                        clear C
                        clear z6
                        clear y0 y1 y2 y3 y4
                        obtain rfl := hres.no HU.out
                        have hIl := is_zero w93
                        have hbr := hres.below
                        have HS94 := Lib.hid (show Below w.heap.size w w93 ∧ Own w93 w.heap.size [.int .i64 ck, .int .i64 cn, sV cs, .slice cla cln clc, .slice cfa cfn cfc, .slice pao pn pcp, .slice qao qn qcp, .int .i64 gk, .int .i64 gn, sV gs, .slice gla gln glc, .slice gfa gfn gfc, .int .i64 hk, .int .i64 hn, sV hs, .slice hla hln hlc, .slice hfa hfn hfc] 49 ∧ Is w93 ⟨ck, cn, cs, cla, cln, clc, cfa, cfn, cfc⟩ t ∧ Is w93 ⟨gk, gn, gs, gla, gln, glc, gfa, gfn, gfc⟩ x ∧ Is w93 ⟨hk, hn, hs, hla, hln, hlc, hfa, hfn, hfc⟩ y ∧ Stps w93 (.slice pao pn pcp) p ∧ Stps w93 (.slice qao qn qcp) q from ⟨below_all HS88.out.1 hbr, HS88.out.2.1.all hbr, HS88.out.2.2.1.all hbr, HS88.out.2.2.2.1.all hbr, HS88.out.2.2.2.2.1.all hbr, Flat.all HS88.out.2.2.2.2.2.1 hbr, Flat.all HS88.out.2.2.2.2.2.2 hbr⟩)
                        have HE95 := Lib.hid (And.intro (HE89.out.1.all hbr) (HE89.out.2.all hbr))
                        have HE96 := Lib.hid (And.intro (HE90.out.1.all hbr) (HE90.out.2.all hbr))
                        have HE97 := Lib.hid (And.intro (HE91.out.1.all hbr) (HE91.out.2.all hbr))
                        have HE98 := Lib.hid (And.intro (HXm.out.1.all hbr) (HXm.out.2.all hbr))
                        clear HS88 HE89 HE90 HE91 HXm
                        have hbA := below_alloc w93 (.cells #[.int .i64 0, .int .i64 0, .string ⟨#[]⟩, .slice none 0 0, .slice none 0 0] 25)
                        have HXl := Lib.hid (And.intro (Own.new w93 [.int .i64 0, .int .i64 0, .string ⟨#[]⟩, .slice none 0 0, .slice none 0 0] 25) (hIl.all hbA))
                        have HS99 := Lib.hid (show Below w.heap.size w (w93.alloc (.cells #[.int .i64 0, .int .i64 0, .string ⟨#[]⟩, .slice none 0 0, .slice none 0 0] 25)) ∧ Own (w93.alloc (.cells #[.int .i64 0, .int .i64 0, .string ⟨#[]⟩, .slice none 0 0, .slice none 0 0] 25)) w.heap.size [.int .i64 ck, .int .i64 cn, sV cs, .slice cla cln clc, .slice cfa cfn cfc, .slice pao pn pcp, .slice qao qn qcp, .int .i64 gk, .int .i64 gn, sV gs, .slice gla gln glc, .slice gfa gfn gfc, .int .i64 hk, .int .i64 hn, sV hs, .slice hla hln hlc, .slice hfa hfn hfc] 49 ∧ Is (w93.alloc (.cells #[.int .i64 0, .int .i64 0, .string ⟨#[]⟩, .slice none 0 0, .slice none 0 0] 25)) ⟨ck, cn, cs, cla, cln, clc, cfa, cfn, cfc⟩ t ∧ Is (w93.alloc (.cells #[.int .i64 0, .int .i64 0, .string ⟨#[]⟩, .slice none 0 0, .slice none 0 0] 25)) ⟨gk, gn, gs, gla, gln, glc, gfa, gfn, gfc⟩ x ∧ Is (w93.alloc (.cells #[.int .i64 0, .int .i64 0, .string ⟨#[]⟩, .slice none 0 0, .slice none 0 0] 25)) ⟨hk, hn, hs, hla, hln, hlc, hfa, hfn, hfc⟩ y ∧ Stps (w93.alloc (.cells #[.int .i64 0, .int .i64 0, .string ⟨#[]⟩, .slice none 0 0, .slice none 0 0] 25)) (.slice pao pn pcp) p ∧ Stps (w93.alloc (.cells #[.int .i64 0, .int .i64 0, .string ⟨#[]⟩, .slice none 0 0, .slice none 0 0] 25)) (.slice qao qn qcp) q from ⟨below_all HS94.out.1 hbA, HS94.out.2.1.all hbA, HS94.out.2.2.1.all hbA, HS94.out.2.2.2.1.all hbA, HS94.out.2.2.2.2.1.all hbA, Flat.all HS94.out.2.2.2.2.2.1 hbA, Flat.all HS94.out.2.2.2.2.2.2 hbA⟩)
                        have HE100 := Lib.hid (And.intro (HE95.out.1.all hbA) (HE95.out.2.all hbA))
                        have HE101 := Lib.hid (And.intro (HE96.out.1.all hbA) (HE96.out.2.all hbA))
                        have HE102 := Lib.hid (And.intro (HE97.out.1.all hbA) (HE97.out.2.all hbA))
                        have HE103 := Lib.hid (And.intro (HE98.out.1.all hbA) (HE98.out.2.all hbA))
                        clear HS94 HE95 HE96 HE97 HE98
                        clear hres hbr hbA hIl
                        go_upto_region 16 with (fail)
                        change Code.wp Tryz.prog _ _ _ (w93.alloc (.cells #[.int .i64 0, .int .i64 0, .string ⟨#[]⟩, .slice none 0 0, .slice none 0 0] 25))
                        generalize (w93.alloc (.cells #[.int .i64 0, .int .i64 0, .string ⟨#[]⟩, .slice none 0 0, .slice none 0 0] 25)) = V104 at *
                        generalize w93.heap.size = bxl at *
                        have z0 := HE103.out.1.cell (i := 0) rfl
                        have z1 := HE103.out.1.cell (i := 1) rfl
                        have z2 := HE103.out.1.cell (i := 2) rfl
                        have z3 := HE103.out.1.cell (i := 3) rfl
                        have z4 := HE103.out.1.cell (i := 4) rfl
                        have y0 := HXl.out.1.cell (i := 0) rfl
                        have y1 := HXl.out.1.cell (i := 1) rfl
                        have y2 := HXl.out.1.cell (i := 2) rfl
                        have y3 := HXl.out.1.cell (i := 3) rfl
                        have y4 := HXl.out.1.cell (i := 4) rfl
                        have C := Lib.hid (alike_any _ T0 (Nat.le_refl _) ⟨0, 0, [], none, 0, 0, none, 0, 0⟩ ⟨0, 0, [], none, 0, 0, none, 0, 0⟩ V104 HE103.out.2 HXl.out.2)
                        go_wp2_with fail
                        refine C.out.mono ?_
                        rintro e w105 ⟨rfl, hb⟩
                        clear C
                        clear z0 z1 z2 z3 z4
                        clear y0 y1 y2 y3 y4
                        have HBe := Lib.hid (below_all HS99.out.1 hb)
                        clear hb
                        have CL := Lib.hid (plives_any w105)
                        go_wp2_with fail
                        refine CL.out.mono ?_
                        rintro e wl ⟨rfl, hbl⟩
                        have HBl := Lib.hid (below_all HBe.out hbl)
                        clear CL hbl
                        go_wp2
                        go_ret
                        exact ⟨rfl, HBl.out⟩
            by_cases hg : cdd = 0
            case neg =>
              have hg2 : (cdd == 0) = false := by rw [beq_eq_false_iff_ne]; exact hg
              subst hf
              have z5 := HS37.out.2.1.cell (i := 5) rfl
              have C := Lib.hid (plain_any _ p V40 HS37.out.2.2.2.2.2.1)
              obtain ⟨P1, hB⟩ : ∃ B, plainOk p = B := ⟨_, rfl⟩
              rw [hB] at C
              have HP1 := Lib.hid hB
              clear hB
              go_wp2_with fail
              refine C.out.mono ?_
              rintro e w106 ⟨rfl, hb⟩
              have HS107 := Lib.hid (show Below w.heap.size w w106 ∧ Own w106 w.heap.size [.int .i64 ck, .int .i64 cn, sV cs, .slice cla cln clc, .slice cfa cfn cfc, .slice pao pn pcp, .slice qao qn qcp, .int .i64 gk, .int .i64 gn, sV gs, .slice gla gln glc, .slice gfa gfn gfc, .int .i64 hk, .int .i64 hn, sV hs, .slice hla hln hlc, .slice hfa hfn hfc] 49 ∧ Is w106 ⟨ck, cn, cs, cla, cln, clc, cfa, cfn, cfc⟩ t ∧ Is w106 ⟨gk, gn, gs, gla, gln, glc, gfa, gfn, gfc⟩ x ∧ Is w106 ⟨hk, hn, hs, hla, hln, hlc, hfa, hfn, hfc⟩ y ∧ Stps w106 (.slice pao pn pcp) p ∧ Stps w106 (.slice qao qn qcp) q from ⟨below_all HS37.out.1 hb, HS37.out.2.1.all hb, HS37.out.2.2.1.all hb, HS37.out.2.2.2.1.all hb, HS37.out.2.2.2.2.1.all hb, Flat.all HS37.out.2.2.2.2.2.1 hb, Flat.all HS37.out.2.2.2.2.2.2 hb⟩)
              have HE108 := Lib.hid (And.intro (HE38.out.1.all hb) (HE38.out.2.all hb))
              have HE109 := Lib.hid (And.intro (HE39.out.1.all hb) (HE39.out.2.all hb))
              have HE110 := Lib.hid (And.intro (HXd.out.1.all hb) (HXd.out.2.all hb))
              clear HS37 HE38 HE39 HXd
              clear C hb
              clear z5
              cases P1 with
              | false =>
                have CL := Lib.hid (plives_any w106)
                go_wp2_with fail
                refine CL.out.mono ?_
                rintro e wl ⟨rfl, hbl⟩
                have HBl := Lib.hid (below_all HS107.out.1 hbl)
                clear CL hbl
                go_wp2
                go_ret
                exact ⟨rfl, HBl.out⟩
              | true =>
                have z6 := HS107.out.2.1.cell (i := 6) rfl
                have C := Lib.hid (plain_any _ q w106 HS107.out.2.2.2.2.2.2)
                obtain ⟨P2, hB⟩ : ∃ B, plainOk q = B := ⟨_, rfl⟩
                rw [hB] at C
                have HP2 := Lib.hid hB
                clear hB
                go_wp2_with fail
                refine C.out.mono ?_
                rintro e w111 ⟨rfl, hb⟩
                have HS112 := Lib.hid (show Below w.heap.size w w111 ∧ Own w111 w.heap.size [.int .i64 ck, .int .i64 cn, sV cs, .slice cla cln clc, .slice cfa cfn cfc, .slice pao pn pcp, .slice qao qn qcp, .int .i64 gk, .int .i64 gn, sV gs, .slice gla gln glc, .slice gfa gfn gfc, .int .i64 hk, .int .i64 hn, sV hs, .slice hla hln hlc, .slice hfa hfn hfc] 49 ∧ Is w111 ⟨ck, cn, cs, cla, cln, clc, cfa, cfn, cfc⟩ t ∧ Is w111 ⟨gk, gn, gs, gla, gln, glc, gfa, gfn, gfc⟩ x ∧ Is w111 ⟨hk, hn, hs, hla, hln, hlc, hfa, hfn, hfc⟩ y ∧ Stps w111 (.slice pao pn pcp) p ∧ Stps w111 (.slice qao qn qcp) q from ⟨below_all HS107.out.1 hb, HS107.out.2.1.all hb, HS107.out.2.2.1.all hb, HS107.out.2.2.2.1.all hb, HS107.out.2.2.2.2.1.all hb, Flat.all HS107.out.2.2.2.2.2.1 hb, Flat.all HS107.out.2.2.2.2.2.2 hb⟩)
                have HE113 := Lib.hid (And.intro (HE108.out.1.all hb) (HE108.out.2.all hb))
                have HE114 := Lib.hid (And.intro (HE109.out.1.all hb) (HE109.out.2.all hb))
                have HE115 := Lib.hid (And.intro (HE110.out.1.all hb) (HE110.out.2.all hb))
                clear HS107 HE108 HE109 HE110
                clear C hb
                clear z6
                cases P2 with
                | false =>
                  have CL := Lib.hid (plives_any w111)
                  go_wp2_with fail
                  refine CL.out.mono ?_
                  rintro e wl ⟨rfl, hbl⟩
                  have HBl := Lib.hid (below_all HS112.out.1 hbl)
                  clear CL hbl
                  go_wp2
                  go_ret
                  exact ⟨rfl, HBl.out⟩
                | true =>
                  have z5 := HS112.out.2.1.cell (i := 5) rfl
                  have z6 := HS112.out.2.1.cell (i := 6) rfl
                  have C := Lib.hid (hasPrefix_any _ _ p q w111 HS112.out.2.2.2.2.2.1 HS112.out.2.2.2.2.2.2 (by have := HSZ.out.2.1; omega) (by have := HSZ.out.2.2; omega))
                  obtain ⟨P3, hB⟩ : ∃ B, hasPre p q = B := ⟨_, rfl⟩
                  rw [hB] at C
                  have HP3 := Lib.hid hB
                  clear hB
                  go_wp2_with fail
                  refine C.out.mono ?_
                  rintro e w116 ⟨rfl, hb⟩
                  have HS117 := Lib.hid (show Below w.heap.size w w116 ∧ Own w116 w.heap.size [.int .i64 ck, .int .i64 cn, sV cs, .slice cla cln clc, .slice cfa cfn cfc, .slice pao pn pcp, .slice qao qn qcp, .int .i64 gk, .int .i64 gn, sV gs, .slice gla gln glc, .slice gfa gfn gfc, .int .i64 hk, .int .i64 hn, sV hs, .slice hla hln hlc, .slice hfa hfn hfc] 49 ∧ Is w116 ⟨ck, cn, cs, cla, cln, clc, cfa, cfn, cfc⟩ t ∧ Is w116 ⟨gk, gn, gs, gla, gln, glc, gfa, gfn, gfc⟩ x ∧ Is w116 ⟨hk, hn, hs, hla, hln, hlc, hfa, hfn, hfc⟩ y ∧ Stps w116 (.slice pao pn pcp) p ∧ Stps w116 (.slice qao qn qcp) q from ⟨below_all HS112.out.1 hb, HS112.out.2.1.all hb, HS112.out.2.2.1.all hb, HS112.out.2.2.2.1.all hb, HS112.out.2.2.2.2.1.all hb, Flat.all HS112.out.2.2.2.2.2.1 hb, Flat.all HS112.out.2.2.2.2.2.2 hb⟩)
                  have HE118 := Lib.hid (And.intro (HE113.out.1.all hb) (HE113.out.2.all hb))
                  have HE119 := Lib.hid (And.intro (HE114.out.1.all hb) (HE114.out.2.all hb))
                  have HE120 := Lib.hid (And.intro (HE115.out.1.all hb) (HE115.out.2.all hb))
                  clear HS112 HE113 HE114 HE115
                  clear C hb
                  clear z5 z6
                  cases P3 with
                  | true =>
                    have CL := Lib.hid (plives_any w116)
                    go_wp2_with fail
                    refine CL.out.mono ?_
                    rintro e wl ⟨rfl, hbl⟩
                    have HBl := Lib.hid (below_all HS117.out.1 hbl)
                    clear CL hbl
                    go_wp2
                    go_ret
                    exact ⟨rfl, HBl.out⟩
                  | false =>
                    have z5 := HS117.out.2.1.cell (i := 5) rfl
                    have z6 := HS117.out.2.1.cell (i := 6) rfl
                    have C := Lib.hid (hasPrefix_any _ _ q p w116 HS117.out.2.2.2.2.2.2 HS117.out.2.2.2.2.2.1 (by have := HSZ.out.2.2; omega) (by have := HSZ.out.2.1; omega))
                    obtain ⟨P4, hB⟩ : ∃ B, hasPre q p = B := ⟨_, rfl⟩
                    rw [hB] at C
                    have HP4 := Lib.hid hB
                    clear hB
                    go_wp2_with fail
                    refine C.out.mono ?_
                    rintro e w121 ⟨rfl, hb⟩
                    have HS122 := Lib.hid (show Below w.heap.size w w121 ∧ Own w121 w.heap.size [.int .i64 ck, .int .i64 cn, sV cs, .slice cla cln clc, .slice cfa cfn cfc, .slice pao pn pcp, .slice qao qn qcp, .int .i64 gk, .int .i64 gn, sV gs, .slice gla gln glc, .slice gfa gfn gfc, .int .i64 hk, .int .i64 hn, sV hs, .slice hla hln hlc, .slice hfa hfn hfc] 49 ∧ Is w121 ⟨ck, cn, cs, cla, cln, clc, cfa, cfn, cfc⟩ t ∧ Is w121 ⟨gk, gn, gs, gla, gln, glc, gfa, gfn, gfc⟩ x ∧ Is w121 ⟨hk, hn, hs, hla, hln, hlc, hfa, hfn, hfc⟩ y ∧ Stps w121 (.slice pao pn pcp) p ∧ Stps w121 (.slice qao qn qcp) q from ⟨below_all HS117.out.1 hb, HS117.out.2.1.all hb, HS117.out.2.2.1.all hb, HS117.out.2.2.2.1.all hb, HS117.out.2.2.2.2.1.all hb, Flat.all HS117.out.2.2.2.2.2.1 hb, Flat.all HS117.out.2.2.2.2.2.2 hb⟩)
                    have HE123 := Lib.hid (And.intro (HE118.out.1.all hb) (HE118.out.2.all hb))
                    have HE124 := Lib.hid (And.intro (HE119.out.1.all hb) (HE119.out.2.all hb))
                    have HE125 := Lib.hid (And.intro (HE120.out.1.all hb) (HE120.out.2.all hb))
                    clear HS117 HE118 HE119 HE120
                    clear C hb
                    clear z5 z6
                    cases P4 with
                    | true =>
                      have CL := Lib.hid (plives_any w121)
                      go_wp2_with fail
                      refine CL.out.mono ?_
                      rintro e wl ⟨rfl, hbl⟩
                      have HBl := Lib.hid (below_all HS122.out.1 hbl)
                      clear CL hbl
                      go_wp2
                      go_ret
                      exact ⟨rfl, HBl.out⟩
                    | false =>
                      have HOT : Hid (pathOk q = true → findT wt q = findT t q) := Lib.hid (fun h => HM.out.2.2.2.2 h (plainOk_iff HP1.out) (plainOk_iff HP2.out) (hasPre_no HP4.out) (hasPre_no HP3.out))
                      have z0 := HS122.out.2.1.cell (i := 0) rfl
                      have z1 := HS122.out.2.1.cell (i := 1) rfl
                      have z2 := HS122.out.2.1.cell (i := 2) rfl
                      have z3 := HS122.out.2.1.cell (i := 3) rfl
                      have z4 := HS122.out.2.1.cell (i := 4) rfl
                      have z6 := HS122.out.2.1.cell (i := 6) rfl
                      have C := Lib.hid (pathGet_any ⟨ck, cn, cs, cla, cln, clc, cfa, cfn, cfc⟩ t _ q w121 HS122.out.2.2.1 (by have := HSZ.out.1; omega) HS122.out.2.2.2.2.2.2 (by have := HSZ.out.2.2; omega))
                      go_wp2_with fail
                      refine C.out.mono ?_
                      intro e w126 hres
                      clear C
                      clear z0 z1 z2 z3 z4 z6
                      by_cases hgot : pathOk q = true ∧ ∃ u, findT t q = some u
                      · skip
                        obtain ⟨hqok, u, hfu⟩ := hgot
                        obtain ⟨⟨mk, mn, ms, mla, mln, mlc, mfa, mfn, mfc⟩, hi, rfl, -, -, hIS⟩ := hres.ok hqok u hfu
                        have hIm := hIS.is
                        have hfw := (HOT.out hqok).trans hfu
                        have HU := Lib.hid (And.intro hqok hfw)
                        clear hqok hfu hfw HOT
                        have hbr := hres.below
                        have HS127 := Lib.hid (show Below w.heap.size w w126 ∧ Own w126 w.heap.size [.int .i64 ck, .int .i64 cn, sV cs, .slice cla cln clc, .slice cfa cfn cfc, .slice pao pn pcp, .slice qao qn qcp, .int .i64 gk, .int .i64 gn, sV gs, .slice gla gln glc, .slice gfa gfn gfc, .int .i64 hk, .int .i64 hn, sV hs, .slice hla hln hlc, .slice hfa hfn hfc] 49 ∧ Is w126 ⟨ck, cn, cs, cla, cln, clc, cfa, cfn, cfc⟩ t ∧ Is w126 ⟨gk, gn, gs, gla, gln, glc, gfa, gfn, gfc⟩ x ∧ Is w126 ⟨hk, hn, hs, hla, hln, hlc, hfa, hfn, hfc⟩ y ∧ Stps w126 (.slice pao pn pcp) p ∧ Stps w126 (.slice qao qn qcp) q from ⟨below_all HS122.out.1 hbr, HS122.out.2.1.all hbr, HS122.out.2.2.1.all hbr, HS122.out.2.2.2.1.all hbr, HS122.out.2.2.2.2.1.all hbr, Flat.all HS122.out.2.2.2.2.2.1 hbr, Flat.all HS122.out.2.2.2.2.2.2 hbr⟩)
                        have HE128 := Lib.hid (And.intro (HE123.out.1.all hbr) (HE123.out.2.all hbr))
                        have HE129 := Lib.hid (And.intro (HE124.out.1.all hbr) (HE124.out.2.all hbr))
                        have HE130 := Lib.hid (And.intro (HE125.out.1.all hbr) (HE125.out.2.all hbr))
                        clear HS122 HE123 HE124 HE125
                        have hbA := below_alloc w126 (.cells #[.int .i64 mk, .int .i64 mn, sV ms, .slice mla mln mlc, .slice mfa mfn mfc] 25)
                        have HXm := Lib.hid (And.intro (Own.new w126 [.int .i64 mk, .int .i64 mn, sV ms, .slice mla mln mlc, .slice mfa mfn mfc] 25) (hIm.all hbA))
                        have HS131 := Lib.hid (show Below w.heap.size w (w126.alloc (.cells #[.int .i64 mk, .int .i64 mn, sV ms, .slice mla mln mlc, .slice mfa mfn mfc] 25)) ∧ Own (w126.alloc (.cells #[.int .i64 mk, .int .i64 mn, sV ms, .slice mla mln mlc, .slice mfa mfn mfc] 25)) w.heap.size [.int .i64 ck, .int .i64 cn, sV cs, .slice cla cln clc, .slice cfa cfn cfc, .slice pao pn pcp, .slice qao qn qcp, .int .i64 gk, .int .i64 gn, sV gs, .slice gla gln glc, .slice gfa gfn gfc, .int .i64 hk, .int .i64 hn, sV hs, .slice hla hln hlc, .slice hfa hfn hfc] 49 ∧ Is (w126.alloc (.cells #[.int .i64 mk, .int .i64 mn, sV ms, .slice mla mln mlc, .slice mfa mfn mfc] 25)) ⟨ck, cn, cs, cla, cln, clc, cfa, cfn, cfc⟩ t ∧ Is (w126.alloc (.cells #[.int .i64 mk, .int .i64 mn, sV ms, .slice mla mln mlc, .slice mfa mfn mfc] 25)) ⟨gk, gn, gs, gla, gln, glc, gfa, gfn, gfc⟩ x ∧ Is (w126.alloc (.cells #[.int .i64 mk, .int .i64 mn, sV ms, .slice mla mln mlc, .slice mfa mfn mfc] 25)) ⟨hk, hn, hs, hla, hln, hlc, hfa, hfn, hfc⟩ y ∧ Stps (w126.alloc (.cells #[.int .i64 mk, .int .i64 mn, sV ms, .slice mla mln mlc, .slice mfa mfn mfc] 25)) (.slice pao pn pcp) p ∧ Stps (w126.alloc (.cells #[.int .i64 mk, .int .i64 mn, sV ms, .slice mla mln mlc, .slice mfa mfn mfc] 25)) (.slice qao qn qcp) q from ⟨below_all HS127.out.1 hbA, HS127.out.2.1.all hbA, HS127.out.2.2.1.all hbA, HS127.out.2.2.2.1.all hbA, HS127.out.2.2.2.2.1.all hbA, Flat.all HS127.out.2.2.2.2.2.1 hbA, Flat.all HS127.out.2.2.2.2.2.2 hbA⟩)
                        have HE132 := Lib.hid (And.intro (HE128.out.1.all hbA) (HE128.out.2.all hbA))
                        have HE133 := Lib.hid (And.intro (HE129.out.1.all hbA) (HE129.out.2.all hbA))
                        have HE134 := Lib.hid (And.intro (HE130.out.1.all hbA) (HE130.out.2.all hbA))
                        clear HS127 HE128 HE129 HE130
                        clear hres hbr hbA hIm hIS
                        go_upto_region 15 with (fail)
                        change Code.wp Tryz.prog _ _ _ (w126.alloc (.cells #[.int .i64 mk, .int .i64 mn, sV ms, .slice mla mln mlc, .slice mfa mfn mfc] 25))
                        generalize (w126.alloc (.cells #[.int .i64 mk, .int .i64 mn, sV ms, .slice mla mln mlc, .slice mfa mfn mfc] 25)) = V135 at *
                        generalize w126.heap.size = bxm at *
                        have z6 := HS131.out.2.1.cell (i := 6) rfl
                        have y0 := HE132.out.1.cell (i := 0) rfl
                        have y1 := HE132.out.1.cell (i := 1) rfl
                        have y2 := HE132.out.1.cell (i := 2) rfl
                        have y3 := HE132.out.1.cell (i := 3) rfl
                        have y4 := HE132.out.1.cell (i := 4) rfl
                        have C := Lib.hid (pathGet_any ⟨rk, rn, rs, rla, rln, rlc, rfa, rfn, rfc⟩ wt _ q V135 HE132.out.2 (by have := HM.out.2.1.2; omega) HS131.out.2.2.2.2.2.2 (by have := HSZ.out.2.2; omega))
                        go_wp2_with fail
                        refine C.out.mono ?_
                        intro e w136 hres
                        clear C
                        clear z6
                        clear y0 y1 y2 y3 y4
                        obtain ⟨⟨lk, ln, ls, lla, lln, llc, lfa, lfn, lfc⟩, hi2, rfl, -, -, hIS⟩ := hres.ok HU.out.1 u HU.out.2
                        have hIl := hIS.is
                        have hbr := hres.below
                        have HS137 := Lib.hid (show Below w.heap.size w w136 ∧ Own w136 w.heap.size [.int .i64 ck, .int .i64 cn, sV cs, .slice cla cln clc, .slice cfa cfn cfc, .slice pao pn pcp, .slice qao qn qcp, .int .i64 gk, .int .i64 gn, sV gs, .slice gla gln glc, .slice gfa gfn gfc, .int .i64 hk, .int .i64 hn, sV hs, .slice hla hln hlc, .slice hfa hfn hfc] 49 ∧ Is w136 ⟨ck, cn, cs, cla, cln, clc, cfa, cfn, cfc⟩ t ∧ Is w136 ⟨gk, gn, gs, gla, gln, glc, gfa, gfn, gfc⟩ x ∧ Is w136 ⟨hk, hn, hs, hla, hln, hlc, hfa, hfn, hfc⟩ y ∧ Stps w136 (.slice pao pn pcp) p ∧ Stps w136 (.slice qao qn qcp) q from ⟨below_all HS131.out.1 hbr, HS131.out.2.1.all hbr, HS131.out.2.2.1.all hbr, HS131.out.2.2.2.1.all hbr, HS131.out.2.2.2.2.1.all hbr, Flat.all HS131.out.2.2.2.2.2.1 hbr, Flat.all HS131.out.2.2.2.2.2.2 hbr⟩)
                        have HE138 := Lib.hid (And.intro (HE132.out.1.all hbr) (HE132.out.2.all hbr))
                        have HE139 := Lib.hid (And.intro (HE133.out.1.all hbr) (HE133.out.2.all hbr))
                        have HE140 := Lib.hid (And.intro (HE134.out.1.all hbr) (HE134.out.2.all hbr))
                        have HE141 := Lib.hid (And.intro (HXm.out.1.all hbr) (HXm.out.2.all hbr))
                        clear HS131 HE132 HE133 HE134 HXm
                        have hbA := below_alloc w136 (.cells #[.int .i64 lk, .int .i64 ln, sV ls, .slice lla lln llc, .slice lfa lfn lfc] 25)
                        have HXl := Lib.hid (And.intro (Own.new w136 [.int .i64 lk, .int .i64 ln, sV ls, .slice lla lln llc, .slice lfa lfn lfc] 25) (hIl.all hbA))
                        have HS142 := Lib.hid (show Below w.heap.size w (w136.alloc (.cells #[.int .i64 lk, .int .i64 ln, sV ls, .slice lla lln llc, .slice lfa lfn lfc] 25)) ∧ Own (w136.alloc (.cells #[.int .i64 lk, .int .i64 ln, sV ls, .slice lla lln llc, .slice lfa lfn lfc] 25)) w.heap.size [.int .i64 ck, .int .i64 cn, sV cs, .slice cla cln clc, .slice cfa cfn cfc, .slice pao pn pcp, .slice qao qn qcp, .int .i64 gk, .int .i64 gn, sV gs, .slice gla gln glc, .slice gfa gfn gfc, .int .i64 hk, .int .i64 hn, sV hs, .slice hla hln hlc, .slice hfa hfn hfc] 49 ∧ Is (w136.alloc (.cells #[.int .i64 lk, .int .i64 ln, sV ls, .slice lla lln llc, .slice lfa lfn lfc] 25)) ⟨ck, cn, cs, cla, cln, clc, cfa, cfn, cfc⟩ t ∧ Is (w136.alloc (.cells #[.int .i64 lk, .int .i64 ln, sV ls, .slice lla lln llc, .slice lfa lfn lfc] 25)) ⟨gk, gn, gs, gla, gln, glc, gfa, gfn, gfc⟩ x ∧ Is (w136.alloc (.cells #[.int .i64 lk, .int .i64 ln, sV ls, .slice lla lln llc, .slice lfa lfn lfc] 25)) ⟨hk, hn, hs, hla, hln, hlc, hfa, hfn, hfc⟩ y ∧ Stps (w136.alloc (.cells #[.int .i64 lk, .int .i64 ln, sV ls, .slice lla lln llc, .slice lfa lfn lfc] 25)) (.slice pao pn pcp) p ∧ Stps (w136.alloc (.cells #[.int .i64 lk, .int .i64 ln, sV ls, .slice lla lln llc, .slice lfa lfn lfc] 25)) (.slice qao qn qcp) q from ⟨below_all HS137.out.1 hbA, HS137.out.2.1.all hbA, HS137.out.2.2.1.all hbA, HS137.out.2.2.2.1.all hbA, HS137.out.2.2.2.2.1.all hbA, Flat.all HS137.out.2.2.2.2.2.1 hbA, Flat.all HS137.out.2.2.2.2.2.2 hbA⟩)
                        have HE143 := Lib.hid (And.intro (HE138.out.1.all hbA) (HE138.out.2.all hbA))
                        have HE144 := Lib.hid (And.intro (HE139.out.1.all hbA) (HE139.out.2.all hbA))
                        have HE145 := Lib.hid (And.intro (HE140.out.1.all hbA) (HE140.out.2.all hbA))
                        have HE146 := Lib.hid (And.intro (HE141.out.1.all hbA) (HE141.out.2.all hbA))
                        clear HS137 HE138 HE139 HE140 HE141
                        clear hres hbr hbA hIl hIS
                        go_upto_region 16 with (fail)
                        change Code.wp Tryz.prog _ _ _ (w136.alloc (.cells #[.int .i64 lk, .int .i64 ln, sV ls, .slice lla lln llc, .slice lfa lfn lfc] 25))
                        generalize (w136.alloc (.cells #[.int .i64 lk, .int .i64 ln, sV ls, .slice lla lln llc, .slice lfa lfn lfc] 25)) = V147 at *
                        generalize w136.heap.size = bxl at *
                        have z0 := HE146.out.1.cell (i := 0) rfl
                        have z1 := HE146.out.1.cell (i := 1) rfl
                        have z2 := HE146.out.1.cell (i := 2) rfl
                        have z3 := HE146.out.1.cell (i := 3) rfl
                        have z4 := HE146.out.1.cell (i := 4) rfl
                        have y0 := HXl.out.1.cell (i := 0) rfl
                        have y1 := HXl.out.1.cell (i := 1) rfl
                        have y2 := HXl.out.1.cell (i := 2) rfl
                        have y3 := HXl.out.1.cell (i := 3) rfl
                        have y4 := HXl.out.1.cell (i := 4) rfl
                        have C := Lib.hid (alike_any _ u (Nat.le_refl _) ⟨mk, mn, ms, mla, mln, mlc, mfa, mfn, mfc⟩ ⟨lk, ln, ls, lla, lln, llc, lfa, lfn, lfc⟩ V147 HE146.out.2 HXl.out.2)
                        go_wp2_with fail
                        refine C.out.mono ?_
                        rintro e w148 ⟨rfl, hb⟩
                        clear C
                        clear z0 z1 z2 z3 z4
                        clear y0 y1 y2 y3 y4
                        have HBe := Lib.hid (below_all HS142.out.1 hb)
                        clear hb
                        have CL := Lib.hid (plives_any w148)
                        go_wp2_with fail
                        refine CL.out.mono ?_
                        rintro e wl ⟨rfl, hbl⟩
                        have HBl := Lib.hid (below_all HBe.out hbl)
                        clear CL hbl
                        go_wp2
                        go_ret
                        exact ⟨rfl, HBl.out⟩
                      · skip
                        have hno : pathOk q = true → findT t q = none := fun h => by
                          cases hq : findT t q with
                          | none => rfl
                          | some u => exact absurd ⟨h, u, hq⟩ hgot
                        obtain rfl := hres.no hno
                        have hIm := is_zero w126
                        have HU : Hid (pathOk q = true → findT wt q = none) := Lib.hid (fun h => (HOT.out h).trans (hno h))
                        clear hgot hno HOT
                        have hbr := hres.below
                        have HS149 := Lib.hid (show Below w.heap.size w w126 ∧ Own w126 w.heap.size [.int .i64 ck, .int .i64 cn, sV cs, .slice cla cln clc, .slice cfa cfn cfc, .slice pao pn pcp, .slice qao qn qcp, .int .i64 gk, .int .i64 gn, sV gs, .slice gla gln glc, .slice gfa gfn gfc, .int .i64 hk, .int .i64 hn, sV hs, .slice hla hln hlc, .slice hfa hfn hfc] 49 ∧ Is w126 ⟨ck, cn, cs, cla, cln, clc, cfa, cfn, cfc⟩ t ∧ Is w126 ⟨gk, gn, gs, gla, gln, glc, gfa, gfn, gfc⟩ x ∧ Is w126 ⟨hk, hn, hs, hla, hln, hlc, hfa, hfn, hfc⟩ y ∧ Stps w126 (.slice pao pn pcp) p ∧ Stps w126 (.slice qao qn qcp) q from ⟨below_all HS122.out.1 hbr, HS122.out.2.1.all hbr, HS122.out.2.2.1.all hbr, HS122.out.2.2.2.1.all hbr, HS122.out.2.2.2.2.1.all hbr, Flat.all HS122.out.2.2.2.2.2.1 hbr, Flat.all HS122.out.2.2.2.2.2.2 hbr⟩)
                        have HE150 := Lib.hid (And.intro (HE123.out.1.all hbr) (HE123.out.2.all hbr))
                        have HE151 := Lib.hid (And.intro (HE124.out.1.all hbr) (HE124.out.2.all hbr))
                        have HE152 := Lib.hid (And.intro (HE125.out.1.all hbr) (HE125.out.2.all hbr))
                        clear HS122 HE123 HE124 HE125
                        have hbA := below_alloc w126 (.cells #[.int .i64 0, .int .i64 0, .string ⟨#[]⟩, .slice none 0 0, .slice none 0 0] 25)
                        have HXm := Lib.hid (And.intro (Own.new w126 [.int .i64 0, .int .i64 0, .string ⟨#[]⟩, .slice none 0 0, .slice none 0 0] 25) (hIm.all hbA))
                        have HS153 := Lib.hid (show Below w.heap.size w (w126.alloc (.cells #[.int .i64 0, .int .i64 0, .string ⟨#[]⟩, .slice none 0 0, .slice none 0 0] 25)) ∧ Own (w126.alloc (.cells #[.int .i64 0, .int .i64 0, .string ⟨#[]⟩, .slice none 0 0, .slice none 0 0] 25)) w.heap.size [.int .i64 ck, .int .i64 cn, sV cs, .slice cla cln clc, .slice cfa cfn cfc, .slice pao pn pcp, .slice qao qn qcp, .int .i64 gk, .int .i64 gn, sV gs, .slice gla gln glc, .slice gfa gfn gfc, .int .i64 hk, .int .i64 hn, sV hs, .slice hla hln hlc, .slice hfa hfn hfc] 49 ∧ Is (w126.alloc (.cells #[.int .i64 0, .int .i64 0, .string ⟨#[]⟩, .slice none 0 0, .slice none 0 0] 25)) ⟨ck, cn, cs, cla, cln, clc, cfa, cfn, cfc⟩ t ∧ Is (w126.alloc (.cells #[.int .i64 0, .int .i64 0, .string ⟨#[]⟩, .slice none 0 0, .slice none 0 0] 25)) ⟨gk, gn, gs, gla, gln, glc, gfa, gfn, gfc⟩ x ∧ Is (w126.alloc (.cells #[.int .i64 0, .int .i64 0, .string ⟨#[]⟩, .slice none 0 0, .slice none 0 0] 25)) ⟨hk, hn, hs, hla, hln, hlc, hfa, hfn, hfc⟩ y ∧ Stps (w126.alloc (.cells #[.int .i64 0, .int .i64 0, .string ⟨#[]⟩, .slice none 0 0, .slice none 0 0] 25)) (.slice pao pn pcp) p ∧ Stps (w126.alloc (.cells #[.int .i64 0, .int .i64 0, .string ⟨#[]⟩, .slice none 0 0, .slice none 0 0] 25)) (.slice qao qn qcp) q from ⟨below_all HS149.out.1 hbA, HS149.out.2.1.all hbA, HS149.out.2.2.1.all hbA, HS149.out.2.2.2.1.all hbA, HS149.out.2.2.2.2.1.all hbA, Flat.all HS149.out.2.2.2.2.2.1 hbA, Flat.all HS149.out.2.2.2.2.2.2 hbA⟩)
                        have HE154 := Lib.hid (And.intro (HE150.out.1.all hbA) (HE150.out.2.all hbA))
                        have HE155 := Lib.hid (And.intro (HE151.out.1.all hbA) (HE151.out.2.all hbA))
                        have HE156 := Lib.hid (And.intro (HE152.out.1.all hbA) (HE152.out.2.all hbA))
                        clear HS149 HE150 HE151 HE152
                        clear hres hbr hbA hIm
                        go_upto_region 15 with (fail)
                        change Code.wp Tryz.prog _ _ _ (w126.alloc (.cells #[.int .i64 0, .int .i64 0, .string ⟨#[]⟩, .slice none 0 0, .slice none 0 0] 25))
                        generalize (w126.alloc (.cells #[.int .i64 0, .int .i64 0, .string ⟨#[]⟩, .slice none 0 0, .slice none 0 0] 25)) = V157 at *
                        generalize w126.heap.size = bxm at *
                        have z6 := HS153.out.2.1.cell (i := 6) rfl
                        have y0 := HE154.out.1.cell (i := 0) rfl
                        have y1 := HE154.out.1.cell (i := 1) rfl
                        have y2 := HE154.out.1.cell (i := 2) rfl
                        have y3 := HE154.out.1.cell (i := 3) rfl
                        have y4 := HE154.out.1.cell (i := 4) rfl
                        have C := Lib.hid (pathGet_any ⟨rk, rn, rs, rla, rln, rlc, rfa, rfn, rfc⟩ wt _ q V157 HE154.out.2 (by have := HM.out.2.1.2; omega) HS153.out.2.2.2.2.2.2 (by have := HSZ.out.2.2; omega))
                        go_wp2_with fail
                        refine C.out.mono ?_
                        intro e w158 hres
                        clear C
                        clear z6
                        clear y0 y1 y2 y3 y4
                        obtain rfl := hres.no HU.out
                        have hIl := is_zero w158
                        have hbr := hres.below
                        have HS159 := Lib.hid (show Below w.heap.size w w158 ∧ Own w158 w.heap.size [.int .i64 ck, .int .i64 cn, sV cs, .slice cla cln clc, .slice cfa cfn cfc, .slice pao pn pcp, .slice qao qn qcp, .int .i64 gk, .int .i64 gn, sV gs, .slice gla gln glc, .slice gfa gfn gfc, .int .i64 hk, .int .i64 hn, sV hs, .slice hla hln hlc, .slice hfa hfn hfc] 49 ∧ Is w158 ⟨ck, cn, cs, cla, cln, clc, cfa, cfn, cfc⟩ t ∧ Is w158 ⟨gk, gn, gs, gla, gln, glc, gfa, gfn, gfc⟩ x ∧ Is w158 ⟨hk, hn, hs, hla, hln, hlc, hfa, hfn, hfc⟩ y ∧ Stps w158 (.slice pao pn pcp) p ∧ Stps w158 (.slice qao qn qcp) q from ⟨below_all HS153.out.1 hbr, HS153.out.2.1.all hbr, HS153.out.2.2.1.all hbr, HS153.out.2.2.2.1.all hbr, HS153.out.2.2.2.2.1.all hbr, Flat.all HS153.out.2.2.2.2.2.1 hbr, Flat.all HS153.out.2.2.2.2.2.2 hbr⟩)
                        have HE160 := Lib.hid (And.intro (HE154.out.1.all hbr) (HE154.out.2.all hbr))
                        have HE161 := Lib.hid (And.intro (HE155.out.1.all hbr) (HE155.out.2.all hbr))
                        have HE162 := Lib.hid (And.intro (HE156.out.1.all hbr) (HE156.out.2.all hbr))
                        have HE163 := Lib.hid (And.intro (HXm.out.1.all hbr) (HXm.out.2.all hbr))
                        clear HS153 HE154 HE155 HE156 HXm
                        have hbA := below_alloc w158 (.cells #[.int .i64 0, .int .i64 0, .string ⟨#[]⟩, .slice none 0 0, .slice none 0 0] 25)
                        have HXl := Lib.hid (And.intro (Own.new w158 [.int .i64 0, .int .i64 0, .string ⟨#[]⟩, .slice none 0 0, .slice none 0 0] 25) (hIl.all hbA))
                        have HS164 := Lib.hid (show Below w.heap.size w (w158.alloc (.cells #[.int .i64 0, .int .i64 0, .string ⟨#[]⟩, .slice none 0 0, .slice none 0 0] 25)) ∧ Own (w158.alloc (.cells #[.int .i64 0, .int .i64 0, .string ⟨#[]⟩, .slice none 0 0, .slice none 0 0] 25)) w.heap.size [.int .i64 ck, .int .i64 cn, sV cs, .slice cla cln clc, .slice cfa cfn cfc, .slice pao pn pcp, .slice qao qn qcp, .int .i64 gk, .int .i64 gn, sV gs, .slice gla gln glc, .slice gfa gfn gfc, .int .i64 hk, .int .i64 hn, sV hs, .slice hla hln hlc, .slice hfa hfn hfc] 49 ∧ Is (w158.alloc (.cells #[.int .i64 0, .int .i64 0, .string ⟨#[]⟩, .slice none 0 0, .slice none 0 0] 25)) ⟨ck, cn, cs, cla, cln, clc, cfa, cfn, cfc⟩ t ∧ Is (w158.alloc (.cells #[.int .i64 0, .int .i64 0, .string ⟨#[]⟩, .slice none 0 0, .slice none 0 0] 25)) ⟨gk, gn, gs, gla, gln, glc, gfa, gfn, gfc⟩ x ∧ Is (w158.alloc (.cells #[.int .i64 0, .int .i64 0, .string ⟨#[]⟩, .slice none 0 0, .slice none 0 0] 25)) ⟨hk, hn, hs, hla, hln, hlc, hfa, hfn, hfc⟩ y ∧ Stps (w158.alloc (.cells #[.int .i64 0, .int .i64 0, .string ⟨#[]⟩, .slice none 0 0, .slice none 0 0] 25)) (.slice pao pn pcp) p ∧ Stps (w158.alloc (.cells #[.int .i64 0, .int .i64 0, .string ⟨#[]⟩, .slice none 0 0, .slice none 0 0] 25)) (.slice qao qn qcp) q from ⟨below_all HS159.out.1 hbA, HS159.out.2.1.all hbA, HS159.out.2.2.1.all hbA, HS159.out.2.2.2.1.all hbA, HS159.out.2.2.2.2.1.all hbA, Flat.all HS159.out.2.2.2.2.2.1 hbA, Flat.all HS159.out.2.2.2.2.2.2 hbA⟩)
                        have HE165 := Lib.hid (And.intro (HE160.out.1.all hbA) (HE160.out.2.all hbA))
                        have HE166 := Lib.hid (And.intro (HE161.out.1.all hbA) (HE161.out.2.all hbA))
                        have HE167 := Lib.hid (And.intro (HE162.out.1.all hbA) (HE162.out.2.all hbA))
                        have HE168 := Lib.hid (And.intro (HE163.out.1.all hbA) (HE163.out.2.all hbA))
                        clear HS159 HE160 HE161 HE162 HE163
                        clear hres hbr hbA hIl
                        go_upto_region 16 with (fail)
                        change Code.wp Tryz.prog _ _ _ (w158.alloc (.cells #[.int .i64 0, .int .i64 0, .string ⟨#[]⟩, .slice none 0 0, .slice none 0 0] 25))
                        generalize (w158.alloc (.cells #[.int .i64 0, .int .i64 0, .string ⟨#[]⟩, .slice none 0 0, .slice none 0 0] 25)) = V169 at *
                        generalize w158.heap.size = bxl at *
                        have z0 := HE168.out.1.cell (i := 0) rfl
                        have z1 := HE168.out.1.cell (i := 1) rfl
                        have z2 := HE168.out.1.cell (i := 2) rfl
                        have z3 := HE168.out.1.cell (i := 3) rfl
                        have z4 := HE168.out.1.cell (i := 4) rfl
                        have y0 := HXl.out.1.cell (i := 0) rfl
                        have y1 := HXl.out.1.cell (i := 1) rfl
                        have y2 := HXl.out.1.cell (i := 2) rfl
                        have y3 := HXl.out.1.cell (i := 3) rfl
                        have y4 := HXl.out.1.cell (i := 4) rfl
                        have C := Lib.hid (alike_any _ T0 (Nat.le_refl _) ⟨0, 0, [], none, 0, 0, none, 0, 0⟩ ⟨0, 0, [], none, 0, 0, none, 0, 0⟩ V169 HE168.out.2 HXl.out.2)
                        go_wp2_with fail
                        refine C.out.mono ?_
                        rintro e w170 ⟨rfl, hb⟩
                        clear C
                        clear z0 z1 z2 z3 z4
                        clear y0 y1 y2 y3 y4
                        have HBe := Lib.hid (below_all HS164.out.1 hb)
                        clear hb
                        have CL := Lib.hid (plives_any w170)
                        go_wp2_with fail
                        refine CL.out.mono ?_
                        rintro e wl ⟨rfl, hbl⟩
                        have HBl := Lib.hid (below_all HBe.out hbl)
                        clear CL hbl
                        go_wp2
                        go_ret
                        exact ⟨rfl, HBl.out⟩
            subst hf
            subst hg
            obtain rfl : ro = rd := HM.out.2.2.2.1 ro rd HQo.out HQd.out
            have z0 := HE39.out.1.cell (i := 0) rfl
            have z1 := HE39.out.1.cell (i := 1) rfl
            have z2 := HE39.out.1.cell (i := 2) rfl
            have z3 := HE39.out.1.cell (i := 3) rfl
            have z4 := HE39.out.1.cell (i := 4) rfl
            have y0 := HXd.out.1.cell (i := 0) rfl
            have y1 := HXd.out.1.cell (i := 1) rfl
            have y2 := HXd.out.1.cell (i := 2) rfl
            have y3 := HXd.out.1.cell (i := 3) rfl
            have y4 := HXd.out.1.cell (i := 4) rfl
            have C := Lib.hid (alike_any _ ro (Nat.le_refl _) ⟨ok, on, os, ola, oln, olc, ofa, ofn, ofc⟩ ⟨dk, dn, ds, dla, dln, dlc, dfa, dfn, dfc⟩ V40 HE39.out.2 HXd.out.2)
            go_wp2_with fail
            refine C.out.mono ?_
            rintro e w171 ⟨rfl, hb⟩
            clear C
            clear z0 z1 z2 z3 z4
            clear y0 y1 y2 y3 y4
            have HS172 := Lib.hid (show Below w.heap.size w w171 ∧ Own w171 w.heap.size [.int .i64 ck, .int .i64 cn, sV cs, .slice cla cln clc, .slice cfa cfn cfc, .slice pao pn pcp, .slice qao qn qcp, .int .i64 gk, .int .i64 gn, sV gs, .slice gla gln glc, .slice gfa gfn gfc, .int .i64 hk, .int .i64 hn, sV hs, .slice hla hln hlc, .slice hfa hfn hfc] 49 ∧ Is w171 ⟨ck, cn, cs, cla, cln, clc, cfa, cfn, cfc⟩ t ∧ Is w171 ⟨gk, gn, gs, gla, gln, glc, gfa, gfn, gfc⟩ x ∧ Is w171 ⟨hk, hn, hs, hla, hln, hlc, hfa, hfn, hfc⟩ y ∧ Stps w171 (.slice pao pn pcp) p ∧ Stps w171 (.slice qao qn qcp) q from ⟨below_all HS37.out.1 hb, HS37.out.2.1.all hb, HS37.out.2.2.1.all hb, HS37.out.2.2.2.1.all hb, HS37.out.2.2.2.2.1.all hb, Flat.all HS37.out.2.2.2.2.2.1 hb, Flat.all HS37.out.2.2.2.2.2.2 hb⟩)
            have HE173 := Lib.hid (And.intro (HE38.out.1.all hb) (HE38.out.2.all hb))
            have HE174 := Lib.hid (And.intro (HE39.out.1.all hb) (HE39.out.2.all hb))
            have HE175 := Lib.hid (And.intro (HXd.out.1.all hb) (HXd.out.2.all hb))
            clear HS37 HE38 HE39 HXd
            clear hb
            have z5 := HS172.out.2.1.cell (i := 5) rfl
            have C := Lib.hid (plain_any _ p w171 HS172.out.2.2.2.2.2.1)
            obtain ⟨P1, hB⟩ : ∃ B, plainOk p = B := ⟨_, rfl⟩
            rw [hB] at C
            have HP1 := Lib.hid hB
            clear hB
            go_wp2_with fail
            refine C.out.mono ?_
            rintro e w176 ⟨rfl, hb⟩
            have HS177 := Lib.hid (show Below w.heap.size w w176 ∧ Own w176 w.heap.size [.int .i64 ck, .int .i64 cn, sV cs, .slice cla cln clc, .slice cfa cfn cfc, .slice pao pn pcp, .slice qao qn qcp, .int .i64 gk, .int .i64 gn, sV gs, .slice gla gln glc, .slice gfa gfn gfc, .int .i64 hk, .int .i64 hn, sV hs, .slice hla hln hlc, .slice hfa hfn hfc] 49 ∧ Is w176 ⟨ck, cn, cs, cla, cln, clc, cfa, cfn, cfc⟩ t ∧ Is w176 ⟨gk, gn, gs, gla, gln, glc, gfa, gfn, gfc⟩ x ∧ Is w176 ⟨hk, hn, hs, hla, hln, hlc, hfa, hfn, hfc⟩ y ∧ Stps w176 (.slice pao pn pcp) p ∧ Stps w176 (.slice qao qn qcp) q from ⟨below_all HS172.out.1 hb, HS172.out.2.1.all hb, HS172.out.2.2.1.all hb, HS172.out.2.2.2.1.all hb, HS172.out.2.2.2.2.1.all hb, Flat.all HS172.out.2.2.2.2.2.1 hb, Flat.all HS172.out.2.2.2.2.2.2 hb⟩)
            have HE178 := Lib.hid (And.intro (HE173.out.1.all hb) (HE173.out.2.all hb))
            have HE179 := Lib.hid (And.intro (HE174.out.1.all hb) (HE174.out.2.all hb))
            have HE180 := Lib.hid (And.intro (HE175.out.1.all hb) (HE175.out.2.all hb))
            clear HS172 HE173 HE174 HE175
            clear C hb
            clear z5
            cases P1 with
            | false =>
              have CL := Lib.hid (plives_any w176)
              go_wp2_with fail
              refine CL.out.mono ?_
              rintro e wl ⟨rfl, hbl⟩
              have HBl := Lib.hid (below_all HS177.out.1 hbl)
              clear CL hbl
              go_wp2
              go_ret
              exact ⟨rfl, HBl.out⟩
            | true =>
              have z6 := HS177.out.2.1.cell (i := 6) rfl
              have C := Lib.hid (plain_any _ q w176 HS177.out.2.2.2.2.2.2)
              obtain ⟨P2, hB⟩ : ∃ B, plainOk q = B := ⟨_, rfl⟩
              rw [hB] at C
              have HP2 := Lib.hid hB
              clear hB
              go_wp2_with fail
              refine C.out.mono ?_
              rintro e w181 ⟨rfl, hb⟩
              have HS182 := Lib.hid (show Below w.heap.size w w181 ∧ Own w181 w.heap.size [.int .i64 ck, .int .i64 cn, sV cs, .slice cla cln clc, .slice cfa cfn cfc, .slice pao pn pcp, .slice qao qn qcp, .int .i64 gk, .int .i64 gn, sV gs, .slice gla gln glc, .slice gfa gfn gfc, .int .i64 hk, .int .i64 hn, sV hs, .slice hla hln hlc, .slice hfa hfn hfc] 49 ∧ Is w181 ⟨ck, cn, cs, cla, cln, clc, cfa, cfn, cfc⟩ t ∧ Is w181 ⟨gk, gn, gs, gla, gln, glc, gfa, gfn, gfc⟩ x ∧ Is w181 ⟨hk, hn, hs, hla, hln, hlc, hfa, hfn, hfc⟩ y ∧ Stps w181 (.slice pao pn pcp) p ∧ Stps w181 (.slice qao qn qcp) q from ⟨below_all HS177.out.1 hb, HS177.out.2.1.all hb, HS177.out.2.2.1.all hb, HS177.out.2.2.2.1.all hb, HS177.out.2.2.2.2.1.all hb, Flat.all HS177.out.2.2.2.2.2.1 hb, Flat.all HS177.out.2.2.2.2.2.2 hb⟩)
              have HE183 := Lib.hid (And.intro (HE178.out.1.all hb) (HE178.out.2.all hb))
              have HE184 := Lib.hid (And.intro (HE179.out.1.all hb) (HE179.out.2.all hb))
              have HE185 := Lib.hid (And.intro (HE180.out.1.all hb) (HE180.out.2.all hb))
              clear HS177 HE178 HE179 HE180
              clear C hb
              clear z6
              cases P2 with
              | false =>
                have CL := Lib.hid (plives_any w181)
                go_wp2_with fail
                refine CL.out.mono ?_
                rintro e wl ⟨rfl, hbl⟩
                have HBl := Lib.hid (below_all HS182.out.1 hbl)
                clear CL hbl
                go_wp2
                go_ret
                exact ⟨rfl, HBl.out⟩
              | true =>
                have z5 := HS182.out.2.1.cell (i := 5) rfl
                have z6 := HS182.out.2.1.cell (i := 6) rfl
                have C := Lib.hid (hasPrefix_any _ _ p q w181 HS182.out.2.2.2.2.2.1 HS182.out.2.2.2.2.2.2 (by have := HSZ.out.2.1; omega) (by have := HSZ.out.2.2; omega))
                obtain ⟨P3, hB⟩ : ∃ B, hasPre p q = B := ⟨_, rfl⟩
                rw [hB] at C
                have HP3 := Lib.hid hB
                clear hB
                go_wp2_with fail
                refine C.out.mono ?_
                rintro e w186 ⟨rfl, hb⟩
                have HS187 := Lib.hid (show Below w.heap.size w w186 ∧ Own w186 w.heap.size [.int .i64 ck, .int .i64 cn, sV cs, .slice cla cln clc, .slice cfa cfn cfc, .slice pao pn pcp, .slice qao qn qcp, .int .i64 gk, .int .i64 gn, sV gs, .slice gla gln glc, .slice gfa gfn gfc, .int .i64 hk, .int .i64 hn, sV hs, .slice hla hln hlc, .slice hfa hfn hfc] 49 ∧ Is w186 ⟨ck, cn, cs, cla, cln, clc, cfa, cfn, cfc⟩ t ∧ Is w186 ⟨gk, gn, gs, gla, gln, glc, gfa, gfn, gfc⟩ x ∧ Is w186 ⟨hk, hn, hs, hla, hln, hlc, hfa, hfn, hfc⟩ y ∧ Stps w186 (.slice pao pn pcp) p ∧ Stps w186 (.slice qao qn qcp) q from ⟨below_all HS182.out.1 hb, HS182.out.2.1.all hb, HS182.out.2.2.1.all hb, HS182.out.2.2.2.1.all hb, HS182.out.2.2.2.2.1.all hb, Flat.all HS182.out.2.2.2.2.2.1 hb, Flat.all HS182.out.2.2.2.2.2.2 hb⟩)
                have HE188 := Lib.hid (And.intro (HE183.out.1.all hb) (HE183.out.2.all hb))
                have HE189 := Lib.hid (And.intro (HE184.out.1.all hb) (HE184.out.2.all hb))
                have HE190 := Lib.hid (And.intro (HE185.out.1.all hb) (HE185.out.2.all hb))
                clear HS182 HE183 HE184 HE185
                clear C hb
                clear z5 z6
                cases P3 with
                | true =>
                  have CL := Lib.hid (plives_any w186)
                  go_wp2_with fail
                  refine CL.out.mono ?_
                  rintro e wl ⟨rfl, hbl⟩
                  have HBl := Lib.hid (below_all HS187.out.1 hbl)
                  clear CL hbl
                  go_wp2
                  go_ret
                  exact ⟨rfl, HBl.out⟩
                | false =>
                  have z5 := HS187.out.2.1.cell (i := 5) rfl
                  have z6 := HS187.out.2.1.cell (i := 6) rfl
                  have C := Lib.hid (hasPrefix_any _ _ q p w186 HS187.out.2.2.2.2.2.2 HS187.out.2.2.2.2.2.1 (by have := HSZ.out.2.2; omega) (by have := HSZ.out.2.1; omega))
                  obtain ⟨P4, hB⟩ : ∃ B, hasPre q p = B := ⟨_, rfl⟩
                  rw [hB] at C
                  have HP4 := Lib.hid hB
                  clear hB
                  go_wp2_with fail
                  refine C.out.mono ?_
                  rintro e w191 ⟨rfl, hb⟩
                  have HS192 := Lib.hid (show Below w.heap.size w w191 ∧ Own w191 w.heap.size [.int .i64 ck, .int .i64 cn, sV cs, .slice cla cln clc, .slice cfa cfn cfc, .slice pao pn pcp, .slice qao qn qcp, .int .i64 gk, .int .i64 gn, sV gs, .slice gla gln glc, .slice gfa gfn gfc, .int .i64 hk, .int .i64 hn, sV hs, .slice hla hln hlc, .slice hfa hfn hfc] 49 ∧ Is w191 ⟨ck, cn, cs, cla, cln, clc, cfa, cfn, cfc⟩ t ∧ Is w191 ⟨gk, gn, gs, gla, gln, glc, gfa, gfn, gfc⟩ x ∧ Is w191 ⟨hk, hn, hs, hla, hln, hlc, hfa, hfn, hfc⟩ y ∧ Stps w191 (.slice pao pn pcp) p ∧ Stps w191 (.slice qao qn qcp) q from ⟨below_all HS187.out.1 hb, HS187.out.2.1.all hb, HS187.out.2.2.1.all hb, HS187.out.2.2.2.1.all hb, HS187.out.2.2.2.2.1.all hb, Flat.all HS187.out.2.2.2.2.2.1 hb, Flat.all HS187.out.2.2.2.2.2.2 hb⟩)
                  have HE193 := Lib.hid (And.intro (HE188.out.1.all hb) (HE188.out.2.all hb))
                  have HE194 := Lib.hid (And.intro (HE189.out.1.all hb) (HE189.out.2.all hb))
                  have HE195 := Lib.hid (And.intro (HE190.out.1.all hb) (HE190.out.2.all hb))
                  clear HS187 HE188 HE189 HE190
                  clear C hb
                  clear z5 z6
                  cases P4 with
                  | true =>
                    have CL := Lib.hid (plives_any w191)
                    go_wp2_with fail
                    refine CL.out.mono ?_
                    rintro e wl ⟨rfl, hbl⟩
                    have HBl := Lib.hid (below_all HS192.out.1 hbl)
                    clear CL hbl
                    go_wp2
                    go_ret
                    exact ⟨rfl, HBl.out⟩
                  | false =>
                    have HOT : Hid (pathOk q = true → findT wt q = findT t q) := Lib.hid (fun h => HM.out.2.2.2.2 h (plainOk_iff HP1.out) (plainOk_iff HP2.out) (hasPre_no HP4.out) (hasPre_no HP3.out))
                    have z0 := HS192.out.2.1.cell (i := 0) rfl
                    have z1 := HS192.out.2.1.cell (i := 1) rfl
                    have z2 := HS192.out.2.1.cell (i := 2) rfl
                    have z3 := HS192.out.2.1.cell (i := 3) rfl
                    have z4 := HS192.out.2.1.cell (i := 4) rfl
                    have z6 := HS192.out.2.1.cell (i := 6) rfl
                    have C := Lib.hid (pathGet_any ⟨ck, cn, cs, cla, cln, clc, cfa, cfn, cfc⟩ t _ q w191 HS192.out.2.2.1 (by have := HSZ.out.1; omega) HS192.out.2.2.2.2.2.2 (by have := HSZ.out.2.2; omega))
                    go_wp2_with fail
                    refine C.out.mono ?_
                    intro e w196 hres
                    clear C
                    clear z0 z1 z2 z3 z4 z6
                    by_cases hgot : pathOk q = true ∧ ∃ u, findT t q = some u
                    · skip
                      obtain ⟨hqok, u, hfu⟩ := hgot
                      obtain ⟨⟨mk, mn, ms, mla, mln, mlc, mfa, mfn, mfc⟩, hi, rfl, -, -, hIS⟩ := hres.ok hqok u hfu
                      have hIm := hIS.is
                      have hfw := (HOT.out hqok).trans hfu
                      have HU := Lib.hid (And.intro hqok hfw)
                      clear hqok hfu hfw HOT
                      have hbr := hres.below
                      have HS197 := Lib.hid (show Below w.heap.size w w196 ∧ Own w196 w.heap.size [.int .i64 ck, .int .i64 cn, sV cs, .slice cla cln clc, .slice cfa cfn cfc, .slice pao pn pcp, .slice qao qn qcp, .int .i64 gk, .int .i64 gn, sV gs, .slice gla gln glc, .slice gfa gfn gfc, .int .i64 hk, .int .i64 hn, sV hs, .slice hla hln hlc, .slice hfa hfn hfc] 49 ∧ Is w196 ⟨ck, cn, cs, cla, cln, clc, cfa, cfn, cfc⟩ t ∧ Is w196 ⟨gk, gn, gs, gla, gln, glc, gfa, gfn, gfc⟩ x ∧ Is w196 ⟨hk, hn, hs, hla, hln, hlc, hfa, hfn, hfc⟩ y ∧ Stps w196 (.slice pao pn pcp) p ∧ Stps w196 (.slice qao qn qcp) q from ⟨below_all HS192.out.1 hbr, HS192.out.2.1.all hbr, HS192.out.2.2.1.all hbr, HS192.out.2.2.2.1.all hbr, HS192.out.2.2.2.2.1.all hbr, Flat.all HS192.out.2.2.2.2.2.1 hbr, Flat.all HS192.out.2.2.2.2.2.2 hbr⟩)
                      have HE198 := Lib.hid (And.intro (HE193.out.1.all hbr) (HE193.out.2.all hbr))
                      have HE199 := Lib.hid (And.intro (HE194.out.1.all hbr) (HE194.out.2.all hbr))
                      have HE200 := Lib.hid (And.intro (HE195.out.1.all hbr) (HE195.out.2.all hbr))
                      clear HS192 HE193 HE194 HE195
                      have hbA := below_alloc w196 (.cells #[.int .i64 mk, .int .i64 mn, sV ms, .slice mla mln mlc, .slice mfa mfn mfc] 25)
                      have HXm := Lib.hid (And.intro (Own.new w196 [.int .i64 mk, .int .i64 mn, sV ms, .slice mla mln mlc, .slice mfa mfn mfc] 25) (hIm.all hbA))
                      have HS201 := Lib.hid (show Below w.heap.size w (w196.alloc (.cells #[.int .i64 mk, .int .i64 mn, sV ms, .slice mla mln mlc, .slice mfa mfn mfc] 25)) ∧ Own (w196.alloc (.cells #[.int .i64 mk, .int .i64 mn, sV ms, .slice mla mln mlc, .slice mfa mfn mfc] 25)) w.heap.size [.int .i64 ck, .int .i64 cn, sV cs, .slice cla cln clc, .slice cfa cfn cfc, .slice pao pn pcp, .slice qao qn qcp, .int .i64 gk, .int .i64 gn, sV gs, .slice gla gln glc, .slice gfa gfn gfc, .int .i64 hk, .int .i64 hn, sV hs, .slice hla hln hlc, .slice hfa hfn hfc] 49 ∧ Is (w196.alloc (.cells #[.int .i64 mk, .int .i64 mn, sV ms, .slice mla mln mlc, .slice mfa mfn mfc] 25)) ⟨ck, cn, cs, cla, cln, clc, cfa, cfn, cfc⟩ t ∧ Is (w196.alloc (.cells #[.int .i64 mk, .int .i64 mn, sV ms, .slice mla mln mlc, .slice mfa mfn mfc] 25)) ⟨gk, gn, gs, gla, gln, glc, gfa, gfn, gfc⟩ x ∧ Is (w196.alloc (.cells #[.int .i64 mk, .int .i64 mn, sV ms, .slice mla mln mlc, .slice mfa mfn mfc] 25)) ⟨hk, hn, hs, hla, hln, hlc, hfa, hfn, hfc⟩ y ∧ Stps (w196.alloc (.cells #[.int .i64 mk, .int .i64 mn, sV ms, .slice mla mln mlc, .slice mfa mfn mfc] 25)) (.slice pao pn pcp) p ∧ Stps (w196.alloc (.cells #[.int .i64 mk, .int .i64 mn, sV ms, .slice mla mln mlc, .slice mfa mfn mfc] 25)) (.slice qao qn qcp) q from ⟨below_all HS197.out.1 hbA, HS197.out.2.1.all hbA, HS197.out.2.2.1.all hbA, HS197.out.2.2.2.1.all hbA, HS197.out.2.2.2.2.1.all hbA, Flat.all HS197.out.2.2.2.2.2.1 hbA, Flat.all HS197.out.2.2.2.2.2.2 hbA⟩)
                      have HE202 := Lib.hid (And.intro (HE198.out.1.all hbA) (HE198.out.2.all hbA))
                      have HE203 := Lib.hid (And.intro (HE199.out.1.all hbA) (HE199.out.2.all hbA))
                      have HE204 := Lib.hid (And.intro (HE200.out.1.all hbA) (HE200.out.2.all hbA))
                      clear HS197 HE198 HE199 HE200
                      clear hres hbr hbA hIm hIS
                      go_upto_region 15 with (fail)
                      change Code.wp Tryz.prog _ _ _ (w196.alloc (.cells #[.int .i64 mk, .int .i64 mn, sV ms, .slice mla mln mlc, .slice mfa mfn mfc] 25))
                      generalize (w196.alloc (.cells #[.int .i64 mk, .int .i64 mn, sV ms, .slice mla mln mlc, .slice mfa mfn mfc] 25)) = V205 at *
                      generalize w196.heap.size = bxm at *
                      have z6 := HS201.out.2.1.cell (i := 6) rfl
                      have y0 := HE202.out.1.cell (i := 0) rfl
                      have y1 := HE202.out.1.cell (i := 1) rfl
                      have y2 := HE202.out.1.cell (i := 2) rfl
                      have y3 := HE202.out.1.cell (i := 3) rfl
                      have y4 := HE202.out.1.cell (i := 4) rfl
                      have C := Lib.hid (pathGet_any ⟨rk, rn, rs, rla, rln, rlc, rfa, rfn, rfc⟩ wt _ q V205 HE202.out.2 (by have := HM.out.2.1.2; omega) HS201.out.2.2.2.2.2.2 (by have := HSZ.out.2.2; omega))
                      go_wp2_with fail
                      refine C.out.mono ?_
                      intro e w206 hres
                      clear C
                      clear z6
                      clear y0 y1 y2 y3 y4
                      obtain ⟨⟨lk, ln, ls, lla, lln, llc, lfa, lfn, lfc⟩, hi2, rfl, -, -, hIS⟩ := hres.ok HU.out.1 u HU.out.2
                      have hIl := hIS.is
                      have hbr := hres.below
                      have HS207 := Lib.hid (show Below w.heap.size w w206 ∧ Own w206 w.heap.size [.int .i64 ck, .int .i64 cn, sV cs, .slice cla cln clc, .slice cfa cfn cfc, .slice pao pn pcp, .slice qao qn qcp, .int .i64 gk, .int .i64 gn, sV gs, .slice gla gln glc, .slice gfa gfn gfc, .int .i64 hk, .int .i64 hn, sV hs, .slice hla hln hlc, .slice hfa hfn hfc] 49 ∧ Is w206 ⟨ck, cn, cs, cla, cln, clc, cfa, cfn, cfc⟩ t ∧ Is w206 ⟨gk, gn, gs, gla, gln, glc, gfa, gfn, gfc⟩ x ∧ Is w206 ⟨hk, hn, hs, hla, hln, hlc, hfa, hfn, hfc⟩ y ∧ Stps w206 (.slice pao pn pcp) p ∧ Stps w206 (.slice qao qn qcp) q from ⟨below_all HS201.out.1 hbr, HS201.out.2.1.all hbr, HS201.out.2.2.1.all hbr, HS201.out.2.2.2.1.all hbr, HS201.out.2.2.2.2.1.all hbr, Flat.all HS201.out.2.2.2.2.2.1 hbr, Flat.all HS201.out.2.2.2.2.2.2 hbr⟩)
                      have HE208 := Lib.hid (And.intro (HE202.out.1.all hbr) (HE202.out.2.all hbr))
                      have HE209 := Lib.hid (And.intro (HE203.out.1.all hbr) (HE203.out.2.all hbr))
                      have HE210 := Lib.hid (And.intro (HE204.out.1.all hbr) (HE204.out.2.all hbr))
                      have HE211 := Lib.hid (And.intro (HXm.out.1.all hbr) (HXm.out.2.all hbr))
                      clear HS201 HE202 HE203 HE204 HXm
                      have hbA := below_alloc w206 (.cells #[.int .i64 lk, .int .i64 ln, sV ls, .slice lla lln llc, .slice lfa lfn lfc] 25)
                      have HXl := Lib.hid (And.intro (Own.new w206 [.int .i64 lk, .int .i64 ln, sV ls, .slice lla lln llc, .slice lfa lfn lfc] 25) (hIl.all hbA))
                      have HS212 := Lib.hid (show Below w.heap.size w (w206.alloc (.cells #[.int .i64 lk, .int .i64 ln, sV ls, .slice lla lln llc, .slice lfa lfn lfc] 25)) ∧ Own (w206.alloc (.cells #[.int .i64 lk, .int .i64 ln, sV ls, .slice lla lln llc, .slice lfa lfn lfc] 25)) w.heap.size [.int .i64 ck, .int .i64 cn, sV cs, .slice cla cln clc, .slice cfa cfn cfc, .slice pao pn pcp, .slice qao qn qcp, .int .i64 gk, .int .i64 gn, sV gs, .slice gla gln glc, .slice gfa gfn gfc, .int .i64 hk, .int .i64 hn, sV hs, .slice hla hln hlc, .slice hfa hfn hfc] 49 ∧ Is (w206.alloc (.cells #[.int .i64 lk, .int .i64 ln, sV ls, .slice lla lln llc, .slice lfa lfn lfc] 25)) ⟨ck, cn, cs, cla, cln, clc, cfa, cfn, cfc⟩ t ∧ Is (w206.alloc (.cells #[.int .i64 lk, .int .i64 ln, sV ls, .slice lla lln llc, .slice lfa lfn lfc] 25)) ⟨gk, gn, gs, gla, gln, glc, gfa, gfn, gfc⟩ x ∧ Is (w206.alloc (.cells #[.int .i64 lk, .int .i64 ln, sV ls, .slice lla lln llc, .slice lfa lfn lfc] 25)) ⟨hk, hn, hs, hla, hln, hlc, hfa, hfn, hfc⟩ y ∧ Stps (w206.alloc (.cells #[.int .i64 lk, .int .i64 ln, sV ls, .slice lla lln llc, .slice lfa lfn lfc] 25)) (.slice pao pn pcp) p ∧ Stps (w206.alloc (.cells #[.int .i64 lk, .int .i64 ln, sV ls, .slice lla lln llc, .slice lfa lfn lfc] 25)) (.slice qao qn qcp) q from ⟨below_all HS207.out.1 hbA, HS207.out.2.1.all hbA, HS207.out.2.2.1.all hbA, HS207.out.2.2.2.1.all hbA, HS207.out.2.2.2.2.1.all hbA, Flat.all HS207.out.2.2.2.2.2.1 hbA, Flat.all HS207.out.2.2.2.2.2.2 hbA⟩)
                      have HE213 := Lib.hid (And.intro (HE208.out.1.all hbA) (HE208.out.2.all hbA))
                      have HE214 := Lib.hid (And.intro (HE209.out.1.all hbA) (HE209.out.2.all hbA))
                      have HE215 := Lib.hid (And.intro (HE210.out.1.all hbA) (HE210.out.2.all hbA))
                      have HE216 := Lib.hid (And.intro (HE211.out.1.all hbA) (HE211.out.2.all hbA))
                      clear HS207 HE208 HE209 HE210 HE211
                      clear hres hbr hbA hIl hIS
                      go_upto_region 16 with (fail)
                      change Code.wp Tryz.prog _ _ _ (w206.alloc (.cells #[.int .i64 lk, .int .i64 ln, sV ls, .slice lla lln llc, .slice lfa lfn lfc] 25))
                      generalize (w206.alloc (.cells #[.int .i64 lk, .int .i64 ln, sV ls, .slice lla lln llc, .slice lfa lfn lfc] 25)) = V217 at *
                      generalize w206.heap.size = bxl at *
                      have z0 := HE216.out.1.cell (i := 0) rfl
                      have z1 := HE216.out.1.cell (i := 1) rfl
                      have z2 := HE216.out.1.cell (i := 2) rfl
                      have z3 := HE216.out.1.cell (i := 3) rfl
                      have z4 := HE216.out.1.cell (i := 4) rfl
                      have y0 := HXl.out.1.cell (i := 0) rfl
                      have y1 := HXl.out.1.cell (i := 1) rfl
                      have y2 := HXl.out.1.cell (i := 2) rfl
                      have y3 := HXl.out.1.cell (i := 3) rfl
                      have y4 := HXl.out.1.cell (i := 4) rfl
                      have C := Lib.hid (alike_any _ u (Nat.le_refl _) ⟨mk, mn, ms, mla, mln, mlc, mfa, mfn, mfc⟩ ⟨lk, ln, ls, lla, lln, llc, lfa, lfn, lfc⟩ V217 HE216.out.2 HXl.out.2)
                      go_wp2_with fail
                      refine C.out.mono ?_
                      rintro e w218 ⟨rfl, hb⟩
                      clear C
                      clear z0 z1 z2 z3 z4
                      clear y0 y1 y2 y3 y4
                      have HBe := Lib.hid (below_all HS212.out.1 hb)
                      clear hb
                      have CL := Lib.hid (plives_any w218)
                      go_wp2_with fail
                      refine CL.out.mono ?_
                      rintro e wl ⟨rfl, hbl⟩
                      have HBl := Lib.hid (below_all HBe.out hbl)
                      clear CL hbl
                      go_wp2
                      go_ret
                      exact ⟨rfl, HBl.out⟩
                    · skip
                      have hno : pathOk q = true → findT t q = none := fun h => by
                        cases hq : findT t q with
                        | none => rfl
                        | some u => exact absurd ⟨h, u, hq⟩ hgot
                      obtain rfl := hres.no hno
                      have hIm := is_zero w196
                      have HU : Hid (pathOk q = true → findT wt q = none) := Lib.hid (fun h => (HOT.out h).trans (hno h))
                      clear hgot hno HOT
                      have hbr := hres.below
                      have HS219 := Lib.hid (show Below w.heap.size w w196 ∧ Own w196 w.heap.size [.int .i64 ck, .int .i64 cn, sV cs, .slice cla cln clc, .slice cfa cfn cfc, .slice pao pn pcp, .slice qao qn qcp, .int .i64 gk, .int .i64 gn, sV gs, .slice gla gln glc, .slice gfa gfn gfc, .int .i64 hk, .int .i64 hn, sV hs, .slice hla hln hlc, .slice hfa hfn hfc] 49 ∧ Is w196 ⟨ck, cn, cs, cla, cln, clc, cfa, cfn, cfc⟩ t ∧ Is w196 ⟨gk, gn, gs, gla, gln, glc, gfa, gfn, gfc⟩ x ∧ Is w196 ⟨hk, hn, hs, hla, hln, hlc, hfa, hfn, hfc⟩ y ∧ Stps w196 (.slice pao pn pcp) p ∧ Stps w196 (.slice qao qn qcp) q from ⟨below_all HS192.out.1 hbr, HS192.out.2.1.all hbr, HS192.out.2.2.1.all hbr, HS192.out.2.2.2.1.all hbr, HS192.out.2.2.2.2.1.all hbr, Flat.all HS192.out.2.2.2.2.2.1 hbr, Flat.all HS192.out.2.2.2.2.2.2 hbr⟩)
                      have HE220 := Lib.hid (And.intro (HE193.out.1.all hbr) (HE193.out.2.all hbr))
                      have HE221 := Lib.hid (And.intro (HE194.out.1.all hbr) (HE194.out.2.all hbr))
                      have HE222 := Lib.hid (And.intro (HE195.out.1.all hbr) (HE195.out.2.all hbr))
                      clear HS192 HE193 HE194 HE195
                      have hbA := below_alloc w196 (.cells #[.int .i64 0, .int .i64 0, .string ⟨#[]⟩, .slice none 0 0, .slice none 0 0] 25)
                      have HXm := Lib.hid (And.intro (Own.new w196 [.int .i64 0, .int .i64 0, .string ⟨#[]⟩, .slice none 0 0, .slice none 0 0] 25) (hIm.all hbA))
                      have HS223 := Lib.hid (show Below w.heap.size w (w196.alloc (.cells #[.int .i64 0, .int .i64 0, .string ⟨#[]⟩, .slice none 0 0, .slice none 0 0] 25)) ∧ Own (w196.alloc (.cells #[.int .i64 0, .int .i64 0, .string ⟨#[]⟩, .slice none 0 0, .slice none 0 0] 25)) w.heap.size [.int .i64 ck, .int .i64 cn, sV cs, .slice cla cln clc, .slice cfa cfn cfc, .slice pao pn pcp, .slice qao qn qcp, .int .i64 gk, .int .i64 gn, sV gs, .slice gla gln glc, .slice gfa gfn gfc, .int .i64 hk, .int .i64 hn, sV hs, .slice hla hln hlc, .slice hfa hfn hfc] 49 ∧ Is (w196.alloc (.cells #[.int .i64 0, .int .i64 0, .string ⟨#[]⟩, .slice none 0 0, .slice none 0 0] 25)) ⟨ck, cn, cs, cla, cln, clc, cfa, cfn, cfc⟩ t ∧ Is (w196.alloc (.cells #[.int .i64 0, .int .i64 0, .string ⟨#[]⟩, .slice none 0 0, .slice none 0 0] 25)) ⟨gk, gn, gs, gla, gln, glc, gfa, gfn, gfc⟩ x ∧ Is (w196.alloc (.cells #[.int .i64 0, .int .i64 0, .string ⟨#[]⟩, .slice none 0 0, .slice none 0 0] 25)) ⟨hk, hn, hs, hla, hln, hlc, hfa, hfn, hfc⟩ y ∧ Stps (w196.alloc (.cells #[.int .i64 0, .int .i64 0, .string ⟨#[]⟩, .slice none 0 0, .slice none 0 0] 25)) (.slice pao pn pcp) p ∧ Stps (w196.alloc (.cells #[.int .i64 0, .int .i64 0, .string ⟨#[]⟩, .slice none 0 0, .slice none 0 0] 25)) (.slice qao qn qcp) q from ⟨below_all HS219.out.1 hbA, HS219.out.2.1.all hbA, HS219.out.2.2.1.all hbA, HS219.out.2.2.2.1.all hbA, HS219.out.2.2.2.2.1.all hbA, Flat.all HS219.out.2.2.2.2.2.1 hbA, Flat.all HS219.out.2.2.2.2.2.2 hbA⟩)
                      have HE224 := Lib.hid (And.intro (HE220.out.1.all hbA) (HE220.out.2.all hbA))
                      have HE225 := Lib.hid (And.intro (HE221.out.1.all hbA) (HE221.out.2.all hbA))
                      have HE226 := Lib.hid (And.intro (HE222.out.1.all hbA) (HE222.out.2.all hbA))
                      clear HS219 HE220 HE221 HE222
                      clear hres hbr hbA hIm
                      go_upto_region 15 with (fail)
                      change Code.wp Tryz.prog _ _ _ (w196.alloc (.cells #[.int .i64 0, .int .i64 0, .string ⟨#[]⟩, .slice none 0 0, .slice none 0 0] 25))
                      generalize (w196.alloc (.cells #[.int .i64 0, .int .i64 0, .string ⟨#[]⟩, .slice none 0 0, .slice none 0 0] 25)) = V227 at *
                      generalize w196.heap.size = bxm at *
                      have z6 := HS223.out.2.1.cell (i := 6) rfl
                      have y0 := HE224.out.1.cell (i := 0) rfl
                      have y1 := HE224.out.1.cell (i := 1) rfl
                      have y2 := HE224.out.1.cell (i := 2) rfl
                      have y3 := HE224.out.1.cell (i := 3) rfl
                      have y4 := HE224.out.1.cell (i := 4) rfl
                      have C := Lib.hid (pathGet_any ⟨rk, rn, rs, rla, rln, rlc, rfa, rfn, rfc⟩ wt _ q V227 HE224.out.2 (by have := HM.out.2.1.2; omega) HS223.out.2.2.2.2.2.2 (by have := HSZ.out.2.2; omega))
                      go_wp2_with fail
                      refine C.out.mono ?_
                      intro e w228 hres
                      clear C
                      clear z6
                      clear y0 y1 y2 y3 y4
                      obtain rfl := hres.no HU.out
                      have hIl := is_zero w228
                      have hbr := hres.below
                      have HS229 := Lib.hid (show Below w.heap.size w w228 ∧ Own w228 w.heap.size [.int .i64 ck, .int .i64 cn, sV cs, .slice cla cln clc, .slice cfa cfn cfc, .slice pao pn pcp, .slice qao qn qcp, .int .i64 gk, .int .i64 gn, sV gs, .slice gla gln glc, .slice gfa gfn gfc, .int .i64 hk, .int .i64 hn, sV hs, .slice hla hln hlc, .slice hfa hfn hfc] 49 ∧ Is w228 ⟨ck, cn, cs, cla, cln, clc, cfa, cfn, cfc⟩ t ∧ Is w228 ⟨gk, gn, gs, gla, gln, glc, gfa, gfn, gfc⟩ x ∧ Is w228 ⟨hk, hn, hs, hla, hln, hlc, hfa, hfn, hfc⟩ y ∧ Stps w228 (.slice pao pn pcp) p ∧ Stps w228 (.slice qao qn qcp) q from ⟨below_all HS223.out.1 hbr, HS223.out.2.1.all hbr, HS223.out.2.2.1.all hbr, HS223.out.2.2.2.1.all hbr, HS223.out.2.2.2.2.1.all hbr, Flat.all HS223.out.2.2.2.2.2.1 hbr, Flat.all HS223.out.2.2.2.2.2.2 hbr⟩)
                      have HE230 := Lib.hid (And.intro (HE224.out.1.all hbr) (HE224.out.2.all hbr))
                      have HE231 := Lib.hid (And.intro (HE225.out.1.all hbr) (HE225.out.2.all hbr))
                      have HE232 := Lib.hid (And.intro (HE226.out.1.all hbr) (HE226.out.2.all hbr))
                      have HE233 := Lib.hid (And.intro (HXm.out.1.all hbr) (HXm.out.2.all hbr))
                      clear HS223 HE224 HE225 HE226 HXm
                      have hbA := below_alloc w228 (.cells #[.int .i64 0, .int .i64 0, .string ⟨#[]⟩, .slice none 0 0, .slice none 0 0] 25)
                      have HXl := Lib.hid (And.intro (Own.new w228 [.int .i64 0, .int .i64 0, .string ⟨#[]⟩, .slice none 0 0, .slice none 0 0] 25) (hIl.all hbA))
                      have HS234 := Lib.hid (show Below w.heap.size w (w228.alloc (.cells #[.int .i64 0, .int .i64 0, .string ⟨#[]⟩, .slice none 0 0, .slice none 0 0] 25)) ∧ Own (w228.alloc (.cells #[.int .i64 0, .int .i64 0, .string ⟨#[]⟩, .slice none 0 0, .slice none 0 0] 25)) w.heap.size [.int .i64 ck, .int .i64 cn, sV cs, .slice cla cln clc, .slice cfa cfn cfc, .slice pao pn pcp, .slice qao qn qcp, .int .i64 gk, .int .i64 gn, sV gs, .slice gla gln glc, .slice gfa gfn gfc, .int .i64 hk, .int .i64 hn, sV hs, .slice hla hln hlc, .slice hfa hfn hfc] 49 ∧ Is (w228.alloc (.cells #[.int .i64 0, .int .i64 0, .string ⟨#[]⟩, .slice none 0 0, .slice none 0 0] 25)) ⟨ck, cn, cs, cla, cln, clc, cfa, cfn, cfc⟩ t ∧ Is (w228.alloc (.cells #[.int .i64 0, .int .i64 0, .string ⟨#[]⟩, .slice none 0 0, .slice none 0 0] 25)) ⟨gk, gn, gs, gla, gln, glc, gfa, gfn, gfc⟩ x ∧ Is (w228.alloc (.cells #[.int .i64 0, .int .i64 0, .string ⟨#[]⟩, .slice none 0 0, .slice none 0 0] 25)) ⟨hk, hn, hs, hla, hln, hlc, hfa, hfn, hfc⟩ y ∧ Stps (w228.alloc (.cells #[.int .i64 0, .int .i64 0, .string ⟨#[]⟩, .slice none 0 0, .slice none 0 0] 25)) (.slice pao pn pcp) p ∧ Stps (w228.alloc (.cells #[.int .i64 0, .int .i64 0, .string ⟨#[]⟩, .slice none 0 0, .slice none 0 0] 25)) (.slice qao qn qcp) q from ⟨below_all HS229.out.1 hbA, HS229.out.2.1.all hbA, HS229.out.2.2.1.all hbA, HS229.out.2.2.2.1.all hbA, HS229.out.2.2.2.2.1.all hbA, Flat.all HS229.out.2.2.2.2.2.1 hbA, Flat.all HS229.out.2.2.2.2.2.2 hbA⟩)
                      have HE235 := Lib.hid (And.intro (HE230.out.1.all hbA) (HE230.out.2.all hbA))
                      have HE236 := Lib.hid (And.intro (HE231.out.1.all hbA) (HE231.out.2.all hbA))
                      have HE237 := Lib.hid (And.intro (HE232.out.1.all hbA) (HE232.out.2.all hbA))
                      have HE238 := Lib.hid (And.intro (HE233.out.1.all hbA) (HE233.out.2.all hbA))
                      clear HS229 HE230 HE231 HE232 HE233
                      clear hres hbr hbA hIl
                      go_upto_region 16 with (fail)
                      change Code.wp Tryz.prog _ _ _ (w228.alloc (.cells #[.int .i64 0, .int .i64 0, .string ⟨#[]⟩, .slice none 0 0, .slice none 0 0] 25))
                      generalize (w228.alloc (.cells #[.int .i64 0, .int .i64 0, .string ⟨#[]⟩, .slice none 0 0, .slice none 0 0] 25)) = V239 at *
                      generalize w228.heap.size = bxl at *
                      have z0 := HE238.out.1.cell (i := 0) rfl
                      have z1 := HE238.out.1.cell (i := 1) rfl
                      have z2 := HE238.out.1.cell (i := 2) rfl
                      have z3 := HE238.out.1.cell (i := 3) rfl
                      have z4 := HE238.out.1.cell (i := 4) rfl
                      have y0 := HXl.out.1.cell (i := 0) rfl
                      have y1 := HXl.out.1.cell (i := 1) rfl
                      have y2 := HXl.out.1.cell (i := 2) rfl
                      have y3 := HXl.out.1.cell (i := 3) rfl
                      have y4 := HXl.out.1.cell (i := 4) rfl
                      have C := Lib.hid (alike_any _ T0 (Nat.le_refl _) ⟨0, 0, [], none, 0, 0, none, 0, 0⟩ ⟨0, 0, [], none, 0, 0, none, 0, 0⟩ V239 HE238.out.2 HXl.out.2)
                      go_wp2_with fail
                      refine C.out.mono ?_
                      rintro e w240 ⟨rfl, hb⟩
                      clear C
                      clear z0 z1 z2 z3 z4
                      clear y0 y1 y2 y3 y4
                      have HBe := Lib.hid (below_all HS234.out.1 hb)
                      clear hb
                      have CL := Lib.hid (plives_any w240)
                      go_wp2_with fail
                      refine CL.out.mono ?_
                      rintro e wl ⟨rfl, hbl⟩
                      have HBl := Lib.hid (below_all HBe.out hbl)
                      clear CL hbl
                      go_wp2
                      go_ret
                      exact ⟨rfl, HBl.out⟩
end Go.Proofs.YtjpmnlefjmdelaaGreatDoor
