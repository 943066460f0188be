/- The law PathRoundTrip. -/
import Derived.Test.YtjpmnlefjmdelaaDoorXzJ
import Derived.Test.YtjpmnlefjmdelaaDoorYb
import Derived.Test.YtjpmnlefjmdelaaDoorZcJ
import Derived.Test.YtjpmnlefjmdelaaDoorXiJ
set_option linter.unusedSimpArgs false
set_option linter.unusedVariables false
namespace Go.Proofs.YtjpmnlefjmdelaaDoor
open Go.RowKit Go.Sort Go.Proofs.LawFrame

theorem resP_len2 (s : Str) : (resP s).1.length ≤ 16 := by
  unfold resP
  split
  · simp
  · split
    · simp
    · split
      · rename_i hk
        exact (pathOk_all hk).1
      · simp
set_option maxHeartbeats 8000000 in
set_option maxRecDepth 4000 in
theorem pathRound_walk (v1 : Value) (p : List S) (s : Str) (w : World) (hp : Stps w v1 p) :
    Calls Tryd.prog 4 #[v1, sV s] w fun e w' => e = .returned (.bool true) ∧ Below w.heap.size w w' := by
  obtain ⟨ao, cp, hv, hpc, hpm⟩ := Stps.form hp
  unfold maxLen at hpm
  obtain ⟨n, hn⟩ : ∃ n, p.length = n := ⟨_, rfl⟩
  rw [hn] at hv hpc
  subst hv
  have HN := Lib.hid hn
  clear hn
  have C := Lib.hid (few_any _ p w hp)
  have HS := Lib.hid (And.intro (Below.refl w.heap.size w) hp)
  obtain ⟨B1, hB1⟩ : ∃ B, fewOk p = B := ⟨_, rfl⟩
  rw [hB1] at C
  have HB1 := Lib.hid hB1
  clear hB1 hp
  go_enter Tryd.func4, Tryd.ntmps4
  go_wp2_with fail
  refine C.out.mono ?_
  rintro e w1 ⟨rfl, hb1⟩
  have HS1 := Lib.hid (And.intro hb1 (Flat.all HS.out.2 hb1))
  clear C hb1 HS
  cases B1 with
  | false =>
    have CL := Lib.hid (plives_any w1)
    go_wp2_with fail
    refine CL.out.mono ?_
    rintro e wl ⟨rfl, hbl⟩
    have HBl := Lib.hid (below_all HS1.out.1 hbl)
    clear CL hbl
    go_wp2
    go_ret
    exact ⟨rfl, HBl.out⟩
  | true =>
    by_cases hs : s.length ≤ 3000
    case neg =>
      have CL := Lib.hid (plives_any w1)
      go_wp2_with fail
      refine CL.out.mono ?_
      rintro e wl ⟨rfl, hbl⟩
      have HBl := Lib.hid (below_all HS1.out.1 hbl)
      clear CL hbl
      go_wp2
      go_ret
      exact ⟨rfl, HBl.out⟩
    have HF := Lib.hid (fewOk_iff HB1.out)
    have C := Lib.hid (printPath_any _ p w1 HS1.out.2 (by have := HF.out.1; omega))
    by_cases hk : pathOk p = true
    · have HK := Lib.hid hk
      rw [show prP p = (pathT true p, 0) from by unfold prP; rw [if_pos hk]] at C
      have hlen := pathT_len p true (pathOk_all hk).2
      have h16 := (pathOk_all hk).1
      have HPR := Lib.hid (parse_print_path hk (by omega))
      generalize pathT true p = pt at *
      have HLP : Hid (pt.length ≤ 20000) := Lib.hid (by omega)
      clear hk hlen h16
      go_wp2_with fail
      refine C.out.mono ?_
      rintro e w2 ⟨rfl, hb2⟩
      have HS2 := Lib.hid (And.intro (below_all HS1.out.1 hb2) (Flat.all HS1.out.2 hb2))
      clear C hb2 HS1
      have C := Lib.hid (parsePath_any pt w2 (by have := HLP.out; omega))
      go_wp2_with fail
      refine C.out.mono ?_
      rintro e w3 hr
      obtain ⟨v3, he, hs3⟩ := hr.out
      rw [HPR.out] at he hs3
      simp only at he hs3
      subst he
      have HS3 := Lib.hid (And.intro (below_all HS2.out.1 hr.below) (And.intro (Flat.all HS2.out.2 hr.below) hs3))
      clear C hr hs3 HS2
      obtain ⟨a3, c3, hv3, -, -⟩ := Stps.form HS3.out.2.2
      subst hv3
      have C := Lib.hid (same_any _ _ p w3 HS3.out.2.2 HS3.out.2.1 (by have := HF.out.1; omega))
      go_wp2_with fail
      refine C.out.mono ?_
      rintro e w4 ⟨rfl, hb4⟩
      have HS4 := Lib.hid (And.intro (below_all HS3.out.1 hb4) trivial)
      clear C hb4 HS3
      have C := Lib.hid (parsePath_any s w4 (by omega))
      have HRL := Lib.hid (resP_len2 s)
      go_wp2_with fail
      refine C.out.mono ?_
      rintro e wq hr
      obtain ⟨vq, he, hsq⟩ := hr.out
      obtain ⟨q, hq⟩ : ∃ q, (resP s).1 = q := ⟨_, rfl⟩
      obtain ⟨er, her⟩ : ∃ q, (resP s).2 = q := ⟨_, rfl⟩
      rw [her] at he
      rw [hq] at hsq HRL
      subst he
      have HR := Lib.hid (show resP s = (q, er) from by rw [← hq, ← her])
      have HSQ := Lib.hid (And.intro (below_all HS4.out.1 hr.below) hsq)
      clear C hr hsq hq her HS4
      obtain ⟨aq, cq, hvq, -, -⟩ := Stps.form HSQ.out.2
      subst hvq
      by_cases h0 : er = 0
      case neg =>
        have h0b : (er == 0) = false := by rw [beq_eq_false_iff_ne]; exact h0
        have CL := Lib.hid (plives_any wq)
        go_wp2_with fail
        refine CL.out.mono ?_
        rintro e wl ⟨rfl, hbl⟩
        have HBl := Lib.hid (below_all HSQ.out.1 hbl)
        clear CL hbl
        go_wp2
        go_ret
        exact ⟨rfl, HBl.out⟩
      subst h0
      have HPP := Lib.hid (print_parse_path HR.out)
      have C := Lib.hid (printPath_any _ q wq HSQ.out.2 (by have := HRL.out; omega))
      rw [show prP q = (s, 0) from by unfold prP; rw [if_pos HPP.out.1, HPP.out.2]] at C
      go_wp2_with fail
      refine C.out.mono ?_
      rintro e wt ⟨rfl, hbt⟩
      have HST := Lib.hid (And.intro (below_all HSQ.out.1 hbt) (Flat.all HSQ.out.2 hbt))
      clear C hbt HSQ
      have C := Lib.hid (pathValid_any _ q wt HST.out.2 (by have := HRL.out; omega))
      rw [HPP.out.1] at C
      go_wp2_with fail
      refine C.out.mono ?_
      rintro e wv ⟨rfl, hbv⟩
      have HBV := Lib.hid (below_all HST.out.1 hbv)
      clear C hbv HST
      have CL := Lib.hid (plives_any wv)
      go_wp2_with fail
      refine CL.out.mono ?_
      rintro e wl ⟨rfl, hbl⟩
      have HBl := Lib.hid (below_all HBV.out hbl)
      clear CL hbl
      go_wp2
      go_ret
      exact ⟨rfl, HBl.out⟩
    · rw [show prP p = ([], 1) from by unfold prP; rw [if_neg hk]] at C
      clear hk
      go_wp2_with fail
      refine C.out.mono ?_
      rintro e w2 ⟨rfl, hb2⟩
      have HS2 := Lib.hid (And.intro (below_all HS1.out.1 hb2) trivial)
      clear C hb2 HS1
      have C := Lib.hid (parsePath_any s w2 (by omega))
      have HRL := Lib.hid (resP_len2 s)
      go_wp2_with fail
      refine C.out.mono ?_
      rintro e wq hr
      obtain ⟨vq, he, hsq⟩ := hr.out
      obtain ⟨q, hq⟩ : ∃ q, (resP s).1 = q := ⟨_, rfl⟩
      obtain ⟨er, her⟩ : ∃ q, (resP s).2 = q := ⟨_, rfl⟩
      rw [her] at he
      rw [hq] at hsq HRL
      subst he
      have HR := Lib.hid (show resP s = (q, er) from by rw [← hq, ← her])
      have HSQ := Lib.hid (And.intro (below_all HS2.out.1 hr.below) hsq)
      clear C hr hsq hq her HS2
      obtain ⟨aq, cq, hvq, -, -⟩ := Stps.form HSQ.out.2
      subst hvq
      by_cases h0 : er = 0
      case neg =>
        have h0b : (er == 0) = false := by rw [beq_eq_false_iff_ne]; exact h0
        have CL := Lib.hid (plives_any wq)
        go_wp2_with fail
        refine CL.out.mono ?_
        rintro e wl ⟨rfl, hbl⟩
        have HBl := Lib.hid (below_all HSQ.out.1 hbl)
        clear CL hbl
        go_wp2
        go_ret
        exact ⟨rfl, HBl.out⟩
      subst h0
      have HPP := Lib.hid (print_parse_path HR.out)
      have C := Lib.hid (printPath_any _ q wq HSQ.out.2 (by have := HRL.out; omega))
      rw [show prP q = (s, 0) from by unfold prP; rw [if_pos HPP.out.1, HPP.out.2]] at C
      go_wp2_with fail
      refine C.out.mono ?_
      rintro e wt ⟨rfl, hbt⟩
      have HST := Lib.hid (And.intro (below_all HSQ.out.1 hbt) (Flat.all HSQ.out.2 hbt))
      clear C hbt HSQ
      have C := Lib.hid (pathValid_any _ q wt HST.out.2 (by have := HRL.out; omega))
      rw [HPP.out.1] at C
      go_wp2_with fail
      refine C.out.mono ?_
      rintro e wv ⟨rfl, hbv⟩
      have HBV := Lib.hid (below_all HST.out.1 hbv)
      clear C hbv HST
      have CL := Lib.hid (plives_any wv)
      go_wp2_with fail
      refine CL.out.mono ?_
      rintro e wl ⟨rfl, hbl⟩
      have HBl := Lib.hid (below_all HBV.out hbl)
      clear CL hbl
      go_wp2
      go_ret
      exact ⟨rfl, HBl.out⟩
end Go.Proofs.YtjpmnlefjmdelaaDoor
