/- The law PathParses. -/
import Derived.Test.YtjpmnlefjmdelaaGreatDoorYjJ
import Derived.Test.YtjpmnlefjmdelaaGreatDoorXzJ
import Derived.Test.YtjpmnlefjmdelaaGreatDoorYb
set_option linter.unusedSimpArgs false
set_option linter.unusedVariables false
namespace Go.Proofs.YtjpmnlefjmdelaaGreatDoor
open Go.RowKit Go.Sort Go.Proofs.LawFrame

theorem resP_len (s : Str) : (resP s).1.length ≤ s.length := by
  unfold resP
  split
  · simp
  · split
    · simp
    · rename_i l h
      split
      · exact pathP_len _ _ _ _ h
      · simp
set_option maxHeartbeats 8000000 in
set_option maxRecDepth 4000 in
theorem pathParses_walk (s : Str) (w : World) : Calls Tryz.prog 8 #[sV s] w fun e w' => e = .returned (.bool true) ∧ Below w.heap.size w w' := by
  by_cases hbad : (3000 < s.length ∧ s.length ≤ 20000) ∨ 20100 < s.length
  · have CL := Lib.hid (plives_any w)
    rcases hbad with ⟨h1, h2⟩ | h1
    · go_enter Tryz.func8, Tryz.ntmps8
      go_wp2_with fail
      refine CL.out.mono ?_
      rintro e w2 ⟨rfl, hb2⟩
      go_wp2
      go_ret
      exact ⟨rfl, hb2⟩
    · have h2 : 3000 < s.length := by omega
      have h3 : ¬ s.length ≤ 20000 := by omega
      go_enter Tryz.func8, Tryz.ntmps8
      go_wp2_with fail
      refine CL.out.mono ?_
      rintro e w2 ⟨rfl, hb2⟩
      go_wp2
      go_ret
      exact ⟨rfl, hb2⟩
  · have hs : s.length ≤ 20100 := by omega
    have hd : ¬ 3000 < s.length ∨ (3000 < s.length ∧ ¬ s.length ≤ 20000) := by omega
    have hq : ¬ 20100 < s.length := by omega
    have C1 := Lib.hid (parsePath_any s w (by omega))
    have hlen := resP_len s
    have C2 := Lib.hid (fun w2 => pparse_any s w2 (by omega))
    have HL := Lib.hid (show (resP s).1.length ≤ 100000 by omega)
    clear hlen hbad
    go_enter Tryz.func8, Tryz.ntmps8
    rcases hd with hd | ⟨hd, hd2⟩
    all_goals
      go_wp2_with fail
      refine C1.out.mono ?_
      rintro e w1 hr1
      obtain ⟨v1, rfl, hst1⟩ := hr1.out
      have HB1 := Lib.hid (And.intro hr1.below hst1)
      obtain ⟨ao1, cp1, hv1, -, -⟩ := Stps.form hst1
      clear C1 hr1 hst1
      subst hv1
      go_wp2_with fail
      refine (C2.out w1).mono ?_
      rintro e w2 hr2
      obtain ⟨v2, rfl, hst2⟩ := hr2.out
      have HB2 := Lib.hid (And.intro (below_all HB1.out.1 hr2.below) (And.intro (Flat.all HB1.out.2 hr2.below) hst2))
      obtain ⟨ao2, cp2, hv2, -, -⟩ := Stps.form hst2
      clear C2 hr2 hst2 HB1
      subst hv2
      have C3 := Lib.hid (same_any _ _ (resP s).1 w2 HB2.out.2.1 HB2.out.2.2 HL.out)
      generalize resP s = rp at *
      obtain ⟨rp1, rp2⟩ := rp
      simp only at *
      go_wp2_with fail
      refine C3.out.mono ?_
      rintro e w3 ⟨rfl, hb3⟩
      have HB3 := Lib.hid (below_all HB2.out.1 hb3)
      have CL := Lib.hid (plives_any w3)
      clear C3 hb3
      go_wp2_with fail
      refine CL.out.mono ?_
      rintro e w4 ⟨rfl, hb4⟩
      have HB4 := Lib.hid (below_all HB3.out hb4)
      clear CL hb4
      go_wp2
      go_ret
      exact ⟨rfl, HB4.out⟩
end Go.Proofs.YtjpmnlefjmdelaaGreatDoor
