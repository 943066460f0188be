/- The law PathValid. -/
import Derived.Test.YtjpmnlefjmdelaaGreatDoorYcJ
import Derived.Test.YtjpmnlefjmdelaaGreatDoorXzJ
import Derived.Test.YtjpmnlefjmdelaaGreatDoorYb
set_option linter.unusedSimpArgs false
set_option linter.unusedVariables false
namespace Go.Proofs.YtjpmnlefjmdelaaGreatDoor
open Go.RowKit Go.Sort Go.Proofs.LawFrame

set_option maxHeartbeats 8000000 in
set_option maxRecDepth 4000 in
theorem pathValid_walk (v1 v2 : Value) (p q : List S) (w : World) (h1 : Stps w v1 p) (h2 : Stps w v2 q) :
    Calls Tryz.prog 7 #[v1, v2] w fun e w' => e = .returned (.bool true) ∧ Below w.heap.size w w' := by
  have C1 := Lib.hid (few_any v1 p w h1)
  have HS := Lib.hid (And.intro h1 h2)
  clear h1 h2
  obtain ⟨B1, hB1⟩ : ∃ B, fewOk p = B := ⟨_, rfl⟩
  rw [hB1] at C1
  have HB1 := Lib.hid hB1
  clear hB1
  go_enter Tryz.func7, Tryz.ntmps7
  go_wp2_with fail
  refine C1.out.mono ?_
  rintro e w1 ⟨rfl, hb1⟩
  have HB := Lib.hid hb1
  clear C1 hb1
  cases B1 with
  | false =>
    have CL := Lib.hid (plives_any w1)
    go_wp2_with fail
    refine CL.out.mono ?_
    rintro e w2 ⟨rfl, hb2⟩
    have HB2 := Lib.hid (below_all HB.out hb2)
    clear CL hb2
    go_wp2
    go_ret
    exact ⟨rfl, HB2.out⟩
  | true =>
    have C2 := Lib.hid (few_any v2 q w1 (Flat.all HS.out.2 HB.out))
    obtain ⟨B2, hB2⟩ : ∃ B, fewOk q = B := ⟨_, rfl⟩
    rw [hB2] at C2
    have HB2 := Lib.hid hB2
    clear hB2
    go_wp2_with fail
    refine C2.out.mono ?_
    rintro e w2 ⟨rfl, hb2⟩
    have HW2 := Lib.hid (below_all HB.out hb2)
    clear C2 hb2
    cases B2 with
    | false =>
      have CL := Lib.hid (plives_any w2)
      go_wp2_with fail
      refine CL.out.mono ?_
      rintro e w3 ⟨rfl, hb3⟩
      have HB3 := Lib.hid (below_all HW2.out hb3)
      clear CL hb3
      go_wp2
      go_ret
      exact ⟨rfl, HB3.out⟩
    | true =>
      have hp := fewOk_iff HB1.out
      have hq := fewOk_iff HB2.out
      have hp0 := hp.1
      have hq0 := hq.1
      have C3 := Lib.hid (pathValid_any v1 p w2 (Flat.all HS.out.1 HW2.out) (by omega))
      have C4 := Lib.hid (fun w3 (h : Below w.heap.size w w3) => rvPath_any v1 p w3 (Flat.all HS.out.1 h) (by omega) (fun s hs => by have := hp.2 s hs; omega))
      have C5 := Lib.hid (fun w3 (h : Below w.heap.size w w3) => hasPrefix_any v1 v2 p q w3 (Flat.all HS.out.1 h) (Flat.all HS.out.2 h) (by omega) (by omega))
      have C6 := Lib.hid (fun w3 (h : Below w.heap.size w w3) => rhasPrefix_any v1 v2 p q w3 (Flat.all HS.out.1 h) (Flat.all HS.out.2 h) (by omega) (by omega))
      generalize pathOk p = V at *
      generalize hasPre p q = P at *
      clear hp hq hp0 hq0
      go_wp2_with fail
      refine C3.out.mono ?_
      rintro e w3 ⟨rfl, hb3⟩
      have HW3 := Lib.hid (below_all HW2.out hb3)
      clear C3 hb3
      go_wp2_with fail
      refine (C4.out _ HW3.out).mono ?_
      rintro e w4 ⟨rfl, hb4⟩
      have HW4 := Lib.hid (below_all HW3.out hb4)
      clear C4 hb4
      go_wp2_with fail
      refine (C5.out _ HW4.out).mono ?_
      rintro e w5 ⟨rfl, hb5⟩
      have HW5 := Lib.hid (below_all HW4.out hb5)
      clear C5 hb5
      go_wp2_with fail
      refine (C6.out _ HW5.out).mono ?_
      rintro e w6 ⟨rfl, hb6⟩
      have HW6 := Lib.hid (below_all HW5.out hb6)
      clear C6 hb6
      have CL := Lib.hid (plives_any w6)
      go_wp2_with fail
      refine CL.out.mono ?_
      rintro e w7 ⟨rfl, hb7⟩
      have HW7 := Lib.hid (below_all HW6.out hb7)
      clear CL hb7
      go_wp2
      go_ret
      exact ⟨rfl, HW7.out⟩
end Go.Proofs.YtjpmnlefjmdelaaGreatDoor
