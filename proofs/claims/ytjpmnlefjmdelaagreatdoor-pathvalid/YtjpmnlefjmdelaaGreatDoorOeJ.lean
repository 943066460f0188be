/- Lists of steps that came in, opened. -/
import Derived.Test.YtjpmnlefjmdelaaGreatDoorOpJ
import Derived.Test.YtjpmnlefjmdelaaGreatDoorXcJ
namespace Go.Proofs.YtjpmnlefjmdelaaGreatDoor
open Go.Joins Go.ChangeShapes Go.WideShapes Go.RowKit Go.Deep Go.Proofs.LawFrame
instance : Inhabited S := ⟨S0⟩
theorem cells52 : Tryz.prog.cellsOf 52 = 4 := by kernel_rfl
section
variable {H : Type} {enc : TypeId × Value → H} {w : World} {held : Bool}
theorem list4 {α : Type} {l : List α} (h : l.length = 4) : ∃ x0 x1 x2 x3, l = [x0, x1, x2, x3] := by
  obtain ⟨x0, t0, rfl, h0⟩ := list_succ h
  obtain ⟨x1, x2, x3, rfl⟩ := list3 h0
  exact ⟨x0, x1, x2, x3, rfl⟩
theorem steps_of {fuel : Nat} {v : Value} {y : DataW H × List MemPlace} (h : DataW.trod enc Tryz.prog w 0 (fun _ => true) held fuel 36 [v] = some y) : ∃ l : List S, Stps w v l := by
  obtain ⟨la, ln, lc, L, rfl, hln, hL1, hL2⟩ := slice_at (α := S) (m := 4) (by omega) (fun p => p.cells) (fun _ => rfl) cells52 Tryz.underlying36 h (fun _ => True) (fun n' cs' y' hn' h' => by
    obtain ⟨m', hm', hl', hf'⟩ := fields_at Tryz.underlying52 h'
    rw [cells52] at hl'
    obtain ⟨z0, z1, z2, z3, rfl⟩ := list4 hl'
    obtain ⟨u0, g0⟩ := hf' 0 3 0 1 _ rfl rfl rfl cells3
    obtain ⟨u1, g1⟩ := hf' 1 9 1 1 _ rfl rfl rfl cells9
    obtain ⟨u2, g2⟩ := hf' 2 3 2 1 _ rfl rfl rfl cells3
    obtain ⟨u3, g3⟩ := hf' 3 9 3 1 _ rfl rfl rfl cells9
    simp only [List.drop_succ_cons, List.drop_zero, List.take_succ_cons, List.take_zero] at g0 g1 g2 g3
    obtain ⟨k, e0, _⟩ := DataW.trod_int Tryz.underlying3 g0
    obtain ⟨nm, e1, _⟩ := DataW.trod_string Tryz.underlying9 g1
    obtain ⟨ix, e2, _⟩ := DataW.trod_int Tryz.underlying3 g2
    obtain ⟨vl, e3, _⟩ := DataW.trod_string Tryz.underlying9 g3
    simp only [List.cons.injEq, and_true] at e0 e1 e2 e3
    subst e0 e1 e2 e3
    obtain ⟨nm, rfl⟩ := str_list nm
    obtain ⟨vl, rfl⟩ := str_list vl
    exact ⟨⟨k, nm, ix, vl⟩, rfl, trivial⟩)
  subst hln
  exact ⟨L, hL1⟩
end
set_option maxRecDepth 100000 in
theorem steps_arg {H : Type} {enc : TypeId × Value → H} {w : World} {base : Nat} {v : Value} {d : DataW H} {p : List MemPlace} (hv : Value.okWide Tryz.prog w .any base 36 v) (h : DataW.Trod enc Tryz.prog w 0 (fun _ => true) true 36 v d p) : ∃ l : List S, Stps w v l := by
  obtain ⟨qa, qn, qc, rfl⟩ := okWide_slice Tryz.underlying36 hv
  obtain ⟨fu, hu⟩ := h
  exact steps_of (show DataW.trod enc Tryz.prog w 0 (fun _ => true) true fu 36 [.slice qa qn qc] = _ from hu)
end Go.Proofs.YtjpmnlefjmdelaaGreatDoor
