/- Lists of values and of fields that came in, opened. -/
import Derived.Test.YtmmembmohkideaaOpJ
namespace Go.Proofs.Ytmmembmohkideaa
open Go.Joins Go.ChangeShapes Go.WideShapes Go.RowKit Go.Deep Go.Proofs.LawFrame
section
variable {H : Type} {enc : TypeId × Value → H} {w : World} {held : Bool}
theorem vals_of {fuel : Nat} {v : Value} {y : DataW H × List MemPlace} (h : DataW.trod enc Try.prog w 0 (fun _ => true) held fuel 22 [v] = some y) : ∃ l : List T, Vals w v l := by
  obtain ⟨la, ln, lc, L, rfl, hln, hL1, hL2⟩ := slice_at (α := VC × T) (m := 5) (by omega) (fun p => p.1.cells) (fun _ => rfl) cells25 Try.underlying22 h (fun p => Is w p.1 p.2) (fun n' cs' y' hn' h' => by
    obtain ⟨c, t, hc, hi⟩ := value_of n' n' (Nat.le_refl _) cs' y' h'
    exact ⟨(c, t), hc, hi⟩)
  refine ⟨L.map (·.2), L.map (·.1), by simp, ?_, ?_⟩
  · rw [List.flatMap_map, List.length_map, ← hln]; exact hL1
  · intro i x t hx ht
    rw [List.getElem?_map] at hx ht
    cases hLi : L[i]? with
    | none => rw [hLi] at hx; simp at hx
    | some p => rw [hLi] at hx ht; simp at hx ht; subst hx ht; exact hL2 i p hLi
theorem flds_of {fuel : Nat} {v : Value} {y : DataW H × List MemPlace} (h : DataW.trod enc Try.prog w 0 (fun _ => true) held fuel 23 [v] = some y) : ∃ l : List (Str × T), Flds w v l := by
  obtain ⟨fa, fn, fc, F, rfl, hfn, hF1, hF2⟩ := slice_at (α := (Str × VC) × T) (m := 6) (by omega) (fun p => FC.cells ⟨p.1.1, p.1.2⟩) (fun _ => rfl) cells35 Try.underlying23 h (fun p => Is w p.1.2 p.2) (fun n' cs' y' hn' h' => by
    obtain ⟨m', hm', hl', hf'⟩ := fields_at Try.underlying35 h'
    rw [cells35] at hl'
    obtain ⟨z0, z1, z2, z3, z4, z5, rfl⟩ := list6 hl'
    obtain ⟨u0, g0⟩ := hf' 0 9 0 1 _ rfl rfl rfl cells9
    obtain ⟨u1, g1⟩ := hf' 1 25 1 5 _ rfl rfl rfl cells25
    simp only [List.drop_succ_cons, List.drop_zero, List.take_succ_cons, List.take_zero] at g0 g1
    obtain ⟨nm, e0, _⟩ := DataW.trod_string Try.underlying9 g0
    simp only [List.cons.injEq, and_true] at e0
    subst e0
    obtain ⟨nm, rfl⟩ := str_list nm
    obtain ⟨c, t, hc, hi⟩ := value_of m' m' (Nat.le_refl _) _ u1 g1
    simp only [VC.cells, List.cons.injEq, and_true] at hc
    obtain ⟨rfl, rfl, rfl, rfl, rfl⟩ := hc
    exact ⟨((nm, c), t), rfl, hi⟩)
  refine ⟨F.map fun p => (p.1.1, p.2), F.map fun p => ⟨p.1.1, p.1.2⟩, by simp, ?_, ?_, ?_⟩
  · rw [List.flatMap_map, List.length_map, ← hfn]; exact hF1
  · intro i x p hx hp
    rw [List.getElem?_map] at hx hp
    cases hFi : F[i]? with
    | none => rw [hFi] at hx; simp at hx
    | some q => rw [hFi] at hx hp; simp at hx hp; subst hx hp; rfl
  · intro i x p hx hp
    rw [List.getElem?_map] at hx hp
    cases hFi : F[i]? with
    | none => rw [hFi] at hx; simp at hx
    | some q => rw [hFi] at hx hp; simp at hx hp; subst hx hp; exact hF2 i q hFi
end
end Go.Proofs.Ytmmembmohkideaa
