/- The contract of Map. -/
import Derived.Test.YtinenbgdkchghaaSdJ
import Derived.Test.YtinenbgdkchghaaMu
import Derived.Test.YtinenbgdkchghaaCaJ
import Derived.Test.YtinenbgdkchghaaPdJ
set_option linter.unusedSimpArgs false
set_option linter.unusedVariables false
namespace Go.Proofs.Ytinenbgdkchghaa
open Go.RowKit Go.Sort Go.Proofs.LawFrame

theorem tree_fun {w : World} {cs : List FC} {l : List (Str × T)} (h1 : cs.length = l.length) (hx : ∀ (i : Nat) (x : FC) (p : Str × T), cs[i]? = some x → l[i]? = some p → x.x = p.1) (hI : ∀ (i : Nat) (x : FC) (p : Str × T), cs[i]? = some x → l[i]? = some p → Is w x.v p.2) :
    ∃ f : FC → Str × T, (∀ c, (f c).1 = c.x) ∧ (∀ c ∈ cs, Is w c.v (f c).2) ∧ cs.map f = l := by
  classical
  have key : ∀ i (h : i < cs.length), ∃ t, Is w cs[i].v t := fun i h => ⟨_, hI i cs[i] l[i] (List.getElem?_eq_getElem h) (List.getElem?_eq_getElem (by omega))⟩
  refine ⟨fun c => (c.x, if h : ∃ t, Is w c.v t then h.choose else T.mk 0 0 [] [] []), fun _ => rfl, fun c hc => ?_, ?_⟩
  · obtain ⟨i, hi, rfl⟩ := List.mem_iff_getElem.1 hc
    have h := key i hi
    simp only [dif_pos h]
    exact h.choose_spec
  · apply List.ext_getElem (by simpa using h1)
    intro i g1 g2
    have g1' : i < cs.length := by simpa using g1
    have h := key i g1'
    rw [List.getElem_map]
    simp only [dif_pos h]
    exact Prod.ext (hx i cs[i] l[i] (List.getElem?_eq_getElem g1') (List.getElem?_eq_getElem g2)) (h.choose_spec.det (hI i cs[i] l[i] (List.getElem?_eq_getElem g1') (List.getElem?_eq_getElem g2)))
theorem flds_map {w : World} {v : Value} {K : List FC} (f : FC → Str × T) (hf : ∀ c, (f c).1 = c.x) (hI : ∀ c ∈ K, Is w c.v (f c).2) (hF : Flat w v K.length (K.flatMap FC.cells)) : Flds w v (K.map f) := by
  refine ⟨K, by simp, by simpa using hF, fun i x p hx hp => ?_, fun i x p hx hp => ?_⟩
  · rw [List.getElem?_map, hx] at hp; cases hp; exact (hf x).symm
  · rw [List.getElem?_map, hx] at hp; cases hp; exact hI x (List.mem_of_getElem? hx)
theorem isA_map {W w1 w' : World} {M : List (Str × T)} {fa : Option Addr} {fn fc : Nat} (h : NewF w1 w' (.slice fa fn fc) M) (hw : W.heap.size ≤ w1.heap.size) : IsA w' (fun b => W.heap.size ≤ b) ⟨5, 0, [], none, 0, 0, fa, fn, fc⟩ (.mk 5 0 [] [] M) :=
  IsA.new (W := W) (w1 := W) (c := ⟨5, 0, [], none, 0, 0, fa, fn, fc⟩) ⟨Or.inl ⟨rfl, rfl⟩⟩ h (Nat.le_refl _) hw

end Go.Proofs.Ytinenbgdkchghaa
