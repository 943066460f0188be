/- What is set is found, setting twice is setting last, other paths are untouched; what is removed is gone, and setting it again restores the value: plain mathematics. What is removed is gone, and setting it again restores the value: plain mathematics. -/
import Derived.Test.YtjpmnlefjmdelaaGreatDoorXtJ
set_option linter.unusedSimpArgs false
set_option linter.unusedVariables false
namespace Go.Proofs.YtjpmnlefjmdelaaGreatDoor

/-- sorted somewhere -/
def Vd (t : T) : Prop := ∃ d, Val d t
theorem Vd.srt {k n : Int} {y : Str} {l : List T} {f : List (Str × T)} (h : Vd (.mk k n y l f)) : SSrt f := by
  obtain ⟨d, h⟩ := h
  cases d with
  | zero => exact absurd h (by simp [Val])
  | succ d => rw [Val] at h; exact ssrt_of_nm h.2.2.2.2.2.1
theorem kid_mem {s : S} {k n : Int} {y : Str} {l : List T} {f : List (Str × T)} {u : T} (h : kid s (.mk k n y l f) = some u) : u ∈ l ∨ ∃ nm, (nm, u) ∈ f := by
  unfold kid at h
  cases hp : place s (.mk k n y l f) with
  | none => rw [hp] at h; cases h
  | some i =>
    rw [hp] at h
    simp only [kidAt] at h
    split at h
    · cases hf : f[i]? with
      | none => rw [hf] at h; cases h
      | some p => rw [hf] at h; simp at h; subst h; exact Or.inr ⟨p.1, List.mem_of_getElem? hf⟩
    · exact Or.inl (List.mem_of_getElem? h)
theorem val_kid {s : S} {t u : T} {d : Nat} (h : Val (d + 1) t) (hk : kid s t = some u) : Val d u := by
  obtain ⟨k, n, y, l, f⟩ := t
  rw [Val] at h
  rcases kid_mem hk with h1 | ⟨nm, h1⟩
  · exact h.2.2.2.2.2.2.1 u h1
  · exact h.2.2.2.2.2.2.2 _ h1
theorem Vd.kid {s : S} {t u : T} (h : Vd t) (hk : kid s t = some u) : Vd u := by
  obtain ⟨d, h⟩ := h
  cases d with
  | zero => cases t; exact absurd h (by simp [Val])
  | succ d => exact ⟨d, val_kid h hk⟩
end Go.Proofs.YtjpmnlefjmdelaaGreatDoor
namespace Go.Proofs.YtjpmnlefjmdelaaGreatDoor

end Go.Proofs.YtjpmnlefjmdelaaGreatDoor
