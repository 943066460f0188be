/- The contract of DeleteFunc with With's closure. -/
import Derived.Test.YtfohhokdcobhjaaDoorRs
namespace Go.Proofs.YtfohhokdcobhjaaDoor
open Go.RowKit Go.Sort Go.Proofs.LawFrame

theorem restL_self {l : List Lab} {key : Str} (h : idxI (eqK key) l = -1) : restL l key = l := by
  unfold idxI at h
  cases hf : l.findIdx? (eqK key) with
  | some k => rw [hf] at h; simp only at h; omega
  | none =>
    rw [List.findIdx?_eq_none_iff] at hf
    unfold restL
    rw [List.filter_eq_self]
    intro x hx
    have := hf x hx
    unfold eqK at this; unfold nk; rw [this]; rfl
theorem idxI_at {l : List Lab} {key : Str} (h : ¬ idxI (eqK key) l = -1) : ∃ i, i < l.length ∧ idxI (eqK key) l = i ∧ restTo l key i = l.take i ∧ restTo l key (i + 1) = l.take i := by
  unfold idxI at h ⊢
  cases hf : l.findIdx? (eqK key) with
  | none => rw [hf] at h; exact absurd rfl h
  | some i =>
    rw [List.findIdx?_eq_some_iff_getElem] at hf
    obtain ⟨hi, hp, hj⟩ := hf
    have h1 : restTo l key i = l.take i := by
      unfold restTo; rw [List.filter_eq_self]
      intro x hx
      obtain ⟨j, hj1, rfl⟩ := List.getElem_of_mem hx
      rw [List.length_take] at hj1
      have := hj j (by omega)
      rw [List.getElem_take]
      unfold eqK at this; unfold nk; simpa using this
    exact ⟨i, hi, rfl, h1, by rw [restTo_no (get_some hi) hp, h1]⟩

/-- the state behind some rounds of DeleteFunc -/
structure DelSt (l : List Lab) (key : Str) (j : Nat) (C : List Lab) : Prop where
  len : C.length = l.length
  lt : (restTo l key j).length < j
  head : C.take (restTo l key j).length = restTo l key j
  tail : C.drop j = l.drop j
theorem DelSt.start {l : List Lab} {key : Str} {i : Nat} (hi : i < l.length) (h : restTo l key (i + 1) = l.take i) : DelSt l key (i + 1) l := by
  have hl : (l.take i).length = i := by rw [List.length_take]; omega
  exact ⟨rfl, by rw [h, hl]; omega, by rw [h, hl], rfl⟩
theorem DelSt.get {l C : List Lab} {key : Str} {j : Nat} {x : Lab} (h : DelSt l key j C) (hx : l[j]? = some x) : C[j]? = some x := by
  have := congrArg (fun t => t[0]?) h.tail
  simpa [List.getElem?_drop, hx] using this
theorem DelSt.skip {l C : List Lab} {key : Str} {j : Nat} {x : Lab} (h : DelSt l key j C) (hx : l[j]? = some x) (he : (x.1 == key) = true) : DelSt l key (j + 1) C := by
  have hr := restTo_no hx he
  refine ⟨h.len, by rw [hr]; have := h.lt; omega, by rw [hr]; exact h.head, ?_⟩
  have := congrArg (List.drop 1) h.tail
  simpa [List.drop_drop, Nat.add_comm] using this
theorem DelSt.keep {l C : List Lab} {key : Str} {j : Nat} {x : Lab} (h : DelSt l key j C) (hj : j < l.length) (hx : l[j]? = some x) (he : (x.1 == key) = false) : DelSt l key (j + 1) (C.set (restTo l key j).length x) := by
  have hr := restTo_yes hx he
  have hlt := h.lt
  have hlen := h.len
  refine ⟨by rw [List.length_set]; exact h.len, by rw [hr, List.length_append]; simp; omega, ?_, ?_⟩
  · rw [hr, List.length_append, List.length_singleton, take_snoc (x := x) (by rw [List.getElem?_set_self (by omega)]), List.take_set_of_le (Nat.le_refl _), h.head]
  · rw [List.drop_set_of_lt (by omega)]
    have := congrArg (List.drop 1) h.tail
    simpa [List.drop_drop, Nat.add_comm] using this

theorem zero45 : ∀ w : World, (zeroValue 45).run Tryd.prog w = .ok (.agg #[.string ⟨#[]⟩, .string ⟨#[]⟩]) w := by
  intro w
  obtain ⟨i, hi, hz, -, -⟩ := info_parts info45
  simp [zeroValue, typeInfo, hi, hz]
end Go.Proofs.YtfohhokdcobhjaaDoor
