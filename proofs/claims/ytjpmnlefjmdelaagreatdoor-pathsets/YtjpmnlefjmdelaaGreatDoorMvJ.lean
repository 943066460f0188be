/- What the law of maps says of maps of fields: plain mathematics. JSON texts: sizes of what is read: plain mathematics. -/
import Derived.Test.YtjpmnlefjmdelaaGreatDoorMu
import Derived.Test.YtjpmnlefjmdelaaGreatDoorMaJ
import Derived.Test.YtjpmnlefjmdelaaGreatDoorCaJ
import Derived.Test.YtjpmnlefjmdelaaGreatDoorJa
set_option linter.unusedSimpArgs false
set_option linter.unusedVariables false
namespace Go.Proofs.YtjpmnlefjmdelaaGreatDoor

theorem ssrt_of_nm {f : List (Str × T)} (h : NmTo f f.length) : SSrt f := by
  have key : ∀ (d i : Nat) (p q : Str × T), f[i]? = some p → f[i + d + 1]? = some q → cmpS p.1 q.1 = -1 := by
    intro d
    induction d with
    | zero =>
      intro i p q hp hq
      exact (h (i + 1) q (List.getElem?_eq_some_iff.1 hq).1 hq).2 p (by omega) hp
    | succ d ih =>
      intro i p q hp hq
      have hl := (List.getElem?_eq_some_iff.1 hq).1
      obtain ⟨r, hr⟩ : ∃ r, f[i + d + 1]? = some r := ⟨_, List.getElem?_eq_getElem (by omega)⟩
      exact cmpS_trans (ih i p r hp hr) ((h (i + (d + 1) + 1) q hl hq).2 r (by omega) (by rw [show i + (d + 1) + 1 - 1 = i + d + 1 by omega]; exact hr))
  refine List.pairwise_iff_getElem.2 fun i j hi hj hij => ?_
  exact key (j - i - 1) i f[i] f[j] (List.getElem?_eq_getElem hi) (by rw [show i + (j - i - 1) + 1 = j by omega]; exact List.getElem?_eq_getElem hj)
theorem look_self {l : List (Str × T)} (h : SSrt l) {p : Str × T} (hp : p ∈ l) : look p.1 l = some p.2 := by
  induction l with
  | nil => cases hp
  | cons q r ih =>
    obtain ⟨x, t⟩ := q
    rw [look_cons]
    rcases List.mem_cons.1 hp with rfl | hp
    · rw [if_pos rfl]
    · rw [if_neg (cmpS_ne (h.head p hp)), ih h.tail hp]
theorem lastOf_mem {l : List (Str × T)} {k : Str} {t : T} (h : lastOf k l = some t) : (k, t) ∈ l := by
  unfold lastOf at h
  cases hq : (l.filter (fun p => decide (p.1 = k))).getLast? with
  | none => rw [hq] at h; cases h
  | some p =>
    rw [hq] at h
    have h1 := List.mem_of_getLast? hq
    obtain ⟨h2, h3⟩ := List.mem_filter.1 h1
    obtain ⟨a, b⟩ := p
    simp at h h3
    subst h h3
    exact h2
theorem MapOf.mem {l M : List (Str × T)} (h : MapOf l M) {p : Str × T} (hp : p ∈ M) : p ∈ l := by
  have := look_self h.srt hp
  rw [h.look] at this
  exact lastOf_mem this
theorem sub_size {M : List (Str × T)} (hs : SSrt M) : ∀ {l : List (Str × T)}, (∀ p ∈ M, p ∈ l) → sizeF M ≤ sizeF l ∧ M.length ≤ l.length := by
  induction M with
  | nil => intro l _; have := sizeF_nonneg l; simp [sizeF]; exact this
  | cons p r ih =>
    obtain ⟨x, t⟩ := p
    intro l h
    obtain ⟨l1, l2, rfl⟩ := List.append_of_mem (h (x, t) List.mem_cons_self)
    have := ih hs.tail (l := l1 ++ l2) (fun q hq => by
      have h1 := h q (List.mem_cons_of_mem _ hq)
      rcases List.mem_append.1 h1 with h1 | h1
      · exact List.mem_append_left _ h1
      · rcases List.mem_cons.1 h1 with rfl | h1
        · exact absurd rfl (cmpS_ne (hs.head _ hq))
        · exact List.mem_append_right _ h1)
    rw [sizeF_append] at this ⊢
    simp [sizeF] at this ⊢
    omega
theorem MapOf.size {l M : List (Str × T)} (h : MapOf l M) : sizeF M ≤ sizeF l ∧ M.length ≤ l.length := sub_size h.srt (fun _ hp => h.mem hp)
/- the law's parts -/
section
variable {f M1 : List (Str × T)} {nm : Str} {x : T}
end
end Go.Proofs.YtjpmnlefjmdelaaGreatDoor
namespace Go.Proofs.YtjpmnlefjmdelaaGreatDoor

theorem mapL_of_aux : ∀ (l l0 M0 : List (Str × T)), MapOf l0 M0 → MapOf (l0 ++ l) (l.foldl (fun M p => pf p.1 p.2 false M) M0) := by
  intro l
  induction l with
  | nil => intro l0 M0 h; simpa using h
  | cons p l ih =>
    intro l0 M0 h
    have := ih (l0 ++ [p]) _ (h.put p.1 p.2)
    simpa using this
theorem mapL_of (l : List (Str × T)) : MapOf l (mapL l) := by
  have := mapL_of_aux l [] [] (mapOf_self List.Pairwise.nil)
  simpa [mapL] using this
end Go.Proofs.YtjpmnlefjmdelaaGreatDoor
