/- What is set along a path has short strings where its parts have: plain mathematics. -/
import Derived.Test.YtjpmnlefjmdelaaGreatDoorZaJ
set_option linter.unusedSimpArgs false
set_option linter.unusedVariables false
namespace Go.Proofs.YtjpmnlefjmdelaaGreatDoor

theorem niceL_iff : ∀ {l : List T}, niceL l ↔ ∀ t ∈ l, t.nice
  | [] => by simp [niceL]
  | t :: r => by rw [niceL, niceL_iff (l := r)]; simp
theorem niceF_iff : ∀ {l : List (Str × T)}, niceF l ↔ ∀ p ∈ l, p.1.length ≤ 4000 ∧ p.2.nice
  | [] => by simp [niceF]
  | (x, t) :: r => by
    rw [niceF, niceF_iff (l := r)]
    constructor
    · rintro ⟨h1, h2, h3⟩ p hp
      rcases List.mem_cons.1 hp with rfl | hp
      · exact ⟨h1, h2⟩
      · exact h3 p hp
    · intro h
      exact ⟨(h (x, t) (by simp)).1, (h (x, t) (by simp)).2, fun p hp => h p (by simp [hp])⟩
theorem nice_T0 : T0.nice := by simp [T0, T.nice, niceL, niceF]
theorem step_lens {s : S} (h : stepOk s = true) : s.nm.length ≤ 4000 ∧ s.vl.length ≤ 4000 := by
  unfold stepOk at h
  by_cases h1 : s.k = 1
  · simp only [if_pos h1, Bool.and_eq_true, decide_eq_true_eq] at h
    have hn := h.1.1
    unfold nameOk at hn
    simp only [Bool.and_eq_true, decide_eq_true_eq] at hn
    rw [h.2]; simp; omega
  · simp only [if_neg h1] at h
    by_cases h2 : s.k = 2
    · simp only [if_pos h2, Bool.and_eq_true, decide_eq_true_eq] at h
      rw [h.2, h.1.2]; simp
    · simp only [if_neg h2] at h
      by_cases h3 : s.k = 3
      · simp only [if_pos h3, Bool.and_eq_true, decide_eq_true_eq] at h
        have hn := h.1.1
        have hv := h.1.2
        unfold nameOk at hn
        unfold strOk at hv
        simp only [Bool.and_eq_true, decide_eq_true_eq] at hn hv
        omega
      · simp [h3] at h
theorem nice_newT {s : S} (h : stepOk s = true) : (newT s).nice := by
  have := step_lens h
  unfold newT
  split
  · simp [T.nice, niceL, niceF]; omega
  · simp [T.nice, niceL, niceF]
theorem nice_kid {s : S} {t u : T} (h : t.nice) (hk : kid s t = some u) : u.nice := by
  obtain ⟨k, n, y, l, f⟩ := t
  rw [T.nice] at h
  rcases kid_mem hk with h1 | ⟨nm, h1⟩
  · exact niceL_iff.1 h.2.1 u h1
  · exact (niceF_iff.1 h.2.2 _ h1).2
theorem nice_replT {s : S} {t c : T} (hs : stepOk s = true) (h : t.nice) (hc : c.nice) : (replT s c t).nice := by
  obtain ⟨k, n, y, l, f⟩ := t
  rw [T.nice] at h
  by_cases h1 : s.k = 1
  · simp only [replT, if_pos h1]
    rw [T.nice]
    refine ⟨by simp, by simp [niceL], niceF_iff.2 (fun p hp => ?_)⟩
    have hm := (mapL_of _).mem hp
    rcases List.mem_append.1 hm with hm | hm
    · have : p ∈ f := by
        unfold othK at hm
        split at hm
        · exact (List.mem_filter.1 hm).1
        · cases hm
      exact niceF_iff.1 h.2.2 p this
    · simp at hm; subst hm; exact ⟨(step_lens hs).1, hc⟩
  · simp only [replT, if_neg h1]
    rw [T.nice]
    refine ⟨by simp, ?_, by simp [niceF]⟩
    split
    · refine niceL_iff.2 (fun t ht => ?_)
      rcases List.mem_or_eq_of_mem_set ht with a | rfl
      · exact niceL_iff.1 h.2.1 t a
      · exact hc
    · refine niceL_iff.2 (fun t ht => ?_)
      rcases List.mem_append.1 ht with a | a
      · exact niceL_iff.1 h.2.1 t a
      · simp at a; subst a; exact hc
theorem nice_setP : ∀ {p : List S} {t x : T}, (∀ s ∈ p, stepOk s = true) → t.nice → x.nice → (setP p t x).1.nice
  | [], t, x, _, _, hx => hx
  | s :: p, t, x, hs, ht, hx => by
    have hs0 := hs s (by simp)
    have hk : ((kid s t).getD (newT s)).nice := by
      cases h : kid s t with
      | none => rw [Option.getD_none]; exact nice_newT hs0
      | some u => rw [Option.getD_some]; exact nice_kid ht h
    have ih := nice_setP (p := p) (t := (kid s t).getD (newT s)) (x := x) (fun z hz => hs z (by simp [hz])) hk hx
    rw [setP]
    split
    · exact nice_T0
    · split
      · exact nice_T0
      · split
        · exact nice_T0
        · exact nice_replT hs0 ht ih
end Go.Proofs.YtjpmnlefjmdelaaGreatDoor
