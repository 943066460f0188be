/- With and Get: plain mathematics. -/
import Derived.Test.YtfohhokdcobhjaaDoorMd
import Derived.Test.YtfohhokdcobhjaaDoorMf
namespace Go.Proofs.YtfohhokdcobhjaaDoor

theorem insL_parts (R : List Lab) (key v : Str) : ∃ A B, R = A ++ B ∧ insL R key v = A ++ (key, v) :: B ∧ (∀ a ∈ A, gtK key a = false) ∧ (∀ b t, B = b :: t → gtK key b = true) := by
  refine ⟨R.takeWhile (fun p => !gtK key p), R.dropWhile (fun p => !gtK key p), (List.takeWhile_append_dropWhile).symm, rfl, ?_, ?_⟩
  · intro a ha
    induction R with
    | nil => cases ha
    | cons x R ih =>
      rw [List.takeWhile_cons] at ha
      split at ha
      · rename_i hx
        rcases List.mem_cons.1 ha with rfl | ha
        · simpa using hx
        · exact ih ha
      · cases ha
  · intro b t hbt
    induction R with
    | nil => cases hbt
    | cons x R ih =>
      rw [List.dropWhile_cons] at hbt
      split at hbt
      · exact ih hbt
      · rename_i hx
        cases hbt
        simpa using hx

theorem getL_with (l : List Lab) (key v : Str) : getL (withL l key v) key = some v := by
  obtain ⟨A, B, h1, h2, -, -⟩ := insL_parts (restL l key) key v
  unfold withL getL
  rw [h2, List.find?_append]
  have hA : A.find? (fun p => p.1 == key) = none := by
    rw [List.find?_eq_none]
    intro x hx
    have := restL_ne (l := l) (key := key) x (by rw [h1]; exact List.mem_append.2 (Or.inl hx))
    simp [this]
  rw [hA]
  simp
theorem getL_other (l : List Lab) {key other : Str} (v : Str) (h : ¬ other = key) : getL (withL l key v) other = getL l other := by
  obtain ⟨A, B, h1, h2, -, -⟩ := insL_parts (restL l key) key v
  unfold withL getL
  rw [h2, List.find?_append]
  have hB : ((key, v) :: B).find? (fun p => p.1 == other) = B.find? (fun p => p.1 == other) := by
    rw [List.find?_cons_of_neg]; simp; exact fun e => h e.symm
  rw [hB, ← List.find?_append, ← h1]
  unfold restL
  rw [List.find?_filter]
  congr 2
  funext p
  unfold nk
  cases h2 : (p.1 == other) with
  | false => simp
  | true =>
    have : p.1 = other := by simpa using h2
    simp [this, h]
theorem with_with (l : List Lab) (key v : Str) : withL (withL l key v) key v = withL l key v := by
  obtain ⟨A, B, h1, h2, -, -⟩ := insL_parts (restL l key) key v
  have hall : ∀ x ∈ A ++ B, nk key x = true := fun x hx => by
    have := restL_ne (l := l) (key := key) x (by rw [h1]; exact hx)
    unfold nk; rw [this]; rfl
  have hr : restL (withL l key v) key = restL l key := by
    unfold withL; rw [h2]
    unfold restL
    rw [List.filter_append, List.filter_cons_of_neg (by simp [nk]), ← List.filter_append, List.filter_eq_self.2 hall]
    exact h1.symm
  show insL (restL (withL l key v) key) key v = insL (restL l key) key v
  rw [hr]

theorem labLt_eq (a b : Lab) : labLt a b = decide (a.1 < b.1) := sLt_eq _ _
theorem chain_pw (l : List Lab) : chain labOk labLt l = true ↔ (∀ x ∈ l, labOk x = true) ∧ l.Pairwise (fun a b => a.1 < b.1) := by
  induction l with
  | nil => simp [chain]
  | cons a t ih =>
    cases t with
    | nil => simp [chain]
    | cons b t =>
      rw [chain, Bool.and_eq_true, Bool.and_eq_true, ih, labLt_eq, decide_eq_true_eq]
      constructor
      · rintro ⟨⟨h1, h2⟩, h3, h4⟩
        refine ⟨fun x hx => ?_, ?_⟩
        · rcases List.mem_cons.1 hx with rfl | hx
          · exact h1
          · exact h3 x hx
        · rw [List.pairwise_cons]
          refine ⟨fun x hx => ?_, h4⟩
          rcases List.mem_cons.1 hx with rfl | hx
          · exact h2
          · exact lt_tr h2 ((List.pairwise_cons.1 h4).1 x hx)
      · rintro ⟨h1, h2⟩
        rw [List.pairwise_cons] at h2
        exact ⟨⟨h1 a (by simp), h2.1 b (by simp)⟩, fun x hx => h1 x (List.mem_cons_of_mem _ hx), h2.2⟩
theorem gtK_lt {key : Str} {p : Lab} (h : gtK key p = true) : key < p.1 := by
  unfold gtK at h
  rw [sLt_eq] at h
  simp only [Bool.and_eq_true, Bool.not_eq_true', decide_eq_false_iff_not, beq_eq_false_iff_ne] at h
  rcases Std.le_total (a := p.1) (b := key) with h1 | h1
  · exact absurd (Std.lt_of_le_of_ne h1 h.2) h.1
  · exact Std.lt_of_le_of_ne h1 (Ne.symm h.2)
theorem gtK_ge {key : Str} {p : Lab} (h : gtK key p = false) (hn : (p.1 == key) = false) : p.1 < key := by
  unfold gtK at h
  rw [sLt_eq, hn] at h
  simpa using h
theorem restL_lt {l : List Lab} {key : Str} (h : getB l key = true) : (restL l key).length + 1 ≤ l.length := by
  unfold getB getL at h
  rw [Option.isSome_map, List.find?_isSome] at h
  obtain ⟨x, hx, hk⟩ := h
  unfold restL
  have hlt : (l.filter (nk key)).length < l.length := by
    have : ¬ (l.filter (nk key)).length = l.length := fun e => by
      have := (List.length_filter_eq_length_iff.1 e) x hx
      unfold nk at this; rw [hk] at this; cases this
    have h2 := List.length_filter_le (nk key) l
    omega
  omega
theorem with_valid {l : List Lab} {key v : Str} (h : labsOk l = true) (h1 : labsOk [(key, v)] = true) (h2 : getB l key = true ∨ l.length < 16) : labsOk (withL l key v) = true := by
  unfold labsOk at h h1 ⊢
  rw [Bool.and_eq_true, decide_eq_true_eq, chain_pw] at h ⊢
  have hkv : labOk (key, v) = true := by simpa [chain] using h1
  obtain ⟨hlen, hok, hpw⟩ := h
  obtain ⟨A, B, e1, e2, e3, e4⟩ := insL_parts (restL l key) key v
  have hrl := restL_len l key
  have hRok : ∀ x ∈ restL l key, labOk x = true := fun x hx => hok x (List.mem_filter.1 hx).1
  have hRpw : (restL l key).Pairwise (fun a b => a.1 < b.1) := hpw.filter _
  have hne := restL_ne (l := l) (key := key)
  refine ⟨?_, ?_, ?_⟩
  · unfold withL; rw [insL_len]
    rcases h2 with h2 | h2
    · have := restL_lt h2; omega
    · omega
  · intro x hx
    unfold withL at hx; rw [e2] at hx
    rcases List.mem_append.1 hx with hx | hx
    · exact hRok x (by rw [e1]; exact List.mem_append.2 (Or.inl hx))
    · rcases List.mem_cons.1 hx with rfl | hx
      · exact hkv
      · exact hRok x (by rw [e1]; exact List.mem_append.2 (Or.inr hx))
  · unfold withL; rw [e2]
    rw [e1, List.pairwise_append] at hRpw
    obtain ⟨pA, pB, pAB⟩ := hRpw
    have hA : ∀ a ∈ A, a.1 < key := fun a ha => gtK_ge (e3 a ha) (hne a (by rw [e1]; exact List.mem_append.2 (Or.inl ha)))
    have hB : ∀ b ∈ B, key < b.1 := fun b hb => by
      cases B with
      | nil => cases hb
      | cons b0 t =>
        have h0 := gtK_lt (e4 b0 t rfl)
        rcases List.mem_cons.1 hb with rfl | hb
        · exact h0
        · exact lt_tr h0 ((List.pairwise_cons.1 pB).1 b hb)
    rw [List.pairwise_append]
    refine ⟨pA, List.pairwise_cons.2 ⟨hB, pB⟩, fun a ha x hx => ?_⟩
    rcases List.mem_cons.1 hx with rfl | hx
    · exact hA a ha
    · exact pAB a ha x hx
end Go.Proofs.YtfohhokdcobhjaaDoor
