/- The insertion sort is a stable sort: plain mathematics. The contract of the exchange of two parts of a row of fields. The contract of the rotation of a row of fields. The contract of the merge of two sorted parts of a row of fields. -/
import Derived.Test.YtinenbgdkchghaaMs
import Derived.Test.YtinenbgdkchghaaWmJ
import Derived.BigRegion
import Derived.Deep.Cut
import Derived.Deep.DeepCutAuto
import Derived.Deep.CutBlock
set_option linter.unusedSimpArgs false
set_option linter.unusedVariables false
namespace Go.Proofs.Ytinenbgdkchghaa
theorem getD_mid (P : List FC) (x : FC) (R : List FC) {k : Nat} (h : k = P.length) : (P ++ x :: R).getD k FC0 = x := by
  rw [List.getD_eq_getElem?_getD, get_mid P x R h]; rfl
theorem rev_cases {α : Type} (l : List α) : l = [] ∨ ∃ r u, l = r ++ [u] := by
  rcases List.eq_nil_or_concat l with h | ⟨r, u, h⟩
  · exact Or.inl h
  · exact Or.inr ⟨r, u, by simpa using h⟩
theorem sink_at {a : Nat} : ∀ (n : Nat) (P A R : List FC) (x : FC) (j : Nat), A.length = n → a = P.length → j = P.length + A.length →
    ∃ s, s ≤ A.length ∧ sink a j (P ++ (A ++ x :: R)) = P ++ ((A.take s ++ x :: A.drop s) ++ R) ∧ (s = 0 ∨ ∃ u, A[s - 1]? = some u ∧ ltF x u = false) ∧ (A.length ≤ s ∨ ∃ u, A[s]? = some u ∧ ltF x u = true) := by
  intro n
  induction n with
  | zero =>
    intro P A R x j hn ha hj
    have hA : A = [] := List.eq_nil_of_length_eq_zero hn
    subst hA
    refine ⟨0, Nat.le_refl _, ?_, Or.inl rfl, Or.inl (Nat.le_refl _)⟩
    rw [sink_stop (fun h => by simp at hj; omega)]; simp
  | succ n ih =>
    intro P A R x j hn ha hj
    obtain rfl | ⟨A', u, rfl⟩ := rev_cases A
    · simp at hn
    have hn' : A'.length = n := by simpa using hn
    have hj' : j = P.length + (A'.length + 1) := by simpa using hj
    have e : P ++ ((A' ++ [u]) ++ x :: R) = (P ++ (A' ++ [u])) ++ x :: R := by simp
    have e2 : P ++ ((A' ++ [u]) ++ x :: R) = (P ++ A') ++ u :: (x :: R) := by simp
    have gx : (P ++ ((A' ++ [u]) ++ x :: R)).getD j FC0 = x := by rw [e]; exact getD_mid _ _ _ (by simp; omega)
    have gu : (P ++ ((A' ++ [u]) ++ x :: R)).getD (j - 1) FC0 = u := by rw [e2]; exact getD_mid _ _ _ (by simp; omega)
    cases hc : ltF x u with
    | false =>
      refine ⟨(A' ++ [u]).length, Nat.le_refl _, ?_, Or.inr ⟨u, ?_, hc⟩, Or.inl (Nat.le_refl _)⟩
      · rw [sink_stop (fun h => by rw [gx, gu, hc] at h; exact absurd h.2 (by simp)), List.take_length, List.drop_length]; simp
      · simp
    | true =>
      have hsw : swp (P ++ ((A' ++ [u]) ++ x :: R)) j = P ++ (A' ++ x :: (u :: R)) := by
        unfold swp
        rw [gx, gu, e2]
        have := swap_two' (P ++ A') [] R u x (p := j - 1) (q := j) (by simp; omega) (by simp; omega)
        simp at this
        simpa using this
      obtain ⟨s, h1, h2, h3, h4⟩ := ih P A' (u :: R) x (j - 1) hn' ha (by omega)
      refine ⟨s, by simp; omega, ?_, ?_, ?_⟩
      · rw [sink_go (by omega) (by rw [gx, gu]; exact hc), hsw, h2, List.take_append_of_le_length h1, List.drop_append_of_le_length h1]; simp
      · rcases h3 with h3 | ⟨v, hv, hl⟩
        · exact Or.inl h3
        · refine Or.inr ⟨v, ?_, hl⟩
          rw [List.getElem?_append_left (List.getElem?_eq_some_iff.1 hv).1]; exact hv
      · rcases h4 with h4 | ⟨v, hv, hl⟩
        · refine Or.inr ⟨u, ?_, hc⟩
          rw [List.getElem?_append_right h4, show s - A'.length = 0 by omega]; rfl
        · refine Or.inr ⟨v, ?_, hl⟩
          rw [List.getElem?_append_left (List.getElem?_eq_some_iff.1 hv).1]; exact hv
theorem isort_at (W : Weak ltF FC.x) {a : Nat} : ∀ (n : Nat) (P A X S : List FC) (i : Nat), X.length = n → a = P.length → i = P.length + A.length → Srt ltF A →
    ∃ R, isort a i n (P ++ (A ++ (X ++ S))) = P ++ (R ++ S) ∧ R.length = A.length + X.length ∧ Srt ltF R ∧ Same FC.x (A ++ X) R := by
  intro n
  induction n with
  | zero =>
    intro P A X S i hn ha hi hA
    have hX : X = [] := List.eq_nil_of_length_eq_zero hn
    subst hX
    exact ⟨A, by simp [isort], by simp, hA, by simpa using Same.refl A⟩
  | succ n ih =>
    intro P A X S i hn ha hi hA
    cases X with
    | nil => simp at hn
    | cons x X =>
      rw [isort]
      obtain ⟨s, h1, h2, h3, h4⟩ := sink_at (a := a) A.length P A (X ++ S) x i rfl ha hi
      have hm := merge_last W hA h3 h4
      rw [List.cons_append, h2]
      obtain ⟨R, r1, r2, r3, r4⟩ := ih P (A.take s ++ x :: A.drop s) X S (i + 1) (by simpa using hn) ha (by simp; omega) hm.1
      refine ⟨R, r1, ?_, r3, ?_⟩
      · rw [r2]; simp; omega
      · have e : A ++ x :: X = (A ++ [x]) ++ X := by simp
        rw [e]; exact (hm.2.append (Same.refl X)).trans r4
/-- the insertion sort of one part -/
theorem isort_part (W : Weak ltF FC.x) (P X S : List FC) {a e : Nat} (ha : a = P.length) (he : e = P.length + X.length) :
    ∃ R, isort a (a + 1) (e - (a + 1)) (P ++ (X ++ S)) = P ++ (R ++ S) ∧ R.length = X.length ∧ Srt ltF R ∧ Same FC.x X R := by
  cases X with
  | nil => exact ⟨[], by rw [show e - (a + 1) = 0 by simp at he; omega]; rfl, rfl, srt_nil _, Same.refl _⟩
  | cons x X =>
    obtain ⟨R, r1, r2, r3, r4⟩ := isort_at W (a := a) X.length P [x] X S (a + 1) rfl ha (by simp; omega) (List.pairwise_singleton _ _)
    refine ⟨R, ?_, by rw [r2]; simp; omega, r3, r4⟩
    rw [show e - (a + 1) = X.length by simp at he; omega]
    simpa using r1
theorem weak_field : Weak ltF FC.x where
  asym := fun x y h => by
    unfold ltF at *
    have := good_str.anti x.x y.x trivial trivial
    simp at h ⊢; omega
  neg := fun x y z h h' => by
    unfold ltF at *
    simp at h h' ⊢
    rcases good_str.tri x.x z.x trivial trivial with h1 | h1 | h1
    · have h2 := good_str.anti x.x y.x trivial trivial
      rcases good_str.tri y.x x.x trivial trivial with h3 | h3 | h3
      · have := good_str.trans y.x x.x z.x trivial trivial trivial h3 h1; omega
      · have := cmpS_zero h3; rw [this] at h'; omega
      · omega
    · omega
    · omega
  keys := fun x y h e => by
    unfold ltF at h
    rw [e, cmpS_refl] at h
    simp at h
end Go.Proofs.Ytinenbgdkchghaa
namespace Go.Proofs.Ytinenbgdkchghaa
open Go.RowKit Go.Sort Go.Proofs.LawFrame

end Go.Proofs.Ytinenbgdkchghaa
namespace Go.Proofs.Ytinenbgdkchghaa
open Go.RowKit Go.Sort Go.Proofs.LawFrame

theorem take_len {α : Type} {l : List α} {k : Nat} (h : k ≤ l.length) : (l.take k).length = k := by simp [h]

end Go.Proofs.Ytinenbgdkchghaa
namespace Go.Proofs.Ytinenbgdkchghaa
open Go.RowKit Go.Sort Go.Proofs.LawFrame

/-- two parts merged -/
structure Merged (b : Nat) (rest : List Value) (P A B S : List FC) (w' : World) : Prop where
  out : ∃ R L', L' = P ++ (R ++ S) ∧ R.length = A.length + B.length ∧ Srt ltF R ∧ Same FC.x (A ++ B) R ∧ Own w' b (L'.flatMap FC.cells ++ rest) 33
theorem ltF_true {x y : FC} (h : cmpS x.x y.x < 0) : ltF x y = true := by unfold ltF; simp; exact h
theorem ltF_false {x y : FC} (h : ¬ cmpS x.x y.x < 0) : ltF x y = false := by unfold ltF; simp; omega
theorem snoc_of {α : Type} {l : List α} (h : 0 < l.length) : ∃ r u, l = r ++ [u] := by
  rcases rev_cases l with rfl | h'
  · simp at h
  · exact h'

end Go.Proofs.Ytinenbgdkchghaa
