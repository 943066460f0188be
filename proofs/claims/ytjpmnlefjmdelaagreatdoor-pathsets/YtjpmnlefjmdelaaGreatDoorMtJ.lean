/- The insertion sort is a stable sort: plain mathematics. The contract of the exchange of two parts of a row of fields. The contract of the rotation of a row of fields. The contract of the merge of two sorted parts of a row of fields. -/
import Derived.Test.YtjpmnlefjmdelaaGreatDoorMs
import Derived.Test.YtjpmnlefjmdelaaGreatDoorWmJ
import Derived.BigRegion
import Derived.Deep.Cut
import Derived.Deep.DeepCutAuto
import Derived.Deep.CutBlock
set_option linter.unusedSimpArgs false
set_option linter.unusedVariables false
namespace Go.Proofs.YtjpmnlefjmdelaaGreatDoor
theorem getD_mid (P : List FC) (x : FC) (R : List FC) {k : Nat} (h : k = P.length) : (P ++ x :: R).getD k FC0 = x := by
  rw [List.getD_eq_getElem?_getD, get_mid P x R h]; rfl
theorem rev_cases {α : Type} (l : List α) : l = [] ∨ ∃ r u, l = r ++ [u] := by
  rcases List.eq_nil_or_concat l with h | ⟨r, u, h⟩
  · exact Or.inl h
  · exact Or.inr ⟨r, u, by simpa using h⟩
theorem sink_at {a : Nat} : ∀ (n : Nat) (P A R : List FC) (x : FC) (j : Nat), A.length = n → a = P.length → j = P.length + A.length →
    ∃ s, s ≤ A.length ∧ sink a j (P ++ (A ++ x :: R)) = P ++ ((A.take s ++ x :: A.drop s) ++ R) ∧ (s = 0 ∨ ∃ u, A[s - 1]? = some u ∧ ltF x u = false) ∧ (A.length ≤ s ∨ ∃ u, A[s]? = some u ∧ ltF x u = true) := by
  intro n
  induction n with
  | zero =>
    intro P A R x j hn ha hj
    have hA : A = [] := List.eq_nil_of_length_eq_zero hn
    subst hA
    refine ⟨0, Nat.le_refl _, ?_, Or.inl rfl, Or.inl (Nat.le_refl _)⟩
    rw [sink_stop (fun h => by simp at hj; omega)]; simp
  | succ n ih =>
    intro P A R x j hn ha hj
    obtain rfl | ⟨A', u, rfl⟩ := rev_cases A
    · simp at hn
    have hn' : A'.length = n := by simpa using hn
    have hj' : j = P.length + (A'.length + 1) := by simpa using hj
    have e : P ++ ((A' ++ [u]) ++ x :: R) = (P ++ (A' ++ [u])) ++ x :: R := by simp
    have e2 : P ++ ((A' ++ [u]) ++ x :: R) = (P ++ A') ++ u :: (x :: R) := by simp
    have gx : (P ++ ((A' ++ [u]) ++ x :: R)).getD j FC0 = x := by rw [e]; exact getD_mid _ _ _ (by simp; omega)
    have gu : (P ++ ((A' ++ [u]) ++ x :: R)).getD (j - 1) FC0 = u := by rw [e2]; exact getD_mid _ _ _ (by simp; omega)
    cases hc : ltF x u with
    | false =>
      refine ⟨(A' ++ [u]).length, Nat.le_refl _, ?_, Or.inr ⟨u, ?_, hc⟩, Or.inl (Nat.le_refl _)⟩
      · rw [sink_stop (fun h => by rw [gx, gu, hc] at h; exact absurd h.2 (by simp)), List.take_length, List.drop_length]; simp
      · simp
    | true =>
      have hsw : swp (P ++ ((A' ++ [u]) ++ x :: R)) j = P ++ (A' ++ x :: (u :: R)) := by
        unfold swp
        rw [gx, gu, e2]
        have := swap_two' (P ++ A') [] R u x (p := j - 1) (q := j) (by simp; omega) (by simp; omega)
        simp at this
        simpa using this
      obtain ⟨s, h1, h2, h3, h4⟩ := ih P A' (u :: R) x (j - 1) hn' ha (by omega)
      refine ⟨s, by simp; omega, ?_, ?_, ?_⟩
      · rw [sink_go (by omega) (by rw [gx, gu]; exact hc), hsw, h2, List.take_append_of_le_length h1, List.drop_append_of_le_length h1]; simp
      · rcases h3 with h3 | ⟨v, hv, hl⟩
        · exact Or.inl h3
        · refine Or.inr ⟨v, ?_, hl⟩
          rw [List.getElem?_append_left (List.getElem?_eq_some_iff.1 hv).1]; exact hv
      · rcases h4 with h4 | ⟨v, hv, hl⟩
        · refine Or.inr ⟨u, ?_, hc⟩
          rw [List.getElem?_append_right h4, show s - A'.length = 0 by omega]; rfl
        · refine Or.inr ⟨v, ?_, hl⟩
          rw [List.getElem?_append_left (List.getElem?_eq_some_iff.1 hv).1]; exact hv
theorem isort_at (W : Weak ltF FC.x) {a : Nat} : ∀ (n : Nat) (P A X S : List FC) (i : Nat), X.length = n → a = P.length → i = P.length + A.length → Srt ltF A →
    ∃ R, isort a i n (P ++ (A ++ (X ++ S))) = P ++ (R ++ S) ∧ R.length = A.length + X.length ∧ Srt ltF R ∧ Same FC.x (A ++ X) R := by
  intro n
  induction n with
  | zero =>
    intro P A X S i hn ha hi hA
    have hX : X = [] := List.eq_nil_of_length_eq_zero hn
    subst hX
    exact ⟨A, by simp [isort], by simp, hA, by simpa using Same.refl A⟩
  | succ n ih =>
    intro P A X S i hn ha hi hA
    cases X with
    | nil => simp at hn
    | cons x X =>
      rw [isort]
      obtain ⟨s, h1, h2, h3, h4⟩ := sink_at (a := a) A.length P A (X ++ S) x i rfl ha hi
      have hm := merge_last W hA h3 h4
      rw [List.cons_append, h2]
      obtain ⟨R, r1, r2, r3, r4⟩ := ih P (A.take s ++ x :: A.drop s) X S (i + 1) (by simpa using hn) ha (by simp; omega) hm.1
      refine ⟨R, r1, ?_, r3, ?_⟩
      · rw [r2]; simp; omega
      · have e : A ++ x :: X = (A ++ [x]) ++ X := by simp
        rw [e]; exact (hm.2.append (Same.refl X)).trans r4
/-- the insertion sort of one part -/
theorem isort_part (W : Weak ltF FC.x) (P X S : List FC) {a e : Nat} (ha : a = P.length) (he : e = P.length + X.length) :
    ∃ R, isort a (a + 1) (e - (a + 1)) (P ++ (X ++ S)) = P ++ (R ++ S) ∧ R.length = X.length ∧ Srt ltF R ∧ Same FC.x X R := by
  cases X with
  | nil => exact ⟨[], by rw [show e - (a + 1) = 0 by simp at he; omega]; rfl, rfl, srt_nil _, Same.refl _⟩
  | cons x X =>
    obtain ⟨R, r1, r2, r3, r4⟩ := isort_at W (a := a) X.length P [x] X S (a + 1) rfl ha (by simp; omega) (List.pairwise_singleton _ _)
    refine ⟨R, ?_, by rw [r2]; simp; omega, r3, r4⟩
    rw [show e - (a + 1) = X.length by simp at he; omega]
    simpa using r1
theorem weak_field : Weak ltF FC.x where
  asym := fun x y h => by
    unfold ltF at *
    have := good_str.anti x.x y.x trivial trivial
    simp at h ⊢; omega
  neg := fun x y z h h' => by
    unfold ltF at *
    simp at h h' ⊢
    rcases good_str.tri x.x z.x trivial trivial with h1 | h1 | h1
    · have h2 := good_str.anti x.x y.x trivial trivial
      rcases good_str.tri y.x x.x trivial trivial with h3 | h3 | h3
      · have := good_str.trans y.x x.x z.x trivial trivial trivial h3 h1; omega
      · have := cmpS_zero h3; rw [this] at h'; omega
      · omega
    · omega
    · omega
  keys := fun x y h e => by
    unfold ltF at h
    rw [e, cmpS_refl] at h
    simp at h
end Go.Proofs.YtjpmnlefjmdelaaGreatDoor
namespace Go.Proofs.YtjpmnlefjmdelaaGreatDoor
open Go.RowKit Go.Sort Go.Proofs.LawFrame

set_option maxHeartbeats 4000000 in
theorem swapRange_any (b cap pa pb n N : Nat) (rest : List Value) (P X M Y S L L' : List FC) (w : World) (ho : Own w b (L.flatMap FC.cells ++ rest) 58) (hL : L = P ++ (X ++ (M ++ (Y ++ S)))) (hL' : L' = P ++ (Y ++ (M ++ (X ++ S))))
    (hN : L.length = N) (hn : N ≤ 4000) (hX : X.length = n) (hY : Y.length = n) (hpa : P.length = pa) (hpb : P.length + X.length + M.length = pb) (hcap : N ≤ cap) (hcm : cap ≤ maxLen) :
    Calls Tryz.prog 217 #[.slice (some ⟨b, 0, none⟩) N cap, .int .i64 (pa : Int), .int .i64 (pb : Int), .int .i64 (n : Int), .func (.func 183) #[] #[]] w fun en w' => en = .returned (.tuple #[]) ∧ But b w w' ∧ Own w' b (L'.flatMap FC.cells ++ rest) 58 := by
  unfold maxLen at hcm
  have hle : pa + n ≤ pb ∧ pb + n ≤ N := by rw [hL] at hN; simp at hN; omega
  have HN := Lib.hid (And.intro hN (And.intro hX (And.intro hY (And.intro hpa (And.intro hpb (And.intro hL hL'))))))
  clear hN hX hY hpa hpb hL hL'
  obtain ⟨hle1, hle2⟩ := hle
  go_enter Tryz.func217, Tryz.ntmps217
  go_wp2
  have R0 := Lib.hid ho
  clear ho
  go_loopg [10] n (fun g s wr => ∃ (i : Nat) (P' X' M' Y' l' : List FC), i ≤ n ∧ g = n - i ∧ s = .int .i64 (i : Int) ∧ But b w wr ∧ Own wr b (l'.flatMap FC.cells ++ rest) 58 ∧
    Hid (l'.length = N ∧ P'.length = pa + i ∧ X'.length = n - i ∧ Y'.length = n - i ∧ P'.length + X'.length + M'.length = pb + i ∧ P' ++ (Y' ++ (M' ++ (X' ++ S))) = L' ∧ l' = P' ++ (X' ++ (M' ++ (Y' ++ S)))))
  case atStart =>
    obtain ⟨h1, h2, h3, h4, h5, h6, h7⟩ := HN.out
    exact ⟨0, P, X, M, Y, L, Nat.zero_le _, rfl, rfl, But.refl _ _, R0.out, Lib.hid ⟨h1, h4, h2, h3, h5, h7.symm, h6⟩⟩
  case round =>
    obtain ⟨i, P', X', M', Y', l', hi, hg, rfl, hbt, o, HI⟩ := hrel
    have HG := Lib.hid hg
    clear hg R0
    by_cases hlt : i < n
    case neg =>
      have hge : ¬ (i : Int) < (n : Int) := by omega
      obtain rfl : l' = L' := by
        obtain ⟨-, -, h3, h4, -, h6, h7⟩ := HI.out
        have e1 : X' = [] := List.eq_nil_of_length_eq_zero (by omega)
        have e2 : Y' = [] := List.eq_nil_of_length_eq_zero (by omega)
        subst e1 e2; exact h7.trans h6
      go_wp2
      go_end0
      exact ⟨rfl, hbt, o⟩
    obtain ⟨x, X2, rfl⟩ : ∃ x X2, X' = x :: X2 := by
      cases X' with
      | nil => have := HI.out.2.2.1; simp at this; omega
      | cons x X2 => exact ⟨x, X2, rfl⟩
    obtain ⟨y, Y2, rfl⟩ : ∃ y Y2, Y' = y :: Y2 := by
      cases Y' with
      | nil => have := HI.out.2.2.2.1; simp at this; omega
      | cons y Y2 => exact ⟨y, Y2, rfl⟩
    have hl : l' = P' ++ x :: ((X2 ++ M') ++ y :: (Y2 ++ S)) := by rw [HI.out.2.2.2.2.2.2]; simp
    have hx : l'[pa + i]? = some x := by rw [hl]; exact get_mid _ _ _ HI.out.2.1.symm
    have hy : l'[pb + i]? = some y := by rw [hl]; exact get_two _ _ _ _ _ (by have := HI.out.2.2.2.2.1; simp at this ⊢; omega)
    have HSW : Hid ((l'.set (pa + i) y).set (pb + i) x = (P' ++ [y]) ++ (X2 ++ ((M' ++ [x]) ++ (Y2 ++ S)))) := Lib.hid (by
      rw [hl, swap_two P' (X2 ++ M') (Y2 ++ S) x y HI.out.2.1.symm (by have := HI.out.2.2.2.2.1; simp at this ⊢; omega)]; simp)
    have HL : Hid (l'.length = N) := Lib.hid HI.out.1
    clear hl
    obtain ⟨x0, x1, x2, x3, x4, x5⟩ := Own.fieldAt o hx
    obtain ⟨y0, y1, y2, y3, y4, y5⟩ := Own.fieldAt o hy
    have fx0 := o.frozen ((pa + i) * 6)
    have fy0 := o.frozen ((pb + i) * 6)
    have fx1 := o.frozen ((pa + i) * 6 + 1)
    have fy1 := o.frozen ((pb + i) * 6 + 1)
    have fx2 := o.frozen ((pa + i) * 6 + 2)
    have fy2 := o.frozen ((pb + i) * 6 + 2)
    have fx3 := o.frozen ((pa + i) * 6 + 3)
    have fy3 := o.frozen ((pb + i) * 6 + 3)
    have fx4 := o.frozen ((pa + i) * 6 + 4)
    have fy4 := o.frozen ((pb + i) * 6 + 4)
    have fx5 := o.frozen ((pa + i) * 6 + 5)
    have fy5 := o.frozen ((pb + i) * 6 + 5)
    have HO := Lib.hid (And.intro hbt o)
    clear hbt o hx hy
    have hil : (pa : Int) + i < N := by omega
    have hjl : (pb : Int) + i < N := by omega
    have hne : pa + i < pb + i := by omega
    go_wp2
    go_region
    go_wp2
    obtain ⟨hb1, o1⟩ := HO.out
    have o2 := Own.setFR (Own.setFR o1 (k := pa + i) (by rw [HL.out]; omega) y) (k := pb + i) (by rw [List.length_set, HL.out]; omega) x
    have h12 := ((((((((((((hb1.set ((pa + i) * 6) (sV y.x)).set ((pa + i) * 6 + 1) (.int .i64 y.v.k)).set ((pa + i) * 6 + 2) (.int .i64 y.v.n)).set ((pa + i) * 6 + 3) (sV y.v.s)).set ((pa + i) * 6 + 4) (.slice y.v.la y.v.ln y.v.lc)).set ((pa + i) * 6 + 5) (.slice y.v.fa y.v.fn y.v.fc)).set ((pb + i) * 6) (sV x.x)).set ((pb + i) * 6 + 1) (.int .i64 x.v.k)).set ((pb + i) * 6 + 2) (.int .i64 x.v.n)).set ((pb + i) * 6 + 3) (sV x.v.s)).set ((pb + i) * 6 + 4) (.slice x.v.la x.v.ln x.v.lc)).set ((pb + i) * 6 + 5) (.slice x.v.fa x.v.fn x.v.fc)).drew
    go_roundg (n - (i + 1))
    case measure => have := HG.out; omega
    case rel =>
      refine ⟨i + 1, P' ++ [y], X2, M' ++ [x], Y2, (l'.set (pa + i) y).set (pb + i) x, by omega, rfl, by go_num, h12, o2.drew, Lib.hid ?_⟩
      obtain ⟨h1, h2, h3, h4, h5, h6, h7⟩ := HI.out
      refine ⟨by simp; exact h1, ?_⟩
      simp at h2 h3 h4 h5 ⊢
      refine ⟨by omega, by omega, by omega, by omega, ?_, ?_⟩
      · rw [← h6]; simp
      · have := HSW.out; simpa using this
end Go.Proofs.YtjpmnlefjmdelaaGreatDoor
namespace Go.Proofs.YtjpmnlefjmdelaaGreatDoor
open Go.RowKit Go.Sort Go.Proofs.LawFrame

theorem take_len {α : Type} {l : List α} {k : Nat} (h : k ≤ l.length) : (l.take k).length = k := by simp [h]

set_option maxHeartbeats 4000000 in
theorem rotate_any (b cap pa pm pb N : Nat) (rest : List Value) (P A B S L L' : List FC) (w : World) (ho : Own w b (L.flatMap FC.cells ++ rest) 58) (hL : L = P ++ (A ++ (B ++ S))) (hL' : L' = P ++ (B ++ (A ++ S)))
    (hN : L.length = N) (hn : N ≤ 4000) (hpa : P.length = pa) (hpm : P.length + A.length = pm) (hpb : P.length + A.length + B.length = pb) (hA : 0 < A.length) (hB : 0 < B.length) (hcap : N ≤ cap) (hcm : cap ≤ maxLen) :
    Calls Tryz.prog 216 #[.slice (some ⟨b, 0, none⟩) N cap, .int .i64 (pa : Int), .int .i64 (pm : Int), .int .i64 (pb : Int), .func (.func 183) #[] #[]] w fun en w' => en = .returned (.tuple #[]) ∧ But b w w' ∧ Own w' b (L'.flatMap FC.cells ++ rest) 58 := by
  have hcm' := hcm
  unfold maxLen at hcm
  have hle : pa < pm ∧ pm < pb ∧ pb ≤ N := by rw [hL] at hN; simp at hN; omega
  have HN := Lib.hid (And.intro hN (And.intro hpa (And.intro hpm (And.intro hpb (And.intro hL (And.intro hL' hcm'))))))
  clear hN hL hL' hpa hpm hpb hA hB hcm'
  obtain ⟨hle1, hle2, hle3⟩ := hle
  go_enter Tryz.func216, Tryz.ntmps216
  go_wp2
  have R0 := Lib.hid ho
  clear ho
  go_loopg [10, 11] (pb - pa) (fun g s s' wr => ∃ (i j : Nat) (P' X Y S' l' : List FC), 0 < i ∧ 0 < j ∧ i ≤ pm ∧ pm + j ≤ N ∧ g = i + j ∧ s = .int .i64 (i : Int) ∧ s' = .int .i64 (j : Int) ∧ But b w wr ∧ Own wr b (l'.flatMap FC.cells ++ rest) 58 ∧
    Hid (l'.length = N ∧ X.length = i ∧ Y.length = j ∧ P'.length + i = pm ∧ P' ++ (Y ++ (X ++ S')) = L' ∧ l' = P' ++ (X ++ (Y ++ S'))))
  case atStart =>
    obtain ⟨h1, h2, h3, h4, h5, h6, -⟩ := HN.out
    exact ⟨pm - pa, pb - pm, P, A, B, S, L, by omega, by omega, by omega, by omega, by omega, by go_num, by go_num, But.refl _ _, R0.out, Lib.hid ⟨h1, by omega, by omega, by omega, h6.symm, h5⟩⟩
  case round =>
    obtain ⟨i, j, P', X, Y, S', l', hi, hj, him, hjm, hg, rfl, rfl, hbt, o, HI⟩ := hrel
    have HG := Lib.hid hg
    clear hg R0
    obtain ⟨q1, q2, q3, q4, q5, q6⟩ := HI.out
    by_cases hij : i = j
    · subst hij
      have C := Lib.hid (swapRange_any b cap (pm - i) pm i N rest P' X [] Y S' l' L' wr o (by simpa using q6) (by rw [← q5]; simp) q1 hn q2 q3 (by omega) (by simp; omega) hcap HN.out.2.2.2.2.2.2)
      rw [show ((pm - i : Nat) : Int) = (pm : Int) - i by omega] at C
      have hb0 := Lib.hid hbt
      clear q1 q2 q3 q4 q5 q6 hbt o HI HN HG
      go_wp2_with fail
      refine C.out.mono ?_
      rintro e w2 ⟨rfl, h1, h2⟩
      have HH := Lib.hid (And.intro h1 h2)
      clear h1 h2 C
      go_wp2
      go_end0
      exact ⟨rfl, hb0.out.trans HH.out.1, HH.out.2⟩
    · by_cases hgt : j < i
      · obtain ⟨l2, hl2⟩ : ∃ l2, l2 = P' ++ (Y ++ (X.drop j ++ (X.take j ++ S'))) := ⟨_, rfl⟩
        have C := Lib.hid (swapRange_any b cap (pm - i) pm j N rest P' (X.take j) (X.drop j) Y S' l' l2 wr o (by rw [q6, ← List.append_assoc (X.take j), List.take_append_drop]) hl2 q1 hn (take_len (by omega)) q3 (by omega) (by simp; omega) hcap HN.out.2.2.2.2.2.2)
        have HL2 := Lib.hid hl2
        clear hl2
        rw [show ((pm - i : Nat) : Int) = (pm : Int) - i by omega] at C
        have hb0 := Lib.hid hbt
        clear q1 q2 q3 q4 q5 q6 hbt o
        go_wp2_with fail
        refine C.out.mono ?_
        rintro e w2 ⟨rfl, h1, h2⟩
        have HH := Lib.hid (And.intro h1 h2)
        clear h1 h2 C
        go_wp2
        go_roundg (i - j + j)
        case measure => have := HG.out; omega
        case rel =>
          obtain ⟨q1, q2, q3, q4, q5, q6⟩ := HI.out
          refine ⟨i - j, j, P' ++ Y, X.drop j, X.take j, S', l2, by omega, hj, by omega, hjm, rfl, by go_num, by go_num, hb0.out.trans HH.out.1, HH.out.2, Lib.hid ⟨?_, by simp; omega, take_len (by omega), by simp; omega, ?_, by rw [HL2.out]; simp⟩⟩
          · rw [q6] at q1; rw [HL2.out]; simp at q1 ⊢; omega
          · rw [← q5, List.append_assoc, ← List.append_assoc (X.take j), List.take_append_drop]
      · have hlt : i < j := by omega
        obtain ⟨l2, hl2⟩ : ∃ l2, l2 = P' ++ (Y.drop (j - i) ++ (Y.take (j - i) ++ (X ++ S'))) := ⟨_, rfl⟩
        have C := Lib.hid (swapRange_any b cap (pm - i) (pm + j - i) i N rest P' X (Y.take (j - i)) (Y.drop (j - i)) S' l' l2 wr o (by rw [q6, ← List.append_assoc (Y.take (j - i)), List.take_append_drop]) hl2 q1 hn q2 (by simp; omega) (by omega) (by simp; omega) hcap HN.out.2.2.2.2.2.2)
        have HL2 := Lib.hid hl2
        clear hl2
        rw [show ((pm - i : Nat) : Int) = (pm : Int) - i by omega, show ((pm + j - i : Nat) : Int) = (pm : Int) + j - i by omega] at C
        have hb0 := Lib.hid hbt
        clear q1 q2 q3 q4 q5 q6 hbt o
        go_wp2_with fail
        refine C.out.mono ?_
        rintro e w2 ⟨rfl, h1, h2⟩
        have HH := Lib.hid (And.intro h1 h2)
        clear h1 h2 C
        go_wp2
        go_roundg (i + (j - i))
        case measure => have := HG.out; omega
        case rel =>
          obtain ⟨q1, q2, q3, q4, q5, q6⟩ := HI.out
          refine ⟨i, j - i, P', Y.drop (j - i), Y.take (j - i), X ++ S', l2, hi, by omega, him, by omega, rfl, by go_num, by go_num, hb0.out.trans HH.out.1, HH.out.2, Lib.hid ⟨?_, by simp; omega, take_len (by omega), q4, ?_, HL2.out⟩⟩
          · rw [q6] at q1; rw [HL2.out]; simp at q1 ⊢; omega
          · rw [← q5, ← List.append_assoc (Y.take (j - i)), List.take_append_drop]
end Go.Proofs.YtjpmnlefjmdelaaGreatDoor
namespace Go.Proofs.YtjpmnlefjmdelaaGreatDoor
open Go.RowKit Go.Sort Go.Proofs.LawFrame

/-- two parts merged -/
structure Merged (b : Nat) (rest : List Value) (P A B S : List FC) (w' : World) : Prop where
  out : ∃ R L', L' = P ++ (R ++ S) ∧ R.length = A.length + B.length ∧ Srt ltF R ∧ Same FC.x (A ++ B) R ∧ Own w' b (L'.flatMap FC.cells ++ rest) 58
theorem ltF_true {x y : FC} (h : cmpS x.x y.x < 0) : ltF x y = true := by unfold ltF; simp; exact h
theorem ltF_false {x y : FC} (h : ¬ cmpS x.x y.x < 0) : ltF x y = false := by unfold ltF; simp; omega
theorem snoc_of {α : Type} {l : List α} (h : 0 < l.length) : ∃ r u, l = r ++ [u] := by
  rcases rev_cases l with rfl | h'
  · simp at h
  · exact h'

set_option maxHeartbeats 8000000 in
set_option maxRecDepth 4000 in
theorem merge_one (b cap pa pm pb N : Nat) (rest : List Value) (P B S L : List FC) (z : FC) (w : World) (ho : Own w b (L.flatMap FC.cells ++ rest) 58) (hL : L = P ++ z :: (B ++ S)) (hN : L.length = N) (hn : N ≤ 4000)
    (hpa : P.length = pa) (hpm : pa + 1 = pm) (hpb : pm + B.length = pb) (hB : Srt ltF B) (hcap : N ≤ cap) (hcm : cap ≤ maxLen) :
    Calls Tryz.prog 212 #[.slice (some ⟨b, 0, none⟩) N cap, .int .i64 (pa : Int), .int .i64 (pm : Int), .int .i64 (pb : Int), .func (.func 183) #[] #[]] w fun en w' => en = .returned (.tuple #[]) ∧ But b w w' ∧ Merged b rest P [z] B S w' := by
  unfold maxLen at hcm
  have hle : pb ≤ N := by rw [hL] at hN; simp at hN; omega
  have hg1 : ((pm : Int) - pa == 1) = true := by rw [beq_iff_eq]; omega
  have hy0 : L[pa]? = some z := by rw [hL]; exact get_mid _ _ _ hpa.symm
  have hBL : ∀ j, pm ≤ j → j < pb → L[j]? = B[j - pm]? := fun j h1 h2 => by
    rw [hL, List.getElem?_append_right (by omega), show j - P.length = (j - pm) + 1 by omega, List.getElem?_cons_succ, List.getElem?_append_left (by omega)]
  have HN := Lib.hid (And.intro hN (And.intro hL (And.intro hpa (And.intro hpb (And.intro hB (And.intro hy0 hBL))))))
  have hmb : pm ≤ pb := by omega
  clear hN hL hpa hpb hB hy0 hBL
  go_enter Tryz.func212, Tryz.ntmps212
  go_wp2
  have R0 := Lib.hid ho
  clear ho
  go_loopg [10, 11] (pb - pm) (fun g s s' wr => ∃ (i j : Nat), pm ≤ i ∧ i ≤ j ∧ j ≤ pb ∧ g = j - i ∧ s = .int .i64 (i : Int) ∧ s' = .int .i64 (j : Int) ∧ But b w wr ∧ Own wr b (L.flatMap FC.cells ++ rest) 58 ∧
    Hid ((i = pm ∨ ∃ v, B[i - pm - 1]? = some v ∧ ltF v z = true) ∧ (j = pb ∨ ∃ v, B[j - pm]? = some v ∧ ltF v z = false)))
  case atStart => exact ⟨pm, pb, Nat.le_refl _, hmb, Nat.le_refl _, rfl, by go_num, by go_num, But.refl _ _, R0.out, Lib.hid ⟨Or.inl rfl, Or.inl rfl⟩⟩
  case round =>
    obtain ⟨i, j, hi, hij, hj, hg, rfl, rfl, hbt, o, HI⟩ := hrel
    have HG := Lib.hid hg
    clear hg R0
    by_cases hlt : i < j
    · obtain ⟨h, hh⟩ : ∃ h, h = (i + j) / 2 := ⟨_, rfl⟩
      have hh1 : i ≤ h ∧ h < j := by omega
      obtain ⟨hh1, hh2⟩ := hh1
      have hhi : ((i : Int) + j) / 2 = (h : Int) := by omega
      clear hh
      obtain ⟨x, hx⟩ : ∃ x, L[h]? = some x := ⟨_, List.getElem?_eq_getElem (by rw [HN.out.1]; omega)⟩
      have hxB : B[h - pm]? = some x := by rw [← HN.out.2.2.2.2.2.2 h (by omega) (by omega)]; exact hx
      have hy := HN.out.2.2.2.2.2.1
      have HX := Lib.hid hxB
      clear hxB
      generalize z = y at *
      obtain ⟨x0, x1, x2, x3, x4, x5⟩ := Own.fieldAt o hx
      obtain ⟨y0, y1, y2, y3, y4, y5⟩ := Own.fieldAt o hy
      have gx0 := cell_regrown x0
      have gx1 := cell_regrown x1
      have gx2 := cell_regrown x2
      have gx3 := cell_regrown x3
      have gx4 := cell_regrown x4
      have gx5 := cell_regrown x5
      have gy0 := cell_regrown y0
      have gy1 := cell_regrown y1
      have gy2 := cell_regrown y2
      have gy3 := cell_regrown y3
      have gy4 := cell_regrown y4
      have gy5 := cell_regrown y5
      have cB : ∀ dd os, Calls Tryz.prog 183 #[.agg #[sV x.x, .int .i64 x.v.k, .int .i64 x.v.n, sV x.v.s, .slice x.v.la x.v.ln x.v.lc, .slice x.v.fa x.v.fn x.v.fc], .agg #[sV y.x, .int .i64 y.v.k, .int .i64 y.v.n, sV y.v.s, .slice y.v.la y.v.ln y.v.lc, .slice y.v.fa y.v.fn y.v.fc]] (grow (redrawn wr dd) os) fun e w'' => e = .returned (.int .i64 (cmpS x.x y.x)) ∧ ∃ p : Regrown, w'' = grow (redrawn wr p.d) p.os := fun dd os => Calls.regrown_of (byName_any x y _)
      by_cases hc : cmpS x.x y.x < 0
      · have HC := Lib.hid (ltF_true hc)
        go_wp2
        refine wp_region_quiet_below (by kernel_rfl) (by kernel_rfl) ?_
        repeat (first | go_big_quiet_step ((with_reducible exact cB _ _)) | quiet_step (with_reducible exact cB _ _))
        refine wpQuiet_nil ?_
        intro _ hw'
        obtain ⟨⟨dq, osq⟩, hw''⟩ := hw'
        subst hw''
        have hb1 := hbt.all (below_regrown wr dq osq)
        have o1 := o.all (below_regrown wr dq osq)
        clear hbt o hx hy x0 x1 x2 x3 x4 x5 y0 y1 y2 y3 y4 y5 gx0 gx1 gx2 gx3 gx4 gx5 gy0 gy1 gy2 gy3 gy4 gy5 cB
        go_wp2
        go_roundg (j - (h + 1))
        case measure => have := HG.out; omega
        case rel => exact ⟨h + 1, j, by omega, by omega, hj, rfl, by go_num, rfl, hb1, o1, Lib.hid ⟨Or.inr ⟨x, by rw [show h + 1 - pm - 1 = h - pm by omega]; exact HX.out, HC.out⟩, HI.out.2⟩⟩
      · have HC := Lib.hid (ltF_false hc)
        go_wp2
        refine wp_region_quiet_below (by kernel_rfl) (by kernel_rfl) ?_
        repeat (first | go_big_quiet_step ((with_reducible exact cB _ _)) | quiet_step (with_reducible exact cB _ _))
        refine wpQuiet_nil ?_
        intro _ hw'
        obtain ⟨⟨dq, osq⟩, hw''⟩ := hw'
        subst hw''
        have hb1 := hbt.all (below_regrown wr dq osq)
        have o1 := o.all (below_regrown wr dq osq)
        clear hbt o hx hy x0 x1 x2 x3 x4 x5 y0 y1 y2 y3 y4 y5 gx0 gx1 gx2 gx3 gx4 gx5 gy0 gy1 gy2 gy3 gy4 gy5 cB
        go_wp2
        go_roundg (h - i)
        case measure => have := HG.out; omega
        case rel => exact ⟨i, h, by omega, by omega, by omega, rfl, rfl, by go_num, hb1, o1, Lib.hid ⟨HI.out.1, Or.inr ⟨x, HX.out, HC.out⟩⟩⟩
    · obtain rfl : i = j := by omega
      obtain ⟨t, ht⟩ : ∃ t, t = i - pm := ⟨_, rfl⟩
      have HM := Lib.hid (merge_first weak_field (x := z) (t := t) HN.out.2.2.2.2.1 (by
          rcases HI.out.2 with h | ⟨v, h1, h2⟩
          · exact Or.inl (by have := HN.out.2.2.2.1; omega)
          · exact Or.inr ⟨v, by rw [ht]; exact h1, h2⟩) (by
          rcases HI.out.1 with h | ⟨v, h1, h2⟩
          · exact Or.inl (by omega)
          · exact Or.inr ⟨v, by rw [ht]; exact h1, h2⟩))
      have HT : Hid (t ≤ B.length) := Lib.hid (by have := HN.out.2.2.2.1; omega)
      have HTi := Lib.hid ht
      clear ht HI HG
      go_wp2
      generalize wr = W1 at *
      have R1 := Lib.hid (And.intro hbt o)
      clear hbt o
      go_loopg [13] (i - 1 - pa) (fun g s wr => ∃ (k : Nat) (C D l' : List FC), pa ≤ k ∧ k ≤ i - 1 ∧ g = i - 1 - k ∧ s = .int .i64 (k : Int) ∧ But b w wr ∧ Own wr b (l'.flatMap FC.cells ++ rest) 58 ∧
        Hid (l'.length = N ∧ C ++ D = B.take t ∧ k = pa + C.length ∧ l' = P ++ (C ++ z :: (D ++ (B.drop t ++ S)))))
      case atStart =>
        refine ⟨pa, [], B.take t, L, Nat.le_refl _, by omega, rfl, by go_num, R1.out.1, R1.out.2, Lib.hid ⟨HN.out.1, rfl, by simp, ?_⟩⟩
        rw [HN.out.2.1, ← List.append_assoc (B.take t), List.take_append_drop]; rfl
      case round =>
        obtain ⟨k, C, D, l', hk, hki, hg, rfl, hbt, o, HI⟩ := hrel
        have HG := Lib.hid hg
        clear hg R1
        by_cases hlt2 : k < i - 1
        · obtain ⟨d, D', rfl⟩ : ∃ d D', D = d :: D' := by
            cases D with
            | nil =>
              obtain ⟨-, h2, h3, -⟩ := HI.out
              have := HT.out; have := HTi.out
              have h4 := congrArg List.length h2
              simp at h4; omega
            | cons d D' => exact ⟨d, D', rfl⟩
          have hl : l' = (P ++ C) ++ z :: ([] ++ d :: (D' ++ (B.drop t ++ S))) := by rw [HI.out.2.2.2]; simp
          have hkl : k = (P ++ C).length := by rw [HI.out.2.2.1, List.length_append, HN.out.2.2.1]
          have hx : l'[k]? = some z := by rw [hl]; exact get_mid _ _ _ hkl
          have hy : l'[k + 1]? = some d := by rw [hl]; exact get_two _ [] _ _ _ (by simp at hkl ⊢; omega)
          have HSW : Hid ((l'.set k d).set (k + 1) z = P ++ ((C ++ [d]) ++ z :: (D' ++ (B.drop t ++ S)))) := Lib.hid (by
            rw [hl, swap_two (P ++ C) [] (D' ++ (B.drop t ++ S)) z d hkl (by simp at hkl ⊢; omega)]; simp)
          have HL : Hid (l'.length = N) := Lib.hid HI.out.1
          have hki2 : (k : Int) < (i : Int) - 1 := by omega
          clear hl hkl
          obtain ⟨x0, x1, x2, x3, x4, x5⟩ := Own.fieldAt o hx
          obtain ⟨y0, y1, y2, y3, y4, y5⟩ := Own.fieldAt o hy
          have fx0 := o.frozen (k * 6)
          have fy0 := o.frozen ((k + 1) * 6)
          have fx1 := o.frozen (k * 6 + 1)
          have fy1 := o.frozen ((k + 1) * 6 + 1)
          have fx2 := o.frozen (k * 6 + 2)
          have fy2 := o.frozen ((k + 1) * 6 + 2)
          have fx3 := o.frozen (k * 6 + 3)
          have fy3 := o.frozen ((k + 1) * 6 + 3)
          have fx4 := o.frozen (k * 6 + 4)
          have fy4 := o.frozen ((k + 1) * 6 + 4)
          have fx5 := o.frozen (k * 6 + 5)
          have fy5 := o.frozen ((k + 1) * 6 + 5)
          have HO := Lib.hid (And.intro hbt o)
          clear hbt o hx hy
          go_wp2
          go_region
          go_wp2
          obtain ⟨hb1, o1⟩ := HO.out
          have o2 := Own.setFR (Own.setFR o1 (k := k) (by rw [HL.out]; omega) d) (k := (k + 1)) (by rw [List.length_set, HL.out]; omega) z
          have h12 := ((((((((((((hb1.set (k * 6) (sV d.x)).set (k * 6 + 1) (.int .i64 d.v.k)).set (k * 6 + 2) (.int .i64 d.v.n)).set (k * 6 + 3) (sV d.v.s)).set (k * 6 + 4) (.slice d.v.la d.v.ln d.v.lc)).set (k * 6 + 5) (.slice d.v.fa d.v.fn d.v.fc)).set ((k + 1) * 6) (sV z.x)).set ((k + 1) * 6 + 1) (.int .i64 z.v.k)).set ((k + 1) * 6 + 2) (.int .i64 z.v.n)).set ((k + 1) * 6 + 3) (sV z.v.s)).set ((k + 1) * 6 + 4) (.slice z.v.la z.v.ln z.v.lc)).set ((k + 1) * 6 + 5) (.slice z.v.fa z.v.fn z.v.fc)).drew
          go_roundg (i - 1 - (k + 1))
          case measure => have := HG.out; omega
          case rel =>
            refine ⟨k + 1, C ++ [d], D', (l'.set k d).set (k + 1) z, by omega, by omega, rfl, by go_num, h12, o2.drew, Lib.hid ?_⟩
            obtain ⟨h1, h2, h3, h4⟩ := HI.out
            exact ⟨by simp; exact h1, by simpa using h2, by simp; omega, HSW.out⟩
        · have hge : ¬ (k : Int) < (i : Int) - 1 := by omega
          have HD : Hid (l' = P ++ ((B.take t ++ z :: B.drop t) ++ S)) := Lib.hid (by
            obtain ⟨-, h2, h3, h4⟩ := HI.out
            have h5 := congrArg List.length h2
            have := HT.out; have := HTi.out
            have e : D = [] := List.eq_nil_of_length_eq_zero (by simp at h5; omega)
            subst e
            rw [h4, ← h2]; simp)
          go_wp2
          refine bodyPost_ret (results_none rfl _ _ _) rfl ?_
          exact ⟨rfl, hbt, ⟨B.take t ++ z :: B.drop t, l', HD.out, by have := HT.out; simp; omega, HM.out.1, HM.out.2, o⟩⟩
end Go.Proofs.YtjpmnlefjmdelaaGreatDoor
