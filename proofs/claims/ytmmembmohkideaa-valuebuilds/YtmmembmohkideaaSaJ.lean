/- The contract of the exchange of two parts of a row of fields. The contract of the rotation of a row of fields. -/
import Derived.Test.YtmmembmohkideaaMt
import Derived.BigRegion
namespace Go.Proofs.Ytmmembmohkideaa
open Go.RowKit Go.Sort Go.Proofs.LawFrame

set_option maxHeartbeats 4000000 in
theorem swapRange_any (b cap pa pb n N : Nat) (rest : List Value) (P X M Y S L L' : List FC) (w : World) (ho : Own w b (L.flatMap FC.cells ++ rest) 35) (hL : L = P ++ (X ++ (M ++ (Y ++ S)))) (hL' : L' = P ++ (Y ++ (M ++ (X ++ S))))
    (hN : L.length = N) (hn : N ≤ 1000) (hX : X.length = n) (hY : Y.length = n) (hpa : P.length = pa) (hpb : P.length + X.length + M.length = pb) (hcap : N ≤ cap) (hcm : cap ≤ maxLen) :
    Calls Try.prog 74 #[.slice (some ⟨b, 0, none⟩) N cap, .int .i64 (pa : Int), .int .i64 (pb : Int), .int .i64 (n : Int), .func (.func 50) #[] #[]] w fun en w' => en = .returned (.tuple #[]) ∧ But b w w' ∧ Own w' b (L'.flatMap FC.cells ++ rest) 35 := by
  unfold maxLen at hcm
  have hle : pa + n ≤ pb ∧ pb + n ≤ N := by rw [hL] at hN; simp at hN; omega
  have HN := Lib.hid (And.intro hN (And.intro hX (And.intro hY (And.intro hpa (And.intro hpb (And.intro hL hL'))))))
  clear hN hX hY hpa hpb hL hL'
  obtain ⟨hle1, hle2⟩ := hle
  go_enter Try.func74, Try.ntmps74
  go_wp2
  have R0 := Lib.hid ho
  clear ho
  go_loopg [10] n (fun g s wr => ∃ (i : Nat) (P' X' M' Y' l' : List FC), i ≤ n ∧ g = n - i ∧ s = .int .i64 (i : Int) ∧ But b w wr ∧ Own wr b (l'.flatMap FC.cells ++ rest) 35 ∧
    Hid (l'.length = N ∧ P'.length = pa + i ∧ X'.length = n - i ∧ Y'.length = n - i ∧ P'.length + X'.length + M'.length = pb + i ∧ P' ++ (Y' ++ (M' ++ (X' ++ S))) = L' ∧ l' = P' ++ (X' ++ (M' ++ (Y' ++ S)))))
  case atStart =>
    obtain ⟨h1, h2, h3, h4, h5, h6, h7⟩ := HN.out
    exact ⟨0, P, X, M, Y, L, Nat.zero_le _, rfl, rfl, But.refl _ _, R0.out, Lib.hid ⟨h1, h4, h2, h3, h5, h7.symm, h6⟩⟩
  case round =>
    obtain ⟨i, P', X', M', Y', l', hi, hg, rfl, hbt, o, HI⟩ := hrel
    have HG := Lib.hid hg
    clear hg R0
    by_cases hlt : i < n
    case neg =>
      have hge : ¬ (i : Int) < (n : Int) := by omega
      obtain rfl : l' = L' := by
        obtain ⟨-, -, h3, h4, -, h6, h7⟩ := HI.out
        have e1 : X' = [] := List.eq_nil_of_length_eq_zero (by omega)
        have e2 : Y' = [] := List.eq_nil_of_length_eq_zero (by omega)
        subst e1 e2; exact h7.trans h6
      go_wp2
      go_end0
      exact ⟨rfl, hbt, o⟩
    obtain ⟨x, X2, rfl⟩ : ∃ x X2, X' = x :: X2 := by
      cases X' with
      | nil => have := HI.out.2.2.1; simp at this; omega
      | cons x X2 => exact ⟨x, X2, rfl⟩
    obtain ⟨y, Y2, rfl⟩ : ∃ y Y2, Y' = y :: Y2 := by
      cases Y' with
      | nil => have := HI.out.2.2.2.1; simp at this; omega
      | cons y Y2 => exact ⟨y, Y2, rfl⟩
    have hl : l' = P' ++ x :: ((X2 ++ M') ++ y :: (Y2 ++ S)) := by rw [HI.out.2.2.2.2.2.2]; simp
    have hx : l'[pa + i]? = some x := by rw [hl]; exact get_mid _ _ _ HI.out.2.1.symm
    have hy : l'[pb + i]? = some y := by rw [hl]; exact get_two _ _ _ _ _ (by have := HI.out.2.2.2.2.1; simp at this ⊢; omega)
    have HSW : Hid ((l'.set (pa + i) y).set (pb + i) x = (P' ++ [y]) ++ (X2 ++ ((M' ++ [x]) ++ (Y2 ++ S)))) := Lib.hid (by
      rw [hl, swap_two P' (X2 ++ M') (Y2 ++ S) x y HI.out.2.1.symm (by have := HI.out.2.2.2.2.1; simp at this ⊢; omega)]; simp)
    have HL : Hid (l'.length = N) := Lib.hid HI.out.1
    clear hl
    obtain ⟨x0, x1, x2, x3, x4, x5⟩ := Own.fieldAt o hx
    obtain ⟨y0, y1, y2, y3, y4, y5⟩ := Own.fieldAt o hy
    have fx0 := o.frozen ((pa + i) * 6)
    have fy0 := o.frozen ((pb + i) * 6)
    have fx1 := o.frozen ((pa + i) * 6 + 1)
    have fy1 := o.frozen ((pb + i) * 6 + 1)
    have fx2 := o.frozen ((pa + i) * 6 + 2)
    have fy2 := o.frozen ((pb + i) * 6 + 2)
    have fx3 := o.frozen ((pa + i) * 6 + 3)
    have fy3 := o.frozen ((pb + i) * 6 + 3)
    have fx4 := o.frozen ((pa + i) * 6 + 4)
    have fy4 := o.frozen ((pb + i) * 6 + 4)
    have fx5 := o.frozen ((pa + i) * 6 + 5)
    have fy5 := o.frozen ((pb + i) * 6 + 5)
    have HO := Lib.hid (And.intro hbt o)
    clear hbt o hx hy
    have hil : (pa : Int) + i < N := by omega
    have hjl : (pb : Int) + i < N := by omega
    have hne : pa + i < pb + i := by omega
    go_wp2
    go_region
    go_wp2
    obtain ⟨hb1, o1⟩ := HO.out
    have o2 := Own.setFR (Own.setFR o1 (k := pa + i) (by rw [HL.out]; omega) y) (k := pb + i) (by rw [List.length_set, HL.out]; omega) x
    have h12 := ((((((((((((hb1.set ((pa + i) * 6) (sV y.x)).set ((pa + i) * 6 + 1) (.int .i64 y.v.k)).set ((pa + i) * 6 + 2) (.int .i64 y.v.n)).set ((pa + i) * 6 + 3) (sV y.v.s)).set ((pa + i) * 6 + 4) (.slice y.v.la y.v.ln y.v.lc)).set ((pa + i) * 6 + 5) (.slice y.v.fa y.v.fn y.v.fc)).set ((pb + i) * 6) (sV x.x)).set ((pb + i) * 6 + 1) (.int .i64 x.v.k)).set ((pb + i) * 6 + 2) (.int .i64 x.v.n)).set ((pb + i) * 6 + 3) (sV x.v.s)).set ((pb + i) * 6 + 4) (.slice x.v.la x.v.ln x.v.lc)).set ((pb + i) * 6 + 5) (.slice x.v.fa x.v.fn x.v.fc)).drew
    go_roundg (n - (i + 1))
    case measure => have := HG.out; omega
    case rel =>
      refine ⟨i + 1, P' ++ [y], X2, M' ++ [x], Y2, (l'.set (pa + i) y).set (pb + i) x, by omega, rfl, by go_num, h12, o2.drew, Lib.hid ?_⟩
      obtain ⟨h1, h2, h3, h4, h5, h6, h7⟩ := HI.out
      refine ⟨by simp; exact h1, ?_⟩
      simp at h2 h3 h4 h5 ⊢
      refine ⟨by omega, by omega, by omega, by omega, ?_, ?_⟩
      · rw [← h6]; simp
      · have := HSW.out; simpa using this
end Go.Proofs.Ytmmembmohkideaa
namespace Go.Proofs.Ytmmembmohkideaa
open Go.RowKit Go.Sort Go.Proofs.LawFrame

theorem take_len {α : Type} {l : List α} {k : Nat} (h : k ≤ l.length) : (l.take k).length = k := by simp [h]

set_option maxHeartbeats 4000000 in
theorem rotate_any (b cap pa pm pb N : Nat) (rest : List Value) (P A B S L L' : List FC) (w : World) (ho : Own w b (L.flatMap FC.cells ++ rest) 35) (hL : L = P ++ (A ++ (B ++ S))) (hL' : L' = P ++ (B ++ (A ++ S)))
    (hN : L.length = N) (hn : N ≤ 1000) (hpa : P.length = pa) (hpm : P.length + A.length = pm) (hpb : P.length + A.length + B.length = pb) (hA : 0 < A.length) (hB : 0 < B.length) (hcap : N ≤ cap) (hcm : cap ≤ maxLen) :
    Calls Try.prog 72 #[.slice (some ⟨b, 0, none⟩) N cap, .int .i64 (pa : Int), .int .i64 (pm : Int), .int .i64 (pb : Int), .func (.func 50) #[] #[]] w fun en w' => en = .returned (.tuple #[]) ∧ But b w w' ∧ Own w' b (L'.flatMap FC.cells ++ rest) 35 := by
  have hcm' := hcm
  unfold maxLen at hcm
  have hle : pa < pm ∧ pm < pb ∧ pb ≤ N := by rw [hL] at hN; simp at hN; omega
  have HN := Lib.hid (And.intro hN (And.intro hpa (And.intro hpm (And.intro hpb (And.intro hL (And.intro hL' hcm'))))))
  clear hN hL hL' hpa hpm hpb hA hB hcm'
  obtain ⟨hle1, hle2, hle3⟩ := hle
  go_enter Try.func72, Try.ntmps72
  go_wp2
  have R0 := Lib.hid ho
  clear ho
  go_loopg [10, 11] (pb - pa) (fun g s s' wr => ∃ (i j : Nat) (P' X Y S' l' : List FC), 0 < i ∧ 0 < j ∧ i ≤ pm ∧ pm + j ≤ N ∧ g = i + j ∧ s = .int .i64 (i : Int) ∧ s' = .int .i64 (j : Int) ∧ But b w wr ∧ Own wr b (l'.flatMap FC.cells ++ rest) 35 ∧
    Hid (l'.length = N ∧ X.length = i ∧ Y.length = j ∧ P'.length + i = pm ∧ P' ++ (Y ++ (X ++ S')) = L' ∧ l' = P' ++ (X ++ (Y ++ S'))))
  case atStart =>
    obtain ⟨h1, h2, h3, h4, h5, h6, -⟩ := HN.out
    exact ⟨pm - pa, pb - pm, P, A, B, S, L, by omega, by omega, by omega, by omega, by omega, by go_num, by go_num, But.refl _ _, R0.out, Lib.hid ⟨h1, by omega, by omega, by omega, h6.symm, h5⟩⟩
  case round =>
    obtain ⟨i, j, P', X, Y, S', l', hi, hj, him, hjm, hg, rfl, rfl, hbt, o, HI⟩ := hrel
    have HG := Lib.hid hg
    clear hg R0
    obtain ⟨q1, q2, q3, q4, q5, q6⟩ := HI.out
    by_cases hij : i = j
    · subst hij
      have C := Lib.hid (swapRange_any b cap (pm - i) pm i N rest P' X [] Y S' l' L' wr o (by simpa using q6) (by rw [← q5]; simp) q1 hn q2 q3 (by omega) (by simp; omega) hcap HN.out.2.2.2.2.2.2)
      rw [show ((pm - i : Nat) : Int) = (pm : Int) - i by omega] at C
      have hb0 := Lib.hid hbt
      clear q1 q2 q3 q4 q5 q6 hbt o HI HN HG
      go_wp2_with fail
      refine C.out.mono ?_
      rintro e w2 ⟨rfl, h1, h2⟩
      have HH := Lib.hid (And.intro h1 h2)
      clear h1 h2 C
      go_wp2
      go_end0
      exact ⟨rfl, hb0.out.trans HH.out.1, HH.out.2⟩
    · by_cases hgt : j < i
      · obtain ⟨l2, hl2⟩ : ∃ l2, l2 = P' ++ (Y ++ (X.drop j ++ (X.take j ++ S'))) := ⟨_, rfl⟩
        have C := Lib.hid (swapRange_any b cap (pm - i) pm j N rest P' (X.take j) (X.drop j) Y S' l' l2 wr o (by rw [q6, ← List.append_assoc (X.take j), List.take_append_drop]) hl2 q1 hn (take_len (by omega)) q3 (by omega) (by simp; omega) hcap HN.out.2.2.2.2.2.2)
        have HL2 := Lib.hid hl2
        clear hl2
        rw [show ((pm - i : Nat) : Int) = (pm : Int) - i by omega] at C
        have hb0 := Lib.hid hbt
        clear q1 q2 q3 q4 q5 q6 hbt o
        go_wp2_with fail
        refine C.out.mono ?_
        rintro e w2 ⟨rfl, h1, h2⟩
        have HH := Lib.hid (And.intro h1 h2)
        clear h1 h2 C
        go_wp2
        go_roundg (i - j + j)
        case measure => have := HG.out; omega
        case rel =>
          obtain ⟨q1, q2, q3, q4, q5, q6⟩ := HI.out
          refine ⟨i - j, j, P' ++ Y, X.drop j, X.take j, S', l2, by omega, hj, by omega, hjm, rfl, by go_num, by go_num, hb0.out.trans HH.out.1, HH.out.2, Lib.hid ⟨?_, by simp; omega, take_len (by omega), by simp; omega, ?_, by rw [HL2.out]; simp⟩⟩
          · rw [q6] at q1; rw [HL2.out]; simp at q1 ⊢; omega
          · rw [← q5, List.append_assoc, ← List.append_assoc (X.take j), List.take_append_drop]
      · have hlt : i < j := by omega
        obtain ⟨l2, hl2⟩ : ∃ l2, l2 = P' ++ (Y.drop (j - i) ++ (Y.take (j - i) ++ (X ++ S'))) := ⟨_, rfl⟩
        have C := Lib.hid (swapRange_any b cap (pm - i) (pm + j - i) i N rest P' X (Y.take (j - i)) (Y.drop (j - i)) S' l' l2 wr o (by rw [q6, ← List.append_assoc (Y.take (j - i)), List.take_append_drop]) hl2 q1 hn q2 (by simp; omega) (by omega) (by simp; omega) hcap HN.out.2.2.2.2.2.2)
        have HL2 := Lib.hid hl2
        clear hl2
        rw [show ((pm - i : Nat) : Int) = (pm : Int) - i by omega, show ((pm + j - i : Nat) : Int) = (pm : Int) + j - i by omega] at C
        have hb0 := Lib.hid hbt
        clear q1 q2 q3 q4 q5 q6 hbt o
        go_wp2_with fail
        refine C.out.mono ?_
        rintro e w2 ⟨rfl, h1, h2⟩
        have HH := Lib.hid (And.intro h1 h2)
        clear h1 h2 C
        go_wp2
        go_roundg (i + (j - i))
        case measure => have := HG.out; omega
        case rel =>
          obtain ⟨q1, q2, q3, q4, q5, q6⟩ := HI.out
          refine ⟨i, j - i, P', Y.drop (j - i), Y.take (j - i), X ++ S', l2, hi, by omega, him, by omega, rfl, by go_num, by go_num, hb0.out.trans HH.out.1, HH.out.2, Lib.hid ⟨?_, by simp; omega, take_len (by omega), q4, ?_, HL2.out⟩⟩
          · rw [q6] at q1; rw [HL2.out]; simp at q1 ⊢; omega
          · rw [← q5, ← List.append_assoc (Y.take (j - i)), List.take_append_drop]
end Go.Proofs.Ytmmembmohkideaa
