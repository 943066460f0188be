/- The contract of the exchange of two parts of a row of fields. -/
import Derived.Test.YtmmembmohkideaaMt
import Derived.BigRegion
namespace Go.Proofs.Ytmmembmohkideaa
open Go.RowKit Go.Sort Go.Proofs.LawFrame

set_option maxHeartbeats 4000000 in
theorem swapRange_any (b cap pa pb n N : Nat) (rest : List Value) (P X M Y S L L' : List FC) (w : World) (ho : Own w b (L.flatMap FC.cells ++ rest) 35) (hL : L = P ++ (X ++ (M ++ (Y ++ S)))) (hL' : L' = P ++ (Y ++ (M ++ (X ++ S))))
    (hN : L.length = N) (hn : N ≤ 1000) (hX : X.length = n) (hY : Y.length = n) (hpa : P.length = pa) (hpb : P.length + X.length + M.length = pb) (hcap : N ≤ cap) (hcm : cap ≤ maxLen) :
    Calls Try.prog 74 #[.slice (some ⟨b, 0, none⟩) N cap, .int .i64 (pa : Int), .int .i64 (pb : Int), .int .i64 (n : Int), .func (.func 50) #[] #[]] w fun en w' => en = .returned (.tuple #[]) ∧ But b w w' ∧ Own w' b (L'.flatMap FC.cells ++ rest) 35 := by
  unfold maxLen at hcm
  have hle : pa + n ≤ pb ∧ pb + n ≤ N := by rw [hL] at hN; simp at hN; omega
  have HN := Lib.hid (And.intro hN (And.intro hX (And.intro hY (And.intro hpa (And.intro hpb (And.intro hL hL'))))))
  clear hN hX hY hpa hpb hL hL'
  obtain ⟨hle1, hle2⟩ := hle
  go_enter Try.func74, Try.ntmps74
  go_wp2
  have R0 := Lib.hid ho
  clear ho
  go_loopg [10] n (fun g s wr => ∃ (i : Nat) (P' X' M' Y' l' : List FC), i ≤ n ∧ g = n - i ∧ s = .int .i64 (i : Int) ∧ But b w wr ∧ Own wr b (l'.flatMap FC.cells ++ rest) 35 ∧
    Hid (l'.length = N ∧ P'.length = pa + i ∧ X'.length = n - i ∧ Y'.length = n - i ∧ P'.length + X'.length + M'.length = pb + i ∧ P' ++ (Y' ++ (M' ++ (X' ++ S))) = L' ∧ l' = P' ++ (X' ++ (M' ++ (Y' ++ S)))))
  case atStart =>
    obtain ⟨h1, h2, h3, h4, h5, h6, h7⟩ := HN.out
    exact ⟨0, P, X, M, Y, L, Nat.zero_le _, rfl, rfl, But.refl _ _, R0.out, Lib.hid ⟨h1, h4, h2, h3, h5, h7.symm, h6⟩⟩
  case round =>
    obtain ⟨i, P', X', M', Y', l', hi, hg, rfl, hbt, o, HI⟩ := hrel
    have HG := Lib.hid hg
    clear hg R0
    by_cases hlt : i < n
    case neg =>
      have hge : ¬ (i : Int) < (n : Int) := by omega
      obtain rfl : l' = L' := by
        obtain ⟨-, -, h3, h4, -, h6, h7⟩ := HI.out
        have e1 : X' = [] := List.eq_nil_of_length_eq_zero (by omega)
        have e2 : Y' = [] := List.eq_nil_of_length_eq_zero (by omega)
        subst e1 e2; exact h7.trans h6
      go_wp2
      go_end0
      exact ⟨rfl, hbt, o⟩
    obtain ⟨x, X2, rfl⟩ : ∃ x X2, X' = x :: X2 := by
      cases X' with
      | nil => have := HI.out.2.2.1; simp at this; omega
      | cons x X2 => exact ⟨x, X2, rfl⟩
    obtain ⟨y, Y2, rfl⟩ : ∃ y Y2, Y' = y :: Y2 := by
      cases Y' with
      | nil => have := HI.out.2.2.2.1; simp at this; omega
      | cons y Y2 => exact ⟨y, Y2, rfl⟩
    have hl : l' = P' ++ x :: ((X2 ++ M') ++ y :: (Y2 ++ S)) := by rw [HI.out.2.2.2.2.2.2]; simp
    have hx : l'[pa + i]? = some x := by rw [hl]; exact get_mid _ _ _ HI.out.2.1.symm
    have hy : l'[pb + i]? = some y := by rw [hl]; exact get_two _ _ _ _ _ (by have := HI.out.2.2.2.2.1; simp at this ⊢; omega)
    have HSW : Hid ((l'.set (pa + i) y).set (pb + i) x = (P' ++ [y]) ++ (X2 ++ ((M' ++ [x]) ++ (Y2 ++ S)))) := Lib.hid (by
      rw [hl, swap_two P' (X2 ++ M') (Y2 ++ S) x y HI.out.2.1.symm (by have := HI.out.2.2.2.2.1; simp at this ⊢; omega)]; simp)
    have HL : Hid (l'.length = N) := Lib.hid HI.out.1
    clear hl
    obtain ⟨x0, x1, x2, x3, x4, x5⟩ := Own.fieldAt o hx
    obtain ⟨y0, y1, y2, y3, y4, y5⟩ := Own.fieldAt o hy
    have fx0 := o.frozen ((pa + i) * 6)
    have fy0 := o.frozen ((pb + i) * 6)
    have fx1 := o.frozen ((pa + i) * 6 + 1)
    have fy1 := o.frozen ((pb + i) * 6 + 1)
    have fx2 := o.frozen ((pa + i) * 6 + 2)
    have fy2 := o.frozen ((pb + i) * 6 + 2)
    have fx3 := o.frozen ((pa + i) * 6 + 3)
    have fy3 := o.frozen ((pb + i) * 6 + 3)
    have fx4 := o.frozen ((pa + i) * 6 + 4)
    have fy4 := o.frozen ((pb + i) * 6 + 4)
    have fx5 := o.frozen ((pa + i) * 6 + 5)
    have fy5 := o.frozen ((pb + i) * 6 + 5)
    have HO := Lib.hid (And.intro hbt o)
    clear hbt o hx hy
    have hil : (pa : Int) + i < N := by omega
    have hjl : (pb : Int) + i < N := by omega
    have hne : pa + i < pb + i := by omega
    go_wp2
    go_region
    go_wp2
    obtain ⟨hb1, o1⟩ := HO.out
    have o2 := Own.setFR (Own.setFR o1 (k := pa + i) (by rw [HL.out]; omega) y) (k := pb + i) (by rw [List.length_set, HL.out]; omega) x
    have h12 := ((((((((((((hb1.set ((pa + i) * 6) (sV y.x)).set ((pa + i) * 6 + 1) (.int .i64 y.v.k)).set ((pa + i) * 6 + 2) (.int .i64 y.v.n)).set ((pa + i) * 6 + 3) (sV y.v.s)).set ((pa + i) * 6 + 4) (.slice y.v.la y.v.ln y.v.lc)).set ((pa + i) * 6 + 5) (.slice y.v.fa y.v.fn y.v.fc)).set ((pb + i) * 6) (sV x.x)).set ((pb + i) * 6 + 1) (.int .i64 x.v.k)).set ((pb + i) * 6 + 2) (.int .i64 x.v.n)).set ((pb + i) * 6 + 3) (sV x.v.s)).set ((pb + i) * 6 + 4) (.slice x.v.la x.v.ln x.v.lc)).set ((pb + i) * 6 + 5) (.slice x.v.fa x.v.fn x.v.fc)).drew
    go_roundg (n - (i + 1))
    case measure => have := HG.out; omega
    case rel =>
      refine ⟨i + 1, P' ++ [y], X2, M' ++ [x], Y2, (l'.set (pa + i) y).set (pb + i) x, by omega, rfl, by go_num, h12, o2.drew, Lib.hid ?_⟩
      obtain ⟨h1, h2, h3, h4, h5, h6, h7⟩ := HI.out
      refine ⟨by simp; exact h1, ?_⟩
      simp at h2 h3 h4 h5 ⊢
      refine ⟨by omega, by omega, by omega, by omega, ?_, ?_⟩
      · rw [← h6]; simp
      · have := HSW.out; simpa using this
end Go.Proofs.Ytmmembmohkideaa
