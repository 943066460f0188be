/- The contract of the rotation of a row of fields. -/
import Derived.Test.YtmmembmohkideaaSa
namespace Go.Proofs.Ytmmembmohkideaa
open Go.RowKit Go.Sort Go.Proofs.LawFrame

theorem take_len {α : Type} {l : List α} {k : Nat} (h : k ≤ l.length) : (l.take k).length = k := by simp [h]

set_option maxHeartbeats 4000000 in
theorem rotate_any (b cap pa pm pb N : Nat) (rest : List Value) (P A B S L L' : List FC) (w : World) (ho : Own w b (L.flatMap FC.cells ++ rest) 35) (hL : L = P ++ (A ++ (B ++ S))) (hL' : L' = P ++ (B ++ (A ++ S)))
    (hN : L.length = N) (hn : N ≤ 1000) (hpa : P.length = pa) (hpm : P.length + A.length = pm) (hpb : P.length + A.length + B.length = pb) (hA : 0 < A.length) (hB : 0 < B.length) (hcap : N ≤ cap) (hcm : cap ≤ maxLen) :
    Calls Try.prog 72 #[.slice (some ⟨b, 0, none⟩) N cap, .int .i64 (pa : Int), .int .i64 (pm : Int), .int .i64 (pb : Int), .func (.func 50) #[] #[]] w fun en w' => en = .returned (.tuple #[]) ∧ But b w w' ∧ Own w' b (L'.flatMap FC.cells ++ rest) 35 := by
  have hcm' := hcm
  unfold maxLen at hcm
  have hle : pa < pm ∧ pm < pb ∧ pb ≤ N := by rw [hL] at hN; simp at hN; omega
  have HN := Lib.hid (And.intro hN (And.intro hpa (And.intro hpm (And.intro hpb (And.intro hL (And.intro hL' hcm'))))))
  clear hN hL hL' hpa hpm hpb hA hB hcm'
  obtain ⟨hle1, hle2, hle3⟩ := hle
  go_enter Try.func72, Try.ntmps72
  go_wp2
  have R0 := Lib.hid ho
  clear ho
  go_loopg [10, 11] (pb - pa) (fun g s s' wr => ∃ (i j : Nat) (P' X Y S' l' : List FC), 0 < i ∧ 0 < j ∧ i ≤ pm ∧ pm + j ≤ N ∧ g = i + j ∧ s = .int .i64 (i : Int) ∧ s' = .int .i64 (j : Int) ∧ But b w wr ∧ Own wr b (l'.flatMap FC.cells ++ rest) 35 ∧
    Hid (l'.length = N ∧ X.length = i ∧ Y.length = j ∧ P'.length + i = pm ∧ P' ++ (Y ++ (X ++ S')) = L' ∧ l' = P' ++ (X ++ (Y ++ S'))))
  case atStart =>
    obtain ⟨h1, h2, h3, h4, h5, h6, -⟩ := HN.out
    exact ⟨pm - pa, pb - pm, P, A, B, S, L, by omega, by omega, by omega, by omega, by omega, by go_num, by go_num, But.refl _ _, R0.out, Lib.hid ⟨h1, by omega, by omega, by omega, h6.symm, h5⟩⟩
  case round =>
    obtain ⟨i, j, P', X, Y, S', l', hi, hj, him, hjm, hg, rfl, rfl, hbt, o, HI⟩ := hrel
    have HG := Lib.hid hg
    clear hg R0
    obtain ⟨q1, q2, q3, q4, q5, q6⟩ := HI.out
    by_cases hij : i = j
    · subst hij
      have C := Lib.hid (swapRange_any b cap (pm - i) pm i N rest P' X [] Y S' l' L' wr o (by simpa using q6) (by rw [← q5]; simp) q1 hn q2 q3 (by omega) (by simp; omega) hcap HN.out.2.2.2.2.2.2)
      rw [show ((pm - i : Nat) : Int) = (pm : Int) - i by omega] at C
      have hb0 := Lib.hid hbt
      clear q1 q2 q3 q4 q5 q6 hbt o HI HN HG
      go_wp2_with fail
      refine C.out.mono ?_
      rintro e w2 ⟨rfl, h1, h2⟩
      have HH := Lib.hid (And.intro h1 h2)
      clear h1 h2 C
      go_wp2
      go_end0
      exact ⟨rfl, hb0.out.trans HH.out.1, HH.out.2⟩
    · by_cases hgt : j < i
      · obtain ⟨l2, hl2⟩ : ∃ l2, l2 = P' ++ (Y ++ (X.drop j ++ (X.take j ++ S'))) := ⟨_, rfl⟩
        have C := Lib.hid (swapRange_any b cap (pm - i) pm j N rest P' (X.take j) (X.drop j) Y S' l' l2 wr o (by rw [q6, ← List.append_assoc (X.take j), List.take_append_drop]) hl2 q1 hn (take_len (by omega)) q3 (by omega) (by simp; omega) hcap HN.out.2.2.2.2.2.2)
        have HL2 := Lib.hid hl2
        clear hl2
        rw [show ((pm - i : Nat) : Int) = (pm : Int) - i by omega] at C
        have hb0 := Lib.hid hbt
        clear q1 q2 q3 q4 q5 q6 hbt o
        go_wp2_with fail
        refine C.out.mono ?_
        rintro e w2 ⟨rfl, h1, h2⟩
        have HH := Lib.hid (And.intro h1 h2)
        clear h1 h2 C
        go_wp2
        go_roundg (i - j + j)
        case measure => have := HG.out; omega
        case rel =>
          obtain ⟨q1, q2, q3, q4, q5, q6⟩ := HI.out
          refine ⟨i - j, j, P' ++ Y, X.drop j, X.take j, S', l2, by omega, hj, by omega, hjm, rfl, by go_num, by go_num, hb0.out.trans HH.out.1, HH.out.2, Lib.hid ⟨?_, by simp; omega, take_len (by omega), by simp; omega, ?_, by rw [HL2.out]; simp⟩⟩
          · rw [q6] at q1; rw [HL2.out]; simp at q1 ⊢; omega
          · rw [← q5, List.append_assoc, ← List.append_assoc (X.take j), List.take_append_drop]
      · have hlt : i < j := by omega
        obtain ⟨l2, hl2⟩ : ∃ l2, l2 = P' ++ (Y.drop (j - i) ++ (Y.take (j - i) ++ (X ++ S'))) := ⟨_, rfl⟩
        have C := Lib.hid (swapRange_any b cap (pm - i) (pm + j - i) i N rest P' X (Y.take (j - i)) (Y.drop (j - i)) S' l' l2 wr o (by rw [q6, ← List.append_assoc (Y.take (j - i)), List.take_append_drop]) hl2 q1 hn q2 (by simp; omega) (by omega) (by simp; omega) hcap HN.out.2.2.2.2.2.2)
        have HL2 := Lib.hid hl2
        clear hl2
        rw [show ((pm - i : Nat) : Int) = (pm : Int) - i by omega, show ((pm + j - i : Nat) : Int) = (pm : Int) + j - i by omega] at C
        have hb0 := Lib.hid hbt
        clear q1 q2 q3 q4 q5 q6 hbt o
        go_wp2_with fail
        refine C.out.mono ?_
        rintro e w2 ⟨rfl, h1, h2⟩
        have HH := Lib.hid (And.intro h1 h2)
        clear h1 h2 C
        go_wp2
        go_roundg (i + (j - i))
        case measure => have := HG.out; omega
        case rel =>
          obtain ⟨q1, q2, q3, q4, q5, q6⟩ := HI.out
          refine ⟨i, j - i, P', Y.drop (j - i), Y.take (j - i), X ++ S', l2, hi, by omega, him, by omega, rfl, by go_num, by go_num, hb0.out.trans HH.out.1, HH.out.2, Lib.hid ⟨?_, by simp; omega, take_len (by omega), q4, ?_, HL2.out⟩⟩
          · rw [q6] at q1; rw [HL2.out]; simp at q1 ⊢; omega
          · rw [← q5, ← List.append_assoc (Y.take (j - i)), List.take_append_drop]
end Go.Proofs.Ytmmembmohkideaa
