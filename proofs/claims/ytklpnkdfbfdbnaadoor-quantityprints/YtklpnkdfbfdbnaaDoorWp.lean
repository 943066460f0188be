/- The reference's Print; the walk of the law on Print. -/
import Derived.Test.YtklpnkdfbfdbnaaDoorWo
namespace Go.Proofs.YtklpnkdfbfdbnaaDoor
open Go.RowKit

theorem rtext_int (n : Int) (h0 : 0 ≤ n) (h1 : n ≤ 1000000000000000) (w : World) :
    Calls Tryd.prog 28 #[.int .i64 n] w fun e w' => e = .returned (.string ⟨(Lib.itoa n).toArray⟩) ∧ Below w.heap.size w w' := by
  obtain ⟨u, rfl⟩ := Int.eq_ofNat_of_zero_le h0
  rw [Lib.itoa_nonneg]
  exact rtext_any u w (by omega)

/-- the canonical text of a number that is not negative, by Lean's own division -/
theorem printU_pos {q : Int} (h : 0 ≤ q) : printU q = if (q == 0) = true then [48]
  else if (q % 1000000000 == 0) = true then Lib.itoa (q / 1000000000) ++ [71]
  else if (q % 1000000 == 0) = true then Lib.itoa (q / 1000000) ++ [77]
  else if (q % 1000 == 0) = true then Lib.itoa (q / 1000) ++ [107]
  else Lib.itoa q := by
  unfold printU
  simp only [Int.tmod_eq_emod_of_nonneg h, Int.tdiv_eq_ediv_of_nonneg h]
theorem printQ_pos {n : Int} (h : 0 ≤ n) : printQ n = if (n % 1000 != 0) = true then Lib.itoa n ++ [109] else printU (n / 1000) := by
  unfold printQ
  simp only [Int.tmod_eq_emod_of_nonneg h, Int.tdiv_eq_ediv_of_nonneg h]
theorem itoa_neg {v : Int} (h : 0 < v) : Lib.itoa (-v) = 45 :: Lib.itoa v := by
  unfold Lib.itoa
  rw [if_pos (by omega), if_neg (by omega), show (-v).natAbs = v.toNat by omega]
theorem beq_neg (a b : Int) (h : a = -b) : (a == 0) = (b == 0) := by
  rw [Bool.eq_iff_iff]; simp only [beq_iff_eq]; omega
theorem tdiv_pos_of {q c : Int} (hq : 0 < q) (hc : 0 < c) (h : (q.tmod c == 0) = true) : 0 < q.tdiv c := by
  have e := tdiv_exact h
  rcases Int.lt_or_le 0 (q.tdiv c) with h1 | h1
  · exact h1
  · have : q.tdiv c * c ≤ 0 := Int.mul_nonpos_of_nonpos_of_nonneg h1 (by omega)
    omega
theorem printU_neg {q : Int} (h : 0 < q) : printU (-q) = 45 :: printU q := by
  unfold printU
  have e0 : (-q == 0) = (q == 0) := beq_neg _ _ rfl
  have n0 : (q == 0) = false := by simp only [beq_eq_false_iff_ne]; omega
  rw [e0, n0]
  simp only [Bool.false_eq_true, if_false]
  rw [beq_neg _ _ (Int.neg_tmod q 1000000000), beq_neg _ _ (Int.neg_tmod q 1000000), beq_neg _ _ (Int.neg_tmod q 1000), Int.neg_tdiv, Int.neg_tdiv, Int.neg_tdiv]
  by_cases h2 : (q.tmod 1000000000 == 0) = true
  · rw [if_pos h2, if_pos h2, itoa_neg (tdiv_pos_of h (by decide) h2)]; rfl
  rw [if_neg h2, if_neg h2]
  by_cases h3 : (q.tmod 1000000 == 0) = true
  · rw [if_pos h3, if_pos h3, itoa_neg (tdiv_pos_of h (by decide) h3)]; rfl
  rw [if_neg h3, if_neg h3]
  by_cases h4 : (q.tmod 1000 == 0) = true
  · rw [if_pos h4, if_pos h4, itoa_neg (tdiv_pos_of h (by decide) h4)]; rfl
  rw [if_neg h4, if_neg h4, itoa_neg h]
theorem printQ_neg {N : Int} (h : 0 < N) : printQ (-N) = 45 :: printQ N := by
  unfold printQ
  have e : ((-N).tmod 1000 != 0) = (N.tmod 1000 != 0) := by
    unfold bne; rw [beq_neg _ _ (Int.neg_tmod N 1000)]
  rw [e, Int.neg_tdiv]
  by_cases hm : (N.tmod 1000 != 0) = true
  · rw [if_pos hm, if_pos hm, itoa_neg h]; rfl
  · rw [if_neg hm, if_neg hm, printU_neg (tdiv_pos_of h (by decide) (by simpa using hm))]

set_option maxHeartbeats 1000000 in
/-- a quantity that is not negative -/
theorem rprint_pos (n0 n : Int) (w : World) (hN : min (max n0 (-1000000000000000)) 1000000000000000 = n) (h0 : 0 ≤ n) (h1 : n ≤ 1000000000000000) :
    Calls Tryd.prog 14 #[.int .i64 n0] w fun e w' => e = .returned (.string ⟨(printQ n).toArray⟩) ∧ Below w.heap.size w w' := by
  rw [printQ_pos h0]
  by_cases hm : (n % 1000 != 0) = true
  · rw [if_pos hm]
    have hlen := Lib.itoa_length_le n (by omega) (by omega)
    go_enter Tryd.func14, Tryd.ntmps14
    go_wp2_with (go_at_call 28; refine (rtext_int _ h0 h1 _).mono ?_; rintro e w' ⟨rfl, hb⟩)
    go_ret
    exact ⟨ret_app, hb⟩
  rw [if_neg hm]
  have hm' : (n % 1000 != 0) = false := by simpa using hm
  clear hm
  have q0 : 0 ≤ n / 1000 := by omega
  have q1 : n / 1000 ≤ 1000000000000000 := by omega
  rw [printU_pos q0]
  generalize hq : n / 1000 = q at *
  have hlen0 := Lib.itoa_length_le (q / 1000000000) (by omega) (by omega)
  have hlen1 := Lib.itoa_length_le (q / 1000000) (by omega) (by omega)
  have hlen2 := Lib.itoa_length_le (q / 1000) (by omega) (by omega)
  by_cases g1 : (q == 0) = true
  · rw [if_pos g1]
    go_enter Tryd.func14, Tryd.ntmps14
    go_wp2_with fail
    go_ret
    exact ⟨rfl, Below.refl _ _⟩
  rw [if_neg g1]
  have g1' : (q == 0) = false := by simpa using g1
  clear g1
  by_cases g2 : (q % 1000000000 == 0) = true
  · rw [if_pos g2]
    go_enter Tryd.func14, Tryd.ntmps14
    go_wp2_with (go_at_call 28; refine (rtext_int _ (by omega) (by omega) _).mono ?_; rintro e w' ⟨rfl, hb⟩)
    go_ret
    exact ⟨ret_app, hb⟩
  rw [if_neg g2]
  have g2' : (q % 1000000000 == 0) = false := by simpa using g2
  clear g2
  by_cases g3 : (q % 1000000 == 0) = true
  · rw [if_pos g3]
    go_enter Tryd.func14, Tryd.ntmps14
    go_wp2_with (go_at_call 28; refine (rtext_int _ (by omega) (by omega) _).mono ?_; rintro e w' ⟨rfl, hb⟩)
    go_ret
    exact ⟨ret_app, hb⟩
  rw [if_neg g3]
  have g3' : (q % 1000000 == 0) = false := by simpa using g3
  clear g3
  by_cases g4 : (q % 1000 == 0) = true
  · rw [if_pos g4]
    go_enter Tryd.func14, Tryd.ntmps14
    go_wp2_with (go_at_call 28; refine (rtext_int _ (by omega) (by omega) _).mono ?_; rintro e w' ⟨rfl, hb⟩)
    go_ret
    exact ⟨ret_app, hb⟩
  rw [if_neg g4]
  have g4' : (q % 1000 == 0) = false := by simpa using g4
  clear g4
  go_enter Tryd.func14, Tryd.ntmps14
  go_wp2_with (go_at_call 28; refine (rtext_int _ q0 q1 _).mono ?_; rintro e w' ⟨rfl, hb⟩)
  go_ret
  exact ⟨rfl, hb⟩

set_option maxHeartbeats 1000000 in
theorem rprint_neg (n0 n : Int) (w : World) (hN : min (max n0 (-1000000000000000)) 1000000000000000 = n) (h0 : n < 0) (h1 : -1000000000000000 ≤ n) (A : List UInt8) (hlen : A.length ≤ 100)
    (CP : Hid (∀ w, Calls Tryd.prog 14 #[.int .i64 (-n)] w fun e w' => e = .returned (.string ⟨A.toArray⟩) ∧ Below w.heap.size w w')) :
    Calls Tryd.prog 14 #[.int .i64 n0] w fun e w' => e = .returned (.string ⟨(45 :: A).toArray⟩) ∧ Below w.heap.size w w' := by
  go_enter Tryd.func14, Tryd.ntmps14
  go_wp2_with (go_at_call 14; refine (CP.out _).mono ?_; rintro e w' ⟨rfl, hb⟩)
  go_ret
  exact ⟨ret_app (l := [45]), hb⟩
theorem printQ_len' {N : Int} (h0 : -1000000000000000 ≤ N) (h1 : N ≤ 1000000000000000) : (printQ N).length ≤ 100 := by
  have itl : ∀ v : Int, -1000000000000000 ≤ v → v ≤ 1000000000000000 → (Lib.itoa v).length ≤ 21 := fun v a b => Lib.itoa_length_le v (by omega) (by omega)
  obtain ⟨q0, q1⟩ := tdiv_bd (c := 1000) (by decide) h0 h1
  obtain ⟨a0, a1⟩ := tdiv_bd (c := 1000000000) (by decide) q0 q1
  obtain ⟨b0, b1⟩ := tdiv_bd (c := 1000000) (by decide) q0 q1
  obtain ⟨c0, c1⟩ := tdiv_bd (c := 1000) (by decide) q0 q1
  have := itl N h0 h1
  have := itl _ q0 q1
  have := itl _ a0 a1
  have := itl _ b0 b1
  have := itl _ c0 c1
  unfold printQ printU
  repeat' split
  all_goals first | omega | (simp only [List.length_append, List.length_cons, List.length_nil]; omega)
/-- the reference's Print, for every int -/
theorem rprint_any (n : Int) (w : World) :
    Calls Tryd.prog 14 #[.int .i64 n] w fun e w' => e = .returned (.string ⟨(printQ (clampI n (-1000000000000000) 1000000000000000)).toArray⟩) ∧ Below w.heap.size w w' := by
  have e : min (max n (-1000000000000000)) 1000000000000000 = clampI n (-1000000000000000) 1000000000000000 := by unfold clampI; omega
  have hN0 : -1000000000000000 ≤ clampI n (-1000000000000000) 1000000000000000 := clampI_lo
  have hN1 : clampI n (-1000000000000000) 1000000000000000 ≤ 1000000000000000 := clampI_hi (by decide)
  generalize clampI n (-1000000000000000) 1000000000000000 = N at *
  by_cases hp : 0 ≤ N
  · exact rprint_pos n N w e hp hN1
  · have h := rprint_neg n N w e (by omega) hN0 (printQ (-N)) (printQ_len' (by omega) (by omega)) (Lib.hid fun w => rprint_pos (-N) (-N) w (by omega) (by omega) (by omega))
    rw [← printQ_neg (by omega), Int.neg_neg] at h
    exact h

set_option maxHeartbeats 1000000 in
theorem prints_same (n : Int) (w : World) (ht : Tab w) (A : List UInt8)
    (C1 : Hid (∀ w, Tab w → Calls Tryd.prog 13 #[.int .i64 n] w fun e w' => e = .returned (.string ⟨A.toArray⟩) ∧ Below w.heap.size w w'))
    (C2 : Hid (∀ w, Calls Tryd.prog 14 #[.int .i64 n] w fun e w' => e = .returned (.string ⟨A.toArray⟩) ∧ Below w.heap.size w w')) :
    Calls Tryd.prog 4 #[.int .i64 n] w fun e w' => e = .returned (.bool true) ∧ Below w.heap.size w w' := by
  go_enter Tryd.func4, Tryd.ntmps4
  go_wp2_with fail
  refine (C1.out _ ht).mono ?_
  rintro e w1 ⟨rfl, b1⟩
  go_wp2_with fail
  refine (C2.out _).mono ?_
  rintro e w2 ⟨rfl, b2⟩
  go_wp2_with fail
  refine (awake_any _ ((ht.below b1).below b2)).mono ?_
  rintro e w3 ⟨rfl, b3⟩
  go_wp2_with fail
  go_ret
  exact ⟨rfl, next (next b1 b2) b3⟩
theorem prints_walk (n : Int) (w : World) (ht : Tab w) : Calls Tryd.prog 4 #[.int .i64 n] w fun e w' => e = .returned (.bool true) ∧ Below w.heap.size w w' :=
  prints_same n w ht _ (Lib.hid fun w ht => print_any n w ht) (Lib.hid fun w => rprint_any n w)
end Go.Proofs.YtklpnkdfbfdbnaaDoor
