/- Plain mathematics: the canonical text is read back; a sign negates. No program in it. -/
import Derived.Test.YtklpnkdfbfdbnaaDoorMd
namespace Go.Proofs.YtklpnkdfbfdbnaaDoor
open Go.Lib (decDigits itoa)

theorem dd_small {u : Nat} (h : u < 10) : decDigits u = [UInt8.ofNat (48 + u)] := by rw [decDigits, dif_pos h]
theorem dd_big {u : Nat} (h : ¬ u < 10) : decDigits u = decDigits (u / 10) ++ [UInt8.ofNat (48 + u % 10)] := by rw [decDigits, dif_neg h]
theorem dig_nat {d : Nat} (h : d < 10) : (UInt8.ofNat (48 + d)).toNat = 48 + d := by
  rw [UInt8.toNat_ofNat']; omega
theorem dd_all (u : Nat) : ∀ c ∈ decDigits u, isDig c = true := by
  induction u using Nat.strongRecOn with
  | ind u ih =>
    intro c hc
    by_cases h : u < 10
    · rw [dd_small h] at hc
      rw [List.mem_singleton.1 hc, isDig_iff, dig_nat h]; omega
    · rw [dd_big h, List.mem_append] at hc
      rcases hc with hc | hc
      · exact ih (u / 10) (by omega) c hc
      · rw [List.mem_singleton.1 hc, isDig_iff, dig_nat (by omega)]; omega
theorem dd_dec (u : Nat) : decN (decDigits u) = u := by
  induction u using Nat.strongRecOn with
  | ind u ih =>
    by_cases h : u < 10
    · rw [dd_small h]
      show decN ([] ++ [UInt8.ofNat (48 + u)]) = u
      rw [decN_snoc, dig_nat h]; show 0 * 10 + _ = _; omega
    · rw [dd_big h, decN_snoc, ih (u / 10) (by omega), dig_nat (by omega)]; omega
theorem dd_len (u : Nat) : ∀ k : Nat, u < 10 ^ (k + 1) → (decDigits u).length ≤ k + 1 := by
  induction u using Nat.strongRecOn with
  | ind u ih =>
    intro k hk
    by_cases h : u < 10
    · rw [dd_small h]; simp
    · rw [dd_big h]
      cases k with
      | zero => omega
      | succ k =>
        have := ih (u / 10) (by omega) k (by rw [Nat.pow_succ] at hk; omega)
        simp; omega
theorem dd_pos (u : Nat) : 1 ≤ (decDigits u).length := by
  by_cases h : u < 10
  · rw [dd_small h]; simp
  · rw [dd_big h]; simp
theorem dd_head (u : Nat) (hu : u ≠ 0) : (decDigits u).head? ≠ some 48 := by
  induction u using Nat.strongRecOn with
  | ind u ih =>
    by_cases h : u < 10
    · rw [dd_small h]
      intro e
      simp only [List.head?_cons, Option.some.injEq] at e
      have := congrArg UInt8.toNat e
      rw [dig_nat h] at this
      have e48 : (48 : UInt8).toNat = 48 := rfl
      omega
    · rw [dd_big h]
      have hp := dd_pos (u / 10)
      have ih' := ih (u / 10) (by omega) (by omega)
      cases hd : decDigits (u / 10) with
      | nil => rw [hd] at hp; simp at hp
      | cons c t => rw [hd] at ih'; simpa using ih'
theorem dd_zero : decDigits 0 = [48] := by rw [dd_small (by decide)]; rfl
theorem dd_whole {u : Nat} (h : u < 10 ^ 15) : wholeOk (decDigits u) = true := by
  have h1 := dd_pos u
  have h2 := dd_len u 14 h
  unfold wholeOk
  by_cases hu : u = 0
  · subst hu; rw [dd_zero]; rfl
  · have h3 := dd_head u hu
    simp [h3]; omega
/-- a suffix that does not begin with a digit -/
theorem dd_split {u : Nat} {s : List UInt8} (hs : s.takeWhile isDig = []) : (decDigits u ++ s).takeWhile isDig = decDigits u ∧ (decDigits u ++ s).dropWhile isDig = s := by
  constructor
  · rw [List.takeWhile_append_of_pos (dd_all u), hs, List.append_nil]
  · rw [List.dropWhile_append_of_pos (dd_all u)]
    cases s with
    | nil => rfl
    | cons c t =>
      have : isDig c = false := by
        cases hc : isDig c with
        | false => rfl
        | true => rw [List.takeWhile_cons_of_pos hc] at hs; cases hs
      exact List.dropWhile_cons_of_neg (by simp [this])
theorem parseU_dd {u : Nat} {s : List UInt8} (h : u < 10 ^ 15) (hs : s.takeWhile isDig = []) : parseU (decDigits u ++ s) = parseRest (decDigits u) s := by
  unfold parseU
  rw [(dd_split hs).1, (dd_split hs).2, if_neg (by rw [dd_whole h]; decide)]
theorem dd_noMinus (u : Nat) (s : List UInt8) : Lib.hasPrefix (decDigits u ++ s) [45] = false := by
  have hp := dd_pos u
  cases h : decDigits u with
  | nil => rw [h] at hp; simp at hp
  | cons c t =>
    have hc := (isDig_iff c).1 (dd_all u c (by rw [h]; exact List.mem_cons_self))
    show List.isPrefixOf [45] (c :: t ++ s) = false
    have hne : ((45 : UInt8) == c) = false := by
      simp only [beq_eq_false_iff_ne, ne_eq]
      intro e
      rw [← e] at hc
      have : (45 : UInt8).toNat = 45 := rfl
      omega
    simp [List.isPrefixOf, hne]
theorem parseQ_minus (l : List UInt8) : parseQ (45 :: l) = (-(parseU l).1, (parseU l).2) := by
  have h1 : Lib.hasPrefix (45 :: l) [45] = true := by simp [Lib.hasPrefix, List.isPrefixOf]
  have h2 : Lib.trimPrefix (45 :: l) [45] = l := by unfold Lib.trimPrefix; rw [h1]; rfl
  unfold parseQ; rw [h1, h2]; rfl
theorem parseQ_plain {l : List UInt8} (h : Lib.hasPrefix l [45] = false) : parseQ l = parseU l := by
  have h2 : Lib.trimPrefix l [45] = l := by unfold Lib.trimPrefix; rw [h]; rfl
  unfold parseQ; rw [h, h2]; rfl
/-- reading a numeral and a suffix -/
theorem parseQ_itoa {v : Int} {s : List UInt8} (h : v.natAbs < 10 ^ 15) (hs : s.takeWhile isDig = []) {r : Int}
    (hr : parseRest (decDigits v.natAbs) s = (r, 0)) : parseQ (itoa v ++ s) = (if v < 0 then -r else r, 0) := by
  unfold itoa
  by_cases hv : v < 0
  · rw [if_pos hv, if_pos hv, List.cons_append, parseQ_minus, parseU_dd h hs, hr]
  · rw [if_neg hv, if_neg hv, show v.toNat = v.natAbs by omega, parseQ_plain (dd_noMinus _ _), parseU_dd h hs, hr]

theorem tdiv_exact {N c : Int} (h : (N.tmod c == 0) = true) : N = N.tdiv c * c := by
  have h0 : N.tmod c = 0 := by simpa using h
  have := Int.mul_tdiv_add_tmod N c
  rw [h0, Int.add_zero, Int.mul_comm] at this
  exact this.symm
theorem rest_nil (wh : List UInt8) (hb : (decN wh : Int) * 1000 ≤ 1000000000000000) : parseRest wh [] = ((decN wh : Int) * 1000, 0) := by
  show scaled (decN wh * 1000) 1 = _
  rw [scaled_ok (by omega), Int.mul_one]
theorem rest_m (wh : List UInt8) (hb : (decN wh : Int) ≤ 1000000000000000) : parseRest wh [109] = ((decN wh : Int), 0) := by
  show scaled (decN wh) 1 = _
  rw [scaled_ok (by omega), Int.mul_one]
theorem rest_k (wh : List UInt8) (hb : (decN wh : Int) * 1000000 ≤ 1000000000000000) : parseRest wh [107] = ((decN wh : Int) * 1000000, 0) := by
  show scaled (decN wh * 1000) 1000 = _
  rw [scaled_ok (by omega), Int.mul_assoc]; rfl
theorem rest_M (wh : List UInt8) (hb : (decN wh : Int) * 1000000000 ≤ 1000000000000000) : parseRest wh [77] = ((decN wh : Int) * 1000000000, 0) := by
  show scaled (decN wh * 1000) 1000000 = _
  rw [scaled_ok (by omega), Int.mul_assoc]; rfl
theorem rest_G (wh : List UInt8) (hb : (decN wh : Int) * 1000000000000 ≤ 1000000000000000) : parseRest wh [71] = ((decN wh : Int) * 1000000000000, 0) := by
  show scaled (decN wh * 1000) 1000000000 = _
  rw [scaled_ok (by omega), Int.mul_assoc]; rfl

/-- THE ROUND TRIP: the canonical text of a quantity is read back. -/
theorem parse_print {N : Int} (h0 : -1000000000000000 ≤ N) (h1 : N ≤ 1000000000000000) : parseQ (printQ N) = (N, 0) := by
  unfold printQ
  by_cases hm : (N.tmod 1000 != 0) = true
  · rw [if_pos hm]
    have hne : N.tmod 1000 ≠ 0 := by simpa using hm
    have hlt : N.natAbs < 10 ^ 15 := by
      have : N ≠ 1000000000000000 := fun e => hne (by rw [e]; rfl)
      have : N ≠ -1000000000000000 := fun e => hne (by rw [e]; rfl)
      omega
    rw [parseQ_itoa hlt rfl (rest_m _ (by rw [dd_dec]; omega)), dd_dec]
    refine Prod.ext ?_ rfl
    show (if N < 0 then -(N.natAbs : Int) else (N.natAbs : Int)) = N
    split <;> omega
  rw [if_neg hm]
  have e0 := tdiv_exact (N := N) (c := 1000) (by simpa using hm)
  generalize N.tdiv 1000 = q at e0
  subst e0
  unfold printU
  by_cases hq : (q == 0) = true
  · rw [if_pos hq]
    have : q = 0 := by simpa using hq
    subst this; rfl
  rw [if_neg hq]
  by_cases h2 : (q.tmod 1000000000 == 0) = true
  · rw [if_pos h2]
    have e1 := tdiv_exact (c := 1000000000) h2
    generalize q.tdiv 1000000000 = v at e1
    subst e1
    rw [parseQ_itoa (by omega) rfl (rest_G _ (by rw [dd_dec]; omega)), dd_dec]
    refine Prod.ext ?_ rfl
    show (if v < 0 then -((v.natAbs : Int) * 1000000000000) else (v.natAbs : Int) * 1000000000000) = v * 1000000000 * 1000
    split <;> omega
  rw [if_neg h2]
  by_cases h3 : (q.tmod 1000000 == 0) = true
  · rw [if_pos h3]
    have e1 := tdiv_exact (c := 1000000) h3
    generalize q.tdiv 1000000 = v at e1
    subst e1
    rw [parseQ_itoa (by omega) rfl (rest_M _ (by rw [dd_dec]; omega)), dd_dec]
    refine Prod.ext ?_ rfl
    show (if v < 0 then -((v.natAbs : Int) * 1000000000) else (v.natAbs : Int) * 1000000000) = v * 1000000 * 1000
    split <;> omega
  rw [if_neg h3]
  by_cases h4 : (q.tmod 1000 == 0) = true
  · rw [if_pos h4]
    have e1 := tdiv_exact (c := 1000) h4
    generalize q.tdiv 1000 = v at e1
    subst e1
    rw [parseQ_itoa (by omega) rfl (rest_k _ (by rw [dd_dec]; omega)), dd_dec]
    refine Prod.ext ?_ rfl
    show (if v < 0 then -((v.natAbs : Int) * 1000000) else (v.natAbs : Int) * 1000000) = v * 1000 * 1000
    split <;> omega
  rw [if_neg h4]
  have := parseQ_itoa (v := q) (s := []) (by omega) rfl (rest_nil _ (by rw [dd_dec]; omega))
  rw [List.append_nil, dd_dec] at this
  rw [this]
  refine Prod.ext ?_ rfl
  show (if q < 0 then -((q.natAbs : Int) * 1000) else (q.natAbs : Int) * 1000) = q * 1000
  split <;> omega

/-! ### the range of what is read -/
theorem scaled_range {n F : Int} (hn : 0 ≤ n) (hF : 0 < F) : 0 ≤ (scaled n F).1 ∧ (scaled n F).1 ≤ 1000000000000000 := by
  by_cases h : 1000000000000000 / F < n
  · rw [scaled_big h]; decide
  · rw [scaled_ok (by omega)]
    exact ⟨Int.mul_nonneg hn (by omega), Int.le_trans (Int.mul_le_mul_of_nonneg_right (by omega) (by omega)) (Int.ediv_mul_le _ (by omega))⟩
theorem zero_range (e : Int) : 0 ≤ ((0, e) : Int × Int).1 ∧ ((0, e) : Int × Int).1 ≤ 1000000000000000 := ⟨Int.le_refl _, (by decide : (0 : Int) ≤ 1000000000000000)⟩
theorem parseU_range (t : List UInt8) : 0 ≤ (parseU t).1 ∧ (parseU t).1 ≤ 1000000000000000 := by
  unfold parseU
  split
  · exact zero_range 2
  unfold parseRest
  split
  · show 0 ≤ (if _ then ((0, 2) : Int × Int) else scaled _ _).1 ∧ (if _ then ((0, 2) : Int × Int) else scaled _ _).1 ≤ _
    split
    · exact zero_range 2
    · rename_i h
      have := facOf_nonneg (List.dropWhile isDig (Lib.trimPrefix (List.dropWhile isDig t) [46]))
      exact scaled_range (by omega) (by simp only [not_or] at h; omega)
  · split
    · exact zero_range 2
    · split
      · exact scaled_range (by omega) (by decide)
      · have := facOf_nonneg (List.dropWhile isDig t)
        exact scaled_range (by omega) (by omega)
theorem parseQ_range (l : List UInt8) : -1000000000000000 ≤ (parseQ l).1 ∧ (parseQ l).1 ≤ 1000000000000000 := by
  have := parseU_range (Lib.trimPrefix l [45])
  show -1000000000000000 ≤ signed _ _ ∧ signed _ _ ≤ 1000000000000000
  cases Lib.hasPrefix l [45]
  · rw [signed_f]; omega
  · rw [signed_t]; omega
/-- beside an error the number is 0 -/
theorem scaled_err {n F : Int} (h : (scaled n F).2 ≠ 0) : (scaled n F).1 = 0 := by
  by_cases hb : 1000000000000000 / F < n
  · rw [scaled_big hb]
  · rw [scaled_ok (by omega)] at h; exact absurd rfl h
theorem parseU_err (t : List UInt8) (h : (parseU t).2 ≠ 0) : (parseU t).1 = 0 := by
  revert h
  unfold parseU
  split
  · intro _; rfl
  unfold parseRest
  split
  · show (if _ then ((0, 2) : Int × Int) else scaled _ _).2 ≠ 0 → (if _ then ((0, 2) : Int × Int) else scaled _ _).1 = 0
    split
    · intro _; rfl
    · exact scaled_err
  · split
    · intro _; rfl
    · split
      · exact scaled_err
      · exact scaled_err
theorem parseQ_err (l : List UInt8) (h : (parseQ l).2 ≠ 0) : (parseQ l).1 = 0 := by
  have := parseU_err (Lib.trimPrefix l [45]) h
  show signed _ _ = 0
  rw [this, signed_0]
/-- one canonical text a value -/
theorem print_inj {a b : Int} (ha0 : -1000000000000000 ≤ a) (ha1 : a ≤ 1000000000000000) (hb0 : -1000000000000000 ≤ b) (hb1 : b ≤ 1000000000000000) : printQ a = printQ b ↔ a = b := by
  refine ⟨fun h => ?_, fun h => by rw [h]⟩
  have h1 := parse_print ha0 ha1
  rw [h, parse_print hb0 hb1] at h1
  exact (Prod.mk.inj h1).1.symm
end Go.Proofs.YtklpnkdfbfdbnaaDoor
