/- The contract of Parse. -/
import Derived.Test.YtklpnkdfbfdbnaaDoorWc
namespace Go.Proofs.YtklpnkdfbfdbnaaDoor
open Go.RowKit

theorem drew_one {w : World} (n : Nat) : ∃ m, w.drewN n = w.drewN m := ⟨n, rfl⟩

set_option maxHeartbeats 1000000 in
/-- the integer part is no good -/
theorem parse_bad (l t wh rest : List UInt8) (neg : Bool) (w : World) (hl : t.length ≤ 9223372036854775807) (hwl : wh.length ≤ 9223372036854775807)
    (ht : Lib.trimPrefix l [45] = t) (hn : Lib.hasPrefix l [45] = neg) (hwh : t.takeWhile isDig = wh) (hr : t.dropWhile isDig = rest) (hok : wholeOk wh = false) :
    Calls Tryd.prog 11 #[.string ⟨l.toArray⟩] w fun e w' => e = .returned (.tuple #[.int .i64 0, .int .i64 2]) ∧ ∃ n, w' = w.drewN n := by
  go_enter Tryd.func11, Tryd.ntmps11
  go_wp2_with (first
    | (go_at_call 18; refine (cutPrefix_any _ _ _).mono ?_; rintro e w' ⟨rfl, rfl⟩)
    | (go_at_call 19; refine (cutDigits_any _ _ hl).mono ?_; rintro e w' ⟨rfl, n, rfl⟩)
    | (go_at_call 20; refine (validWhole_any _ _ hwl).mono ?_; rintro e w' ⟨rfl, rfl⟩))
  go_ret2
  exact ⟨rfl, drew_one _⟩

set_option maxHeartbeats 1000000 in
theorem parse_frac (l t wh rest : List UInt8) (neg : Bool) (w : World) (hl : t.length ≤ 9223372036854775807) (hwl : wh.length ≤ 9223372036854775807)
    (ht : Lib.trimPrefix l [45] = t) (hn : Lib.hasPrefix l [45] = neg) (hwh : t.takeWhile isDig = wh) (hr : t.dropWhile isDig = rest) (hok : wholeOk wh = true)
    (tail fr sf : List UInt8) (hl2 : tail.length ≤ 9223372036854775807) (hl3 : fr.length ≤ 9223372036854775807)
    (htl : Lib.trimPrefix rest [46] = tail) (hdot : Lib.hasPrefix rest [46] = true) (hfr : tail.takeWhile isDig = fr) (hsf : tail.dropWhile isDig = sf) (hfo : fracOk fr = false) :
    Calls Tryd.prog 11 #[.string ⟨l.toArray⟩] w fun e w' => e = .returned (.tuple #[.int .i64 0, .int .i64 2]) ∧ ∃ n, w' = w.drewN n := by
  go_enter Tryd.func11, Tryd.ntmps11
  go_wp2_with (first
    | (go_at_call 18; refine (cutPrefix_any _ _ _).mono ?_; rintro e w' ⟨rfl, rfl⟩)
    | (go_at_call 19; refine (cutDigits_any _ _ (by assumption)).mono ?_; rintro e w' ⟨rfl, n, rfl⟩)
    | (go_at_call 20; refine (validWhole_any _ _ (by assumption)).mono ?_; rintro e w' ⟨rfl, rfl⟩)
    | (go_at_call 21; refine (validFraction_any _ _ (by assumption)).mono ?_; rintro e w' ⟨rfl, rfl⟩))
  go_ret2
  exact ⟨rfl, drew_one _⟩

set_option maxHeartbeats 1000000 in
theorem parse_fm (l t wh rest : List UInt8) (neg : Bool) (w : World) (hl : t.length ≤ 9223372036854775807) (hwl : wh.length ≤ 9223372036854775807)
    (ht : Lib.trimPrefix l [45] = t) (hn : Lib.hasPrefix l [45] = neg) (hwh : t.takeWhile isDig = wh) (hr : t.dropWhile isDig = rest) (hok : wholeOk wh = true)
    (tail fr sf : List UInt8) (hl2 : tail.length ≤ 9223372036854775807) (hl3 : fr.length ≤ 9223372036854775807)
    (htl : Lib.trimPrefix rest [46] = tail) (hdot : Lib.hasPrefix rest [46] = true) (hfr : tail.takeWhile isDig = fr) (hsf : tail.dropWhile isDig = sf) (hfo : fracOk fr = true) (hm : (sf == [109]) = true) :
    Calls Tryd.prog 11 #[.string ⟨l.toArray⟩] w fun e w' => e = .returned (.tuple #[.int .i64 0, .int .i64 2]) ∧ ∃ n, w' = w.drewN n := by
  go_enter Tryd.func11, Tryd.ntmps11
  go_wp2_with (first
    | (go_at_call 18; refine (cutPrefix_any _ _ _).mono ?_; rintro e w' ⟨rfl, rfl⟩)
    | (go_at_call 19; refine (cutDigits_any _ _ (by assumption)).mono ?_; rintro e w' ⟨rfl, n, rfl⟩)
    | (go_at_call 20; refine (validWhole_any _ _ (by assumption)).mono ?_; rintro e w' ⟨rfl, rfl⟩)
    | (go_at_call 21; refine (validFraction_any _ _ (by assumption)).mono ?_; rintro e w' ⟨rfl, rfl⟩))
  go_ret2
  exact ⟨rfl, drew_one _⟩

set_option maxHeartbeats 1000000 in
theorem parse_dfac (l t wh rest : List UInt8) (neg : Bool) (w : World) (hl : t.length ≤ 9223372036854775807) (hwl : wh.length ≤ 9223372036854775807)
    (ht : Lib.trimPrefix l [45] = t) (hn : Lib.hasPrefix l [45] = neg) (hwh : t.takeWhile isDig = wh) (hr : t.dropWhile isDig = rest) (hok : wholeOk wh = true)
    (tail fr sf : List UInt8) (hl2 : tail.length ≤ 9223372036854775807) (hl3 : fr.length ≤ 9223372036854775807)
    (htl : Lib.trimPrefix rest [46] = tail) (hdot : Lib.hasPrefix rest [46] = true) (hfr : tail.takeWhile isDig = fr) (hsf : tail.dropWhile isDig = sf) (hfo : fracOk fr = true) (hm : (sf == [109]) = false) (hf : facOf sf = 0) :
    Calls Tryd.prog 11 #[.string ⟨l.toArray⟩] w fun e w' => e = .returned (.tuple #[.int .i64 0, .int .i64 2]) ∧ ∃ n, w' = w.drewN n := by
  go_enter Tryd.func11, Tryd.ntmps11
  go_wp2_with (first
    | (go_at_call 18; refine (cutPrefix_any _ _ _).mono ?_; rintro e w' ⟨rfl, rfl⟩)
    | (go_at_call 19; refine (cutDigits_any _ _ (by assumption)).mono ?_; rintro e w' ⟨rfl, n, rfl⟩)
    | (go_at_call 20; refine (validWhole_any _ _ (by assumption)).mono ?_; rintro e w' ⟨rfl, rfl⟩)
    | (go_at_call 21; refine (validFraction_any _ _ (by assumption)).mono ?_; rintro e w' ⟨rfl, rfl⟩)
    | (go_at_call 22; refine (suffixFactor_any _ _).mono ?_; rintro e w' ⟨rfl, rfl⟩))
  go_ret2
  exact ⟨rfl, drew_one _⟩

set_option maxHeartbeats 1000000 in
theorem parse_fac (l t wh rest : List UInt8) (neg : Bool) (w : World) (hl : t.length ≤ 9223372036854775807) (hwl : wh.length ≤ 9223372036854775807)
    (ht : Lib.trimPrefix l [45] = t) (hn : Lib.hasPrefix l [45] = neg) (hwh : t.takeWhile isDig = wh) (hr : t.dropWhile isDig = rest) (hok : wholeOk wh = true)
    (tail : List UInt8) (htl : Lib.trimPrefix rest [46] = tail) (hdot : Lib.hasPrefix rest [46] = false) (hf : facOf rest = 0) :
    Calls Tryd.prog 11 #[.string ⟨l.toArray⟩] w fun e w' => e = .returned (.tuple #[.int .i64 0, .int .i64 2]) ∧ ∃ n, w' = w.drewN n := by
  go_enter Tryd.func11, Tryd.ntmps11
  go_wp2_with (first
    | (go_at_call 18; refine (cutPrefix_any _ _ _).mono ?_; rintro e w' ⟨rfl, rfl⟩)
    | (go_at_call 19; refine (cutDigits_any _ _ (by assumption)).mono ?_; rintro e w' ⟨rfl, n, rfl⟩)
    | (go_at_call 20; refine (validWhole_any _ _ (by assumption)).mono ?_; rintro e w' ⟨rfl, rfl⟩)
    | (go_at_call 22; refine (suffixFactor_any _ _).mono ?_; rintro e w' ⟨rfl, rfl⟩))
  go_ret2
  exact ⟨rfl, drew_one _⟩

theorem scale_bd {n F : Int} (hF : 0 < F) (hn : 0 ≤ n) (h : n ≤ 1000000000000000 / F) : 0 ≤ n * F ∧ n * F ≤ 1000000000000000 :=
  ⟨Int.mul_nonneg hn (by omega), Int.le_trans (Int.mul_le_mul_of_nonneg_right (by omega) (by omega)) (Int.ediv_mul_le _ (by omega))⟩
theorem scale_neg {n F : Int} (h0 : 0 ≤ n * F) (h1 : n * F ≤ 1000000000000000) : -1000000000000000 ≤ -n * F ∧ -n * F ≤ 0 := by
  rw [Int.neg_mul]; omega

set_option maxHeartbeats 1000000 in
theorem parse_dot (l t wh rest : List UInt8) (neg : Bool) (w : World) (hl : t.length ≤ 9223372036854775807) (hwl : wh.length ≤ 9223372036854775807)
    (ht : Lib.trimPrefix l [45] = t) (hn : Lib.hasPrefix l [45] = neg) (hwh : t.takeWhile isDig = wh) (hr : t.dropWhile isDig = rest) (hok : wholeOk wh = true)
    (hw15 : wh.length ≤ 15) (HW : Hid (∀ c ∈ wh, isDig c = true))
    (tail fr sf : List UInt8) (hl2 : tail.length ≤ 9223372036854775807) (hl3 : fr.length ≤ 9223372036854775807)
    (htl : Lib.trimPrefix rest [46] = tail) (hdot : Lib.hasPrefix rest [46] = true) (hfr : tail.takeWhile isDig = fr) (hsf : tail.dropWhile isDig = sf)
    (hfo : fracOk fr = true) (hm : (sf == [109]) = false) (F : Int) (hF : facOf sf = F) (hF0 : 0 < F) (hFb : (F != 0) = true)
    (hf3 : fr.length ≤ 3) (HF : Hid (∀ c ∈ fr, isDig c = true))
    (D T : Nat) (hD : decN wh = D) (hT : thouN fr = T) (hD1 : D < 1000000000000000) (hT1 : T < 1000) :
    Calls Tryd.prog 11 #[.string ⟨l.toArray⟩] w fun e w' => e = .returned (.tuple #[.int .i64 (signed neg (scaled ((D : Int) * 1000 + T) F).1), .int .i64 (scaled ((D : Int) * 1000 + T) F).2]) ∧ ∃ n, w' = w.drewN n := by
  by_cases hlt : 1000000000000000 / F < (D : Int) * 1000 + T
  · go_enter Tryd.func11, Tryd.ntmps11
    go_wp2_with (first
      | (go_at_call 18; refine (cutPrefix_any _ _ _).mono ?_; rintro e w' ⟨rfl, rfl⟩)
      | (go_at_call 19; refine (cutDigits_any _ _ (by assumption)).mono ?_; rintro e w' ⟨rfl, n, rfl⟩)
      | (go_at_call 20; refine (validWhole_any _ _ (by assumption)).mono ?_; rintro e w' ⟨rfl, rfl⟩)
      | (go_at_call 21; refine (validFraction_any _ _ (by assumption)).mono ?_; rintro e w' ⟨rfl, rfl⟩)
      | (go_at_call 22; refine (suffixFactor_any _ _).mono ?_; rintro e w' ⟨rfl, rfl⟩)
      | (go_at_call 23; refine (decimal_any _ _ hw15 HW.out).mono ?_; rintro e w' ⟨rfl, rfl⟩)
      | (go_at_call 24; refine (thousandths_any _ _ (by assumption) HF.out).mono ?_; rintro e w' ⟨rfl, rfl⟩))
    go_ret2
    exact ⟨tup2 (int_eq (by rw [scaled_big hlt, signed_0])) (int_eq (by rw [scaled_big hlt])), drew_one _⟩
  · have hle : (D : Int) * 1000 + T ≤ 1000000000000000 / F := by omega
    clear hlt
    obtain ⟨b0, b1⟩ := scale_bd (F := F) (by omega) (by omega) hle
    obtain ⟨b2, b3⟩ := scale_neg b0 b1
    cases neg
    all_goals
      go_enter Tryd.func11, Tryd.ntmps11
      go_wp2_with (first
        | (go_at_call 18; refine (cutPrefix_any _ _ _).mono ?_; rintro e w' ⟨rfl, rfl⟩)
        | (go_at_call 19; refine (cutDigits_any _ _ (by assumption)).mono ?_; rintro e w' ⟨rfl, n, rfl⟩)
        | (go_at_call 20; refine (validWhole_any _ _ (by assumption)).mono ?_; rintro e w' ⟨rfl, rfl⟩)
        | (go_at_call 21; refine (validFraction_any _ _ (by assumption)).mono ?_; rintro e w' ⟨rfl, rfl⟩)
        | (go_at_call 22; refine (suffixFactor_any _ _).mono ?_; rintro e w' ⟨rfl, rfl⟩)
        | (go_at_call 23; refine (decimal_any _ _ hw15 HW.out).mono ?_; rintro e w' ⟨rfl, rfl⟩)
        | (go_at_call 24; refine (thousandths_any _ _ (by assumption) HF.out).mono ?_; rintro e w' ⟨rfl, rfl⟩))
      go_ret2
      exact ⟨tup2 (int_eq (by simp only [scaled_ok hle, signed_t, signed_f, Int.neg_mul])) (int_eq (by rw [scaled_ok hle])), drew_one _⟩

set_option maxHeartbeats 1000000 in
theorem parse_nodot (l t wh rest : List UInt8) (neg : Bool) (w : World) (hl : t.length ≤ 9223372036854775807) (hwl : wh.length ≤ 9223372036854775807)
    (ht : Lib.trimPrefix l [45] = t) (hn : Lib.hasPrefix l [45] = neg) (hwh : t.takeWhile isDig = wh) (hr : t.dropWhile isDig = rest) (hok : wholeOk wh = true)
    (hw15 : wh.length ≤ 15) (HW : Hid (∀ c ∈ wh, isDig c = true))
    (tail : List UInt8) (htl : Lib.trimPrefix rest [46] = tail) (hdot : Lib.hasPrefix rest [46] = false)
    (hm : (rest == [109]) = false) (F : Int) (hF : facOf rest = F) (hF0 : 0 < F) (hFb : (F != 0) = true)
    (D : Nat) (hD : decN wh = D) (hT : thouN [] = 0) (hD1 : D < 1000000000000000) :
    Calls Tryd.prog 11 #[.string ⟨l.toArray⟩] w fun e w' => e = .returned (.tuple #[.int .i64 (signed neg (scaled ((D : Int) * 1000) F).1), .int .i64 (scaled ((D : Int) * 1000) F).2]) ∧ ∃ n, w' = w.drewN n := by
  by_cases hlt : 1000000000000000 / F < (D : Int) * 1000
  · go_enter Tryd.func11, Tryd.ntmps11
    go_wp2_with (first
      | (go_at_call 18; refine (cutPrefix_any _ _ _).mono ?_; rintro e w' ⟨rfl, rfl⟩)
      | (go_at_call 19; refine (cutDigits_any _ _ (by assumption)).mono ?_; rintro e w' ⟨rfl, n, rfl⟩)
      | (go_at_call 20; refine (validWhole_any _ _ (by assumption)).mono ?_; rintro e w' ⟨rfl, rfl⟩)
      | (go_at_call 22; refine (suffixFactor_any _ _).mono ?_; rintro e w' ⟨rfl, rfl⟩)
      | (go_at_call 23; refine (decimal_any _ _ hw15 HW.out).mono ?_; rintro e w' ⟨rfl, rfl⟩)
      | (go_at_call 24; refine (thousandths_any [] _ (by decide) (fun _ h => by cases h)).mono ?_; rintro e w' ⟨rfl, rfl⟩))
    go_ret2
    exact ⟨tup2 (int_eq (by rw [scaled_big hlt, signed_0])) (int_eq (by rw [scaled_big hlt])), drew_one _⟩
  · have hle : (D : Int) * 1000 ≤ 1000000000000000 / F := by omega
    clear hlt
    obtain ⟨b0, b1⟩ := scale_bd (F := F) (by omega) (by omega) hle
    obtain ⟨b2, b3⟩ := scale_neg b0 b1
    cases neg
    all_goals
      go_enter Tryd.func11, Tryd.ntmps11
      go_wp2_with (first
        | (go_at_call 18; refine (cutPrefix_any _ _ _).mono ?_; rintro e w' ⟨rfl, rfl⟩)
        | (go_at_call 19; refine (cutDigits_any _ _ (by assumption)).mono ?_; rintro e w' ⟨rfl, n, rfl⟩)
        | (go_at_call 20; refine (validWhole_any _ _ (by assumption)).mono ?_; rintro e w' ⟨rfl, rfl⟩)
        | (go_at_call 22; refine (suffixFactor_any _ _).mono ?_; rintro e w' ⟨rfl, rfl⟩)
        | (go_at_call 23; refine (decimal_any _ _ hw15 HW.out).mono ?_; rintro e w' ⟨rfl, rfl⟩)
        | (go_at_call 24; refine (thousandths_any [] _ (by decide) (fun _ h => by cases h)).mono ?_; rintro e w' ⟨rfl, rfl⟩))
      go_ret2
      exact ⟨tup2 (int_eq (by simp only [scaled_ok hle, signed_t, signed_f, Int.neg_mul])) (int_eq (by rw [scaled_ok hle])), drew_one _⟩

set_option maxHeartbeats 1000000 in
theorem parse_milli (l t wh rest : List UInt8) (neg : Bool) (w : World) (hl : t.length ≤ 9223372036854775807) (hwl : wh.length ≤ 9223372036854775807)
    (ht : Lib.trimPrefix l [45] = t) (hn : Lib.hasPrefix l [45] = neg) (hwh : t.takeWhile isDig = wh) (hr : t.dropWhile isDig = rest) (hok : wholeOk wh = true)
    (hw15 : wh.length ≤ 15) (HW : Hid (∀ c ∈ wh, isDig c = true))
    (tail : List UInt8) (htl : Lib.trimPrefix rest [46] = tail) (hdot : Lib.hasPrefix rest [46] = false)
    (hm : (rest == [109]) = true) (hF : facOf rest = 1)
    (D : Nat) (hD : decN wh = D) (hD1 : D < 1000000000000000) :
    Calls Tryd.prog 11 #[.string ⟨l.toArray⟩] w fun e w' => e = .returned (.tuple #[.int .i64 (signed neg D), .int .i64 0]) ∧ ∃ n, w' = w.drewN n := by
  cases neg
  all_goals
    go_enter Tryd.func11, Tryd.ntmps11
    go_wp2_with (first
      | (go_at_call 18; refine (cutPrefix_any _ _ _).mono ?_; rintro e w' ⟨rfl, rfl⟩)
      | (go_at_call 19; refine (cutDigits_any _ _ (by assumption)).mono ?_; rintro e w' ⟨rfl, n, rfl⟩)
      | (go_at_call 20; refine (validWhole_any _ _ (by assumption)).mono ?_; rintro e w' ⟨rfl, rfl⟩)
      | (go_at_call 22; refine (suffixFactor_any _ _).mono ?_; rintro e w' ⟨rfl, rfl⟩)
      | (go_at_call 23; refine (decimal_any _ _ hw15 HW.out).mono ?_; rintro e w' ⟨rfl, rfl⟩))
    go_ret2
    exact ⟨rfl, drew_one _⟩

theorem tw_len (t : List UInt8) : (t.takeWhile isDig).length ≤ t.length := (List.takeWhile_sublist _).length_le
theorem dw_len (t : List UInt8) : (t.dropWhile isDig).length ≤ t.length := (List.dropWhile_sublist _).length_le
theorem tp_len (t p : List UInt8) : (Lib.trimPrefix t p).length ≤ t.length := by
  unfold Lib.trimPrefix; split
  · simp
  · exact Nat.le_refl _
theorem facOf_m {l : List UInt8} (h : l = [109]) : facOf l = 1 := by rw [h]; rfl
theorem calls_eq {f : FuncId} {args : Array Value} {w : World} {a b a' b' : Int} (h1 : a = a') (h2 : b = b')
    (h : Calls Tryd.prog f args w fun e w' => e = .returned (.tuple #[.int .i64 a, .int .i64 b]) ∧ ∃ n, w' = w.drewN n) :
    Calls Tryd.prog f args w fun e w' => e = .returned (.tuple #[.int .i64 a', .int .i64 b']) ∧ ∃ n, w' = w.drewN n := by subst h1 h2; exact h

/-- Parse answers what the specification says, for every string. -/
theorem parse_any (l : List UInt8) (w : World) (hlen : l.length ≤ 9223372036854775807) :
    Calls Tryd.prog 11 #[.string ⟨l.toArray⟩] w fun e w' => e = .returned (.tuple #[.int .i64 (parseQ l).1, .int .i64 (parseQ l).2]) ∧ ∃ n, w' = w.drewN n := by
  have q1 := tp_len l [45]
  unfold parseQ
  generalize ht : Lib.trimPrefix l [45] = t at *
  generalize hn : Lib.hasPrefix l [45] = neg at *
  have q2 := tw_len t
  have q3 := dw_len t
  have q4 := all_takeWhile t
  unfold parseU
  generalize hwh : t.takeWhile isDig = wh at *
  generalize hr : t.dropWhile isDig = rest at *
  by_cases hok : wholeOk wh = false
  · rw [if_pos hok]
    exact calls_eq (signed_0 neg).symm rfl (parse_bad l t wh rest neg w (by omega) (by omega) ht hn hwh hr hok)
  rw [if_neg hok]
  have hok' : wholeOk wh = true := by simpa using hok
  have hw15 := wholeOk_le hok'
  have hD1 : decN wh < 1000000000000000 := by
    have h1 := decN_lt q4
    have h2 : 10 ^ wh.length ≤ 10 ^ 15 := Nat.pow_le_pow_right (by decide) hw15
    omega
  have q5 := tp_len rest [46]
  unfold parseRest
  generalize htl : Lib.trimPrefix rest [46] = tail at *
  by_cases hdot : Lib.hasPrefix rest [46] = true
  · rw [if_pos hdot]
    have q6 := tw_len tail
    have q7 := all_takeWhile tail
    generalize hfr : tail.takeWhile isDig = fr at *
    generalize hsf : tail.dropWhile isDig = sf at *
    show Calls Tryd.prog 11 _ w fun e w' => e = .returned (.tuple #[.int .i64 (signed neg (if fracOk fr = false ∨ sf = [109] ∨ facOf sf = 0 then (0, 2) else scaled (decN wh * 1000 + thouN fr) (facOf sf)).1), .int .i64 (if fracOk fr = false ∨ sf = [109] ∨ facOf sf = 0 then (0, 2) else scaled (decN wh * 1000 + thouN fr) (facOf sf)).2]) ∧ ∃ n, w' = w.drewN n
    by_cases hfo : fracOk fr = false
    · rw [if_pos (Or.inl hfo)]
      exact calls_eq (signed_0 neg).symm rfl (parse_frac l t wh rest neg w (by omega) (by omega) ht hn hwh hr hok' tail fr sf (by omega) (by omega) htl hdot hfr hsf hfo)
    have hfo' : fracOk fr = true := by simpa using hfo
    by_cases hm : sf = [109]
    · rw [if_pos (Or.inr (Or.inl hm))]
      exact calls_eq (signed_0 neg).symm rfl (parse_fm l t wh rest neg w (by omega) (by omega) ht hn hwh hr hok' tail fr sf (by omega) (by omega) htl hdot hfr hsf hfo' (by simpa using hm))
    by_cases hf : facOf sf = 0
    · rw [if_pos (Or.inr (Or.inr hf))]
      exact calls_eq (signed_0 neg).symm rfl (parse_dfac l t wh rest neg w (by omega) (by omega) ht hn hwh hr hok' tail fr sf (by omega) (by omega) htl hdot hfr hsf hfo' (by simpa using hm) hf)
    rw [if_neg (by simp [hfo', hm, hf])]
    have hF0 := facOf_nonneg sf
    exact parse_dot l t wh rest neg w (by omega) (by omega) ht hn hwh hr hok' hw15 (Lib.hid q4) tail fr sf (by omega) (by omega) htl hdot hfr hsf hfo' (by simpa using hm) (facOf sf) rfl (by omega) (by simpa using hf) (fracOk_le hfo').2 (Lib.hid q7) (decN wh) (thouN fr) rfl rfl hD1 (thouN_lt q7 (fracOk_le hfo').2)
  · have hdot' : Lib.hasPrefix rest [46] = false := by simpa using hdot
    rw [if_neg hdot]
    by_cases hf : facOf rest = 0
    · rw [if_pos hf]
      exact calls_eq (signed_0 neg).symm rfl (parse_fac l t wh rest neg w (by omega) (by omega) ht hn hwh hr hok' tail htl hdot' hf)
    rw [if_neg hf]
    by_cases hm : rest = [109]
    · rw [if_pos hm, scaled_ok (by omega)]
      exact calls_eq (by rw [Int.mul_one]) rfl (parse_milli l t wh rest neg w (by omega) (by omega) ht hn hwh hr hok' hw15 (Lib.hid q4) tail htl hdot' (by simpa using hm) (facOf_m hm) (decN wh) rfl hD1)
    · rw [if_neg hm]
      have hF0 := facOf_nonneg rest
      exact parse_nodot l t wh rest neg w (by omega) (by omega) ht hn hwh hr hok' hw15 (Lib.hid q4) tail htl hdot' (by simpa using hm) (facOf rest) rfl (by omega) (by simpa using hf) (decN wh) rfl rfl hD1
end Go.Proofs.YtklpnkdfbfdbnaaDoor
