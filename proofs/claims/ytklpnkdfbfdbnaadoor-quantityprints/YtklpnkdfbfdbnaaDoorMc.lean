/- Plain mathematics of quantity texts: what Parse answers. No program in it. -/
import Derived.Test.YtklpnkdfbfdbnaaDoorMb
import Derived.Lib.Strings
namespace Go.Proofs.YtklpnkdfbfdbnaaDoor

def thouTo (l : List UInt8) (k : Nat) : Nat := decN l * 10 ^ k
/-- the digits behind a dot as thousandths -/
def thouN (l : List UInt8) : Nat := thouTo l (3 - l.length)
theorem thouTo_zero (l : List UInt8) : thouTo l 0 = decN l := by simp [thouTo]
theorem thouTo_succ (l : List UInt8) (k : Nat) : thouTo l (k + 1) = thouTo l k * 10 := by simp [thouTo, Nat.pow_succ, Nat.mul_assoc]
theorem thouTo_le {l : List UInt8} {k : Nat} (hd : ∀ c ∈ l, isDig c = true) (hl : l.length ≤ 3) (hk : k ≤ 3) : thouTo l k ≤ 1000000 := by
  have hb : decN l < 10 ^ l.length := decN_lt hd
  have hb1 : 10 ^ l.length ≤ 10 ^ 3 := Nat.pow_le_pow_right (by decide) hl
  have hb2 : 10 ^ k ≤ 10 ^ 3 := Nat.pow_le_pow_right (by decide) hk
  have hb4 : decN l * 10 ^ k ≤ 1000 * 1000 := Nat.mul_le_mul (by omega) (by omega)
  exact hb4
theorem thouN_lt {l : List UInt8} (hd : ∀ c ∈ l, isDig c = true) (hl : l.length ≤ 3) : thouN l < 1000 := by
  have hb : decN l < 10 ^ l.length := decN_lt hd
  have e : 10 ^ l.length * 10 ^ (3 - l.length) = 1000 := by rw [← Nat.pow_add, show l.length + (3 - l.length) = 3 by omega]
  have h2 : decN l * 10 ^ (3 - l.length) < 10 ^ l.length * 10 ^ (3 - l.length) := Nat.mul_lt_mul_of_pos_right hb (Nat.pow_pos (by decide))
  unfold thouN thouTo; omega

def fracOk (l : List UInt8) : Bool := decide (1 ≤ l.length) && decide (l.length ≤ 3)
theorem fracOk_le {l : List UInt8} (h : fracOk l = true) : 1 ≤ l.length ∧ l.length ≤ 3 := by simpa [fracOk] using h
def wholeOk (l : List UInt8) : Bool := decide (1 ≤ l.length) && decide (l.length ≤ 15) && (l == [48] || l.head? != some 48)
theorem wholeOk_le {l : List UInt8} (h : wholeOk l = true) : l.length ≤ 15 := by
  simp only [wholeOk, Bool.and_eq_true, decide_eq_true_eq] at h; omega
def facOf (l : List UInt8) : Int :=
  if l = [] then 1 else if l = [109] then 1 else if l = [107] then 1000 else if l = [77] then 1000000 else if l = [71] then 1000000000
  else if l = [75, 105] then 1024 else if l = [77, 105] then 1048576 else if l = [71, 105] then 1073741824 else 0
theorem facOf_nonneg (l : List UInt8) : 0 ≤ facOf l := by
  unfold facOf; repeat' split
  all_goals decide

/-- the end of a reading: a number of thousandths and a factor; (number, error) -/
def scaled (n f : Int) : Int × Int := if 1000000000000000 / f < n then (0, 5) else (n * f, 0)
/-- behind the integer part -/
def parseRest (wh rest : List UInt8) : Int × Int :=
  if Lib.hasPrefix rest [46] then
    (let fr := (Lib.trimPrefix rest [46]).takeWhile isDig
     let sf := (Lib.trimPrefix rest [46]).dropWhile isDig
     if fracOk fr = false ∨ sf = [109] ∨ facOf sf = 0 then (0, 2) else scaled (decN wh * 1000 + thouN fr) (facOf sf))
  else if facOf rest = 0 then (0, 2)
  else if rest = [109] then scaled (decN wh) 1 else scaled (decN wh * 1000) (facOf rest)
def parseU (t : List UInt8) : Int × Int :=
  if wholeOk (t.takeWhile isDig) = false then (0, 2) else parseRest (t.takeWhile isDig) (t.dropWhile isDig)
theorem facOf_le (l : List UInt8) : facOf l ≤ 1073741824 := by
  unfold facOf; repeat' split
  all_goals decide
def signed (neg : Bool) (v : Int) : Int := if neg then -v else v
theorem signed_t (v : Int) : signed true v = -v := rfl
theorem signed_f (v : Int) : signed false v = v := rfl
theorem signed_0 (neg : Bool) : signed neg 0 = 0 := by cases neg <;> rfl
def parseQ (l : List UInt8) : Int × Int :=
  (signed (Lib.hasPrefix l [45]) (parseU (Lib.trimPrefix l [45])).1, (parseU (Lib.trimPrefix l [45])).2)
theorem scaled_big {n f : Int} (h : 1000000000000000 / f < n) : scaled n f = (0, 5) := by rw [scaled, if_pos h]
theorem scaled_ok {n f : Int} (h : n ≤ 1000000000000000 / f) : scaled n f = (n * f, 0) := by rw [scaled, if_neg (by omega)]
end Go.Proofs.YtklpnkdfbfdbnaaDoor
