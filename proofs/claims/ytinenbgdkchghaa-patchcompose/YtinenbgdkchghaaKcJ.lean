/- The parser's state; blanks. The parser's bytes and words. The parser's words, characters and numbers. The parser's digits. -/
import Derived.Test.YtinenbgdkchghaaKaJ
import Derived.Test.YtinenbgdkchghaaJa
import Derived.Test.YtinenbgdkchghaaFrJ
import Derived.BigQuiet
import Derived.Lib.QuietBelow
set_option linter.unusedSimpArgs false
set_option linter.unusedVariables false
namespace Go.Proofs.Ytinenbgdkchghaa
open Go.RowKit Go.Sort Go.Proofs.LawFrame

/-- the parser at the block pb: the text s, of which r is left; n values have begun -/
structure St (pb : Nat) (s r : Str) (n : Int) (w : World) : Prop where
  out : ∃ i : Nat, i ≤ s.length ∧ s.drop i = r ∧ Own w pb [sV s, .int .i64 i, .int .i64 n] 72
theorem St.all {pb : Nat} {s r : Str} {n : Int} {w w' : World} (h : St pb s r n w) (hb : Below w.heap.size w w') : St pb s r n w' := by
  obtain ⟨i, h1, h2, h3⟩ := h.out; exact ⟨i, h1, h2, h3.all hb⟩
theorem But.allow {b : Nat} {w w' : World} (h : Below w.heap.size w w') : But b w w' := (But.refl b w).all h
abbrev failR (s : Str) (rem : Nat) (code : Int) : Ending := failE ((s.length - rem : Nat) : Int) code

end Go.Proofs.Ytinenbgdkchghaa
namespace Go.Proofs.Ytinenbgdkchghaa
open Go.RowKit Go.Sort Go.Proofs.LawFrame

/-- a call of the parser: what it returns or fails with; the parser's block alone was written -/
structure Res (pb : Nat) (s : Str) (w : World) {β : Type} (res : R β) (Q : β → World → Value → Prop) (e : Ending) (w' : World) : Prop where
  but : But pb w w'
  ok : ∀ b, res = .ok b → ∃ v, e = .returned v ∧ Q b w' v
  er : ∀ k c, res = .er k c → e = failR s k c
theorem Res.mkOk {pb : Nat} {s : Str} {w w' : World} {β : Type} {res : R β} {Q : β → World → Value → Prop} {b : β} {v : Value} (h : res = .ok b) (hb : But pb w w') (hq : Q b w' v) : Res pb s w res Q (.returned v) w' :=
  ⟨hb, fun b' h' => by rw [h] at h'; cases h'; exact ⟨v, rfl, hq⟩, fun k c h' => by rw [h] at h'; cases h'⟩
theorem Res.mkEr {pb : Nat} {s : Str} {w w' : World} {β : Type} {res : R β} {Q : β → World → Value → Prop} {k : Nat} {c : Int} (h : res = .er k c) (hb : But pb w w') : Res pb s w res Q (failR s k c) w' :=
  ⟨hb, fun b' h' => (by rw [h] at h'; cases h'), fun k' c' h' => by rw [h] at h'; cases h'; rfl⟩

def headR : Str → R UInt8
  | [] => .er 0 3
  | c :: _ => .ok c
/-- is the closing byte next, behind blanks? -/
def closeR (c : UInt8) (r : Str) : R (Bool × Str) := match skp r with
  | [] => .er 0 3
  | d :: r' => if d = c then .ok (true, r') else .ok (false, d :: r')
/-- a comma, or the closing byte -/
def sepR (c : UInt8) (r : Str) : R (Bool × Str) := match closeR c r with
  | .er a b => .er a b
  | .ok (true, r') => .ok (true, r')
  | .ok (false, r') => match byteR 44 r' with
    | .er a b => .er a b
    | .ok r2 => .ok (false, r2)
end Go.Proofs.Ytinenbgdkchghaa
namespace Go.Proofs.Ytinenbgdkchghaa
open Go.RowKit Go.Sort Go.Proofs.LawFrame

def put5 (W : World) (b : Nat) (v0 v1 v2 v3 v4 : Value) : World := ((((W.setCell ⟨b, 0, none⟩ v0).setCell ⟨b, 1, none⟩ v1).setCell ⟨b, 2, none⟩ v2).setCell ⟨b, 3, none⟩ v3).setCell ⟨b, 4, none⟩ v4
theorem own_put5 {W : World} {b : Nat} {a0 a1 a2 a3 a4 : Value} {t : TypeId} (o : Own W b [a0, a1, a2, a3, a4] t) (v0 v1 v2 v3 v4 : Value) : Own (put5 W b v0 v1 v2 v3 v4) b [v0, v1, v2, v3, v4] t :=
  ((((o.set 0 v0).set 1 v1).set 2 v2).set 3 v3).set 4 v4
theorem But.high {pb b : Nat} {w W : World} (h : But pb w W) (hb : w.heap.size ≤ b) (i : Nat) (v : Value) : But pb w (W.setCell ⟨b, i, none⟩ v) :=
  ⟨h.os, h.tape, h.output, Nat.le_trans h.size (Nat.le_of_eq (by unfold World.setCell; simp)), fun k hk hne => (Below.heap_setCell _ _ _ _ (by rintro rfl; exact absurd hk (Nat.not_lt_of_le hb))).trans (h.block k hk hne)⟩
theorem But.put5 {pb b : Nat} {w W : World} (h : But pb w W) (hb : w.heap.size ≤ b) (v0 v1 v2 v3 v4 : Value) : But pb w (put5 W b v0 v1 v2 v3 v4) :=
  ((((h.high hb 0 v0).high hb 1 v1).high hb 2 v2).high hb 3 v3).high hb 4 v4
theorem St.set_ne {pb b : Nat} {s r : Str} {n : Int} {W : World} (h : St pb s r n W) (hb : pb ≠ b) (i : Nat) (v : Value) : St pb s r n (W.setCell ⟨b, i, none⟩ v) := by
  obtain ⟨j, h1, h2, h3⟩ := h.out; exact ⟨j, h1, h2, h3.set_ne hb _ _⟩
theorem St.put5 {pb b : Nat} {s r : Str} {n : Int} {W : World} (h : St pb s r n W) (hb : pb ≠ b) (v0 v1 v2 v3 v4 : Value) : St pb s r n (put5 W b v0 v1 v2 v3 v4) :=
  ((((h.set_ne hb 0 v0).set_ne hb 1 v1).set_ne hb 2 v2).set_ne hb 3 v3).set_ne hb 4 v4
theorem IsA.put5 {W : World} {A : Nat → Prop} {c : VC} {t : T} {b : Nat} (h : IsA W A c t) (hb : ¬ A b) (v0 v1 v2 v3 v4 : Value) : IsA (put5 W b v0 v1 v2 v3 v4) A c t :=
  ((((h.set hb 0 v0).set hb 1 v1).set hb 2 v2).set hb 3 v3).set hb 4 v4
theorem St.lt {pb : Nat} {s r : Str} {n : Int} {w : World} (h : St pb s r n w) : pb < w.heap.size := by
  obtain ⟨j, h1, h2, h3⟩ := h.out; exact h3.lt
theorem u8_ne {c : UInt8} {k : Nat} (h : ¬ c.toNat = k) : ((c.toNat : Int) == (k : Int)) = false := by rw [beq_eq_false_iff_ne]; omega
theorem u8_eq {c : UInt8} {k : Nat} (h : c.toNat = k) : ((c.toNat : Int) == (k : Int)) = true := by rw [h]; simp

end Go.Proofs.Ytinenbgdkchghaa
namespace Go.Proofs.Ytinenbgdkchghaa
open Go.RowKit Go.Sort Go.Proofs.LawFrame

structure ZI (r : Str) (k : Nat) (r' : Str) : Prop where
  out : (k = 0 ∧ r' = r) ∨ (0 < k ∧ ∃ c0 rr, r = c0 :: rr ∧ (c0.toNat = 48 → k = 1 ∧ r' = rr))
theorem ZI.none_nil {r : Str} {k : Nat} (h : ZI r k []) : zeroD r = none := by
  rcases h.out with ⟨-, rfl⟩ | ⟨-, c0, rr, rfl, hh⟩
  · rfl
  · by_cases h0 : c0.toNat = 48
    · obtain ⟨-, rfl⟩ := hh h0; rfl
    · cases rr with
      | nil => rfl
      | cons b rr => simp [zeroD, h0]
theorem ZI.none_not {r : Str} {k : Nat} {c : UInt8} {r2 : Str} (h : ZI r k (c :: r2)) (hc : dig c = false) : zeroD r = none := by
  rcases h.out with ⟨-, rfl⟩ | ⟨-, c0, rr, rfl, hh⟩
  · have h0 : ¬ c.toNat = 48 := by intro h; simp [dig, h] at hc
    cases r2 with
    | nil => rfl
    | cons b rr => simp [zeroD, h0]
  · by_cases h0 : c0.toNat = 48
    · obtain ⟨-, rfl⟩ := hh h0; simp [zeroD, hc]
    · cases rr with
      | nil => rfl
      | cons b rr => simp [zeroD, h0]
theorem ZI.some_at {c0 : UInt8} {rr : Str} {k : Nat} {c : UInt8} {r2 : Str} (h : ZI (c0 :: rr) k (c :: r2)) (hk : 0 < k) (hc : dig c = true) (h0 : c0.toNat = 48) : zeroD (c0 :: rr) = some (r2.length + 1) := by
  rcases h.out with ⟨h, -⟩ | ⟨-, x, y, he, hh⟩
  · omega
  · cases he
    obtain ⟨-, rfl⟩ := hh h0
    simp [zeroD, h0, hc]
theorem ZI.next {r : Str} {k : Nat} {c : UInt8} {r2 : Str} (h : ZI r k (c :: r2)) (hk : 0 < k → ∀ c0 rr, r = c0 :: rr → ¬ c0.toNat = 48) : ZI r (k + 1) r2 := by
  refine ⟨Or.inr ⟨by omega, ?_⟩⟩
  rcases h.out with ⟨h1, rfl⟩ | ⟨h1, c0, rr, rfl, h⟩
  · exact ⟨c, r2, rfl, fun _ => ⟨by omega, rfl⟩⟩
  · exact ⟨c0, rr, rfl, fun h0 => absurd h0 (hk h1 c0 rr rfl)⟩

end Go.Proofs.Ytinenbgdkchghaa
