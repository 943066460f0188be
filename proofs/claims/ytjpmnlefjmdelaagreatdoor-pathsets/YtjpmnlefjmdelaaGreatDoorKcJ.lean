/- The parser's state; blanks. The parser's bytes and words. The parser's words, characters and numbers. The parser's digits. -/
import Derived.Test.YtjpmnlefjmdelaaGreatDoorKaJ
import Derived.Test.YtjpmnlefjmdelaaGreatDoorJa
import Derived.Test.YtjpmnlefjmdelaaGreatDoorFrJ
import Derived.BigQuiet
import Derived.Lib.QuietBelow
set_option linter.unusedSimpArgs false
set_option linter.unusedVariables false
namespace Go.Proofs.YtjpmnlefjmdelaaGreatDoor
open Go.RowKit Go.Sort Go.Proofs.LawFrame

/-- the parser at the block pb: the text s, of which r is left; n values have begun -/
structure St (pb : Nat) (s r : Str) (n : Int) (w : World) : Prop where
  out : ∃ i : Nat, i ≤ s.length ∧ s.drop i = r ∧ Own w pb [sV s, .int .i64 i, .int .i64 n] 72
theorem St.all {pb : Nat} {s r : Str} {n : Int} {w w' : World} (h : St pb s r n w) (hb : Below w.heap.size w w') : St pb s r n w' := by
  obtain ⟨i, h1, h2, h3⟩ := h.out; exact ⟨i, h1, h2, h3.all hb⟩
theorem But.allow {b : Nat} {w w' : World} (h : Below w.heap.size w w') : But b w w' := (But.refl b w).all h
end Go.Proofs.YtjpmnlefjmdelaaGreatDoor
namespace Go.Proofs.YtjpmnlefjmdelaaGreatDoor
open Go.RowKit Go.Sort Go.Proofs.LawFrame

end Go.Proofs.YtjpmnlefjmdelaaGreatDoor
namespace Go.Proofs.YtjpmnlefjmdelaaGreatDoor
open Go.RowKit Go.Sort Go.Proofs.LawFrame

def put5 (W : World) (b : Nat) (v0 v1 v2 v3 v4 : Value) : World := ((((W.setCell ⟨b, 0, none⟩ v0).setCell ⟨b, 1, none⟩ v1).setCell ⟨b, 2, none⟩ v2).setCell ⟨b, 3, none⟩ v3).setCell ⟨b, 4, none⟩ v4
theorem own_put5 {W : World} {b : Nat} {a0 a1 a2 a3 a4 : Value} {t : TypeId} (o : Own W b [a0, a1, a2, a3, a4] t) (v0 v1 v2 v3 v4 : Value) : Own (put5 W b v0 v1 v2 v3 v4) b [v0, v1, v2, v3, v4] t :=
  ((((o.set 0 v0).set 1 v1).set 2 v2).set 3 v3).set 4 v4
theorem But.high {pb b : Nat} {w W : World} (h : But pb w W) (hb : w.heap.size ≤ b) (i : Nat) (v : Value) : But pb w (W.setCell ⟨b, i, none⟩ v) :=
  ⟨h.os, h.tape, h.output, Nat.le_trans h.size (Nat.le_of_eq (by unfold World.setCell; simp)), fun k hk hne => (Below.heap_setCell _ _ _ _ (by rintro rfl; exact absurd hk (Nat.not_lt_of_le hb))).trans (h.block k hk hne)⟩
theorem But.put5 {pb b : Nat} {w W : World} (h : But pb w W) (hb : w.heap.size ≤ b) (v0 v1 v2 v3 v4 : Value) : But pb w (put5 W b v0 v1 v2 v3 v4) :=
  ((((h.high hb 0 v0).high hb 1 v1).high hb 2 v2).high hb 3 v3).high hb 4 v4
theorem St.set_ne {pb b : Nat} {s r : Str} {n : Int} {W : World} (h : St pb s r n W) (hb : pb ≠ b) (i : Nat) (v : Value) : St pb s r n (W.setCell ⟨b, i, none⟩ v) := by
  obtain ⟨j, h1, h2, h3⟩ := h.out; exact ⟨j, h1, h2, h3.set_ne hb _ _⟩
theorem St.put5 {pb b : Nat} {s r : Str} {n : Int} {W : World} (h : St pb s r n W) (hb : pb ≠ b) (v0 v1 v2 v3 v4 : Value) : St pb s r n (put5 W b v0 v1 v2 v3 v4) :=
  ((((h.set_ne hb 0 v0).set_ne hb 1 v1).set_ne hb 2 v2).set_ne hb 3 v3).set_ne hb 4 v4
theorem IsA.put5 {W : World} {A : Nat → Prop} {c : VC} {t : T} {b : Nat} (h : IsA W A c t) (hb : ¬ A b) (v0 v1 v2 v3 v4 : Value) : IsA (put5 W b v0 v1 v2 v3 v4) A c t :=
  ((((h.set hb 0 v0).set hb 1 v1).set hb 2 v2).set hb 3 v3).set hb 4 v4
theorem St.lt {pb : Nat} {s r : Str} {n : Int} {w : World} (h : St pb s r n w) : pb < w.heap.size := by
  obtain ⟨j, h1, h2, h3⟩ := h.out; exact h3.lt
end Go.Proofs.YtjpmnlefjmdelaaGreatDoor
namespace Go.Proofs.YtjpmnlefjmdelaaGreatDoor
open Go.RowKit Go.Sort Go.Proofs.LawFrame

structure ZI (r : Str) (k : Nat) (r' : Str) : Prop where
  out : (k = 0 ∧ r' = r) ∨ (0 < k ∧ ∃ c0 rr, r = c0 :: rr ∧ (c0.toNat = 48 → k = 1 ∧ r' = rr))
theorem ZI.next {r : Str} {k : Nat} {c : UInt8} {r2 : Str} (h : ZI r k (c :: r2)) (hk : 0 < k → ∀ c0 rr, r = c0 :: rr → ¬ c0.toNat = 48) : ZI r (k + 1) r2 := by
  refine ⟨Or.inr ⟨by omega, ?_⟩⟩
  rcases h.out with ⟨h1, rfl⟩ | ⟨h1, c0, rr, rfl, h⟩
  · exact ⟨c, r2, rfl, fun _ => ⟨by omega, rfl⟩⟩
  · exact ⟨c0, rr, rfl, fun h0 => absurd h0 (hk h1 c0 rr rfl)⟩

end Go.Proofs.YtjpmnlefjmdelaaGreatDoor
