/- The parser's numbers. Rows of bytes; the parser's strings. -/
import Derived.Test.YtjpmnlefjmdelaaGreatDoorKcJ
import Derived.Test.YtjpmnlefjmdelaaGreatDoorEgJ
import Derived.Test.YtjpmnlefjmdelaaGreatDoorPdJ
import Derived.Laws.BytesArg
set_option linter.unusedSimpArgs false
set_option linter.unusedVariables false
namespace Go.Proofs.YtjpmnlefjmdelaaGreatDoor
open Go.RowKit Go.Sort Go.Proofs.LawFrame

end Go.Proofs.YtjpmnlefjmdelaaGreatDoor
namespace Go.Proofs.YtjpmnlefjmdelaaGreatDoor
open Go.RowKit Go.Sort Go.Proofs.LawFrame

def bC (l : Str) : List Value := l.map (fun c => .int .u8 (c.toNat : Int))
theorem bC_len (l : Str) : (bC l).length = l.length := by simp [bC]
theorem bC_snoc (l : Str) (x : UInt8) : bC (l ++ [x]) = bC l ++ [.int .u8 (x.toNat : Int)] := by simp [bC]
theorem info5 : (Tryz.prog.info? 5).map (fun i => (i.zero, i.size, i.bytes)) = some (some (.int .u8 0), 1, 1) := by kernel_rfl
theorem strOfNums_of (l : Str) : strOfNums (l.map (fun c => (c.toNat : Int))) = ⟨l.toArray⟩ := by
  unfold strOfNums
  congr 1
  rw [List.map_map]
  congr 1
  have : ((fun n : Int => UInt8.ofNat n.toNat) ∘ fun c : UInt8 => (c.toNat : Int)) = id := by funext c; simp
  rw [this, List.map_id]
theorem conv_own {w : World} {base : Nat} {v : Value} {l : Str} (h : w.ownsRow base 5 1 v l.length (bC l)) : (convert 61 9 v).run Tryz.prog w = .ok (sV l) w := by
  have hF := Flat.of_own h
  obtain ⟨ao, cap, rfl, h1, h2, h3⟩ := hF.out
  rcases Nat.eq_zero_or_pos l.length with h0 | h0
  · obtain rfl : l = [] := List.eq_nil_of_length_eq_zero h0
    rcases h.2 with ⟨hv, -⟩ | ⟨g, cap', cur, hv, hb, hg, k1, k2, k3, k4⟩
    · rw [hv, run_convert_bytes_nil w 61 5 Tryz.underlying61 Tryz.underlying5 0 0 9 Tryz.underlying9]; rfl
    · rw [hv]
      exact (run_convert_bytes_arg w 61 5 Tryz.underlying61 Tryz.underlying5 g 0 0 cap' [] rfl (fun i hi => absurd hi (by omega)) 9 Tryz.underlying9).trans (by rw [show strOfNums [] = ⟨#[]⟩ from rfl])
  · obtain ⟨b, off, rfl, hb, hc⟩ := h3 h0
    rw [run_convert_bytes_arg w 61 5 Tryz.underlying61 Tryz.underlying5 b off l.length cap (l.map (fun c => (c.toNat : Int))) (by simp) (fun i hi => hc i _ (by simp [bC, List.getD, hi])) 9 Tryz.underlying9, strOfNums_of]
theorem row_but {w w' : World} {base : Nat} {e : TypeId} {size : Nat} {v : Value} {n : Nat} {xs : List Value} {b : Nat} (h : w.ownsRow base e size v n xs) (hb : But b w w') (hlt : b < base) : w'.ownsRow base e size v n xs :=
  h.kept (row := some b) ⟨hb.os, hb.tape, hb.output, hb.size, fun k hk hne => hb.block k hk (fun e => hne (by rw [e]))⟩ (by
    cases hv : v.ownBlock with
    | none => exact Or.inl rfl
    | some k => exact Or.inr (by have := own_row h k hv; intro e; cases e; omega))
theorem St.grown {pb : Nat} {s r : Str} {n : Int} {w w' : World} {row : Option Nat} (h : St pb s r n w) (hg : w.grownBy w' row) (hne : ¬ row = some pb) : St pb s r n w' := by
  obtain ⟨j, h1, h2, h3⟩ := h.out; exact ⟨j, h1, h2, own_kept' h3 hg hne⟩

def prepR (acc : Str) : R (Str × Str) → R (Str × Str)
  | .er a b => .er a b
  | .ok (l, r) => .ok (acc ++ l, r)
theorem charR_len {r : Str} {x : UInt8} {r2 : Str} (h : charR r = .ok (x, r2)) : r2.length < r.length := by
  cases r with
  | nil => simp [charR] at h
  | cons c r =>
    simp only [charR] at h
    split at h
    · cases r with
      | nil => simp [escR] at h
      | cons e r =>
        simp only [escR] at h
        split at h
        · cases h; simp; omega
        · split at h
          · cases h; simp; omega
          · cases h
    · cases h; simp
theorem strR_fuel : ∀ (f f' k : Nat) (r : Str), r.length < f → r.length < f' → strR f k r = strR f' k r := by
  intro f
  induction f with
  | zero => intro f' k r h; omega
  | succ f ih =>
    intro f' k r h h'
    cases f' with
    | zero => omega
    | succ f' =>
      cases r with
      | nil => rfl
      | cons c r =>
        simp only [strR]
        split
        · rfl
        · split
          · rfl
          · split
            · rfl
            · cases hR : charR (c :: r) with
              | er a b => rfl
              | ok p =>
                obtain ⟨x, r2⟩ := p
                have hl := charR_len hR
                simp only
                rw [ih f' (k + 1) r2 (by simp at h hl; omega) (by simp at h' hl; omega)]
def STI (r acc r' : Str) : Prop := strR (r.length + 1) 0 r = prepR acc (strR (r'.length + 1) acc.length r')
theorem STI.next {r acc : Str} {c : UInt8} {r2 : Str} {x : UInt8} {r3 : Str} (h : STI r acc (c :: r2)) (h34 : ¬ c.toNat = 34) (hp : prt c = true) (hk : ¬ acc.length = 200) (hR : charR (c :: r2) = .ok (x, r3)) : STI r (acc ++ [x]) r3 := by
  unfold STI at *
  rw [h]
  rw [strR]
  simp only [h34, if_false, hp, Bool.true_eq_false, hk, hR]
  rw [strR_fuel _ (r3.length + 1) _ r3 (by have := charR_len hR; simp at this ⊢; omega) (by omega), List.length_append, List.length_singleton]
  cases strR (r3.length + 1) (acc.length + 1) r3 with
  | er a b => rfl
  | ok p => obtain ⟨l, r4⟩ := p; simp [prepR]

end Go.Proofs.YtjpmnlefjmdelaaGreatDoor
