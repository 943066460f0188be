/- The reference's digits and quoted strings. The reference's quoted strings. -/
import Derived.Test.YtjpmnlefjmdelaaDoorNf
import Derived.Laws.IdiomStrings
namespace Go.Proofs.YtjpmnlefjmdelaaDoor
open Go.RowKit Go.Sort Go.Proofs.LawFrame

theorem dd_small {u : Nat} (h : u < 10) : Lib.decDigits u = [UInt8.ofNat (48 + u)] := by rw [Lib.decDigits, dif_pos h]
theorem dd_big {u : Nat} (h : ¬ u < 10) : Lib.decDigits u = Lib.decDigits (u / 10) ++ [UInt8.ofNat (48 + u % 10)] := by rw [Lib.decDigits, dif_neg h]
theorem dig_nat {d : Nat} (h : d < 10) : (UInt8.ofNat (48 + d)).toNat = 48 + d := by
  rw [UInt8.toNat_ofNat']; omega
theorem dd_len (u : Nat) : ∀ k : Nat, u < 10 ^ (k + 1) → (Lib.decDigits u).length ≤ k + 1 := by
  induction u using Nat.strongRecOn with
  | ind u ih =>
    intro k hk
    by_cases h : u < 10
    · rw [dd_small h]; simp
    · rw [dd_big h]
      cases k with
      | zero => omega
      | succ k =>
        have := ih (u / 10) (by omega) k (by rw [Nat.pow_succ] at hk; omega)
        simp; omega
theorem strs_app (l m : Str) : (⟨l.toArray⟩ : ByteArray) ++ ⟨m.toArray⟩ = ⟨(l ++ m).toArray⟩ := by
  apply ByteArray.ext; rw [ByteArray.data_append]; simp
/-- a digit's byte -/
def digB (d : Nat) : UInt8 := UInt8.ofNat (48 + d)
/-- one byte as a string -/
theorem conv1 (W : World) (d : Nat) (hd : d < 10) (n : Int) (hn : n = 48 + d) :
    (convert 60 9 (.slice (some ⟨W.heap.size, 0, none⟩) 1 1)).run Tryd.prog (W.alloc (.cells #[.int .u8 n] 5)) = .ok (.string ⟨[digB (d)].toArray⟩) (W.alloc (.cells #[.int .u8 n] 5)) := by
  refine run_convert_bytes_back (P := Tryd.prog) _ 60 9 5 ⟨W.heap.size, 0, none⟩ 1 [digB (d)] Tryd.underlying60 Tryd.underlying5 Tryd.underlying9 (fun j hj => ?_)
  have hj0 : j = 0 := by simpa using hj
  subst hj0
  subst hn
  have e : ((⟨W.heap.size, 0, none⟩ : Addr).add 0) = ⟨W.heap.size, 0, none⟩ := by unfold Addr.add; simp
  rw [e]
  show (W.alloc (.cells #[.int .u8 (48 + d)] 5)).cell? ⟨W.heap.size, 0, none⟩ = some (.int .u8 ((digB d).toNat : Int))
  rw [show (digB d).toNat = 48 + d from dig_nat hd]
  simp
/-- what is still to be written -/
def TextInv (u v : Nat) (s : Str) : Prop := Lib.decDigits u = (if v < 10 then [] else Lib.decDigits (v / 10)) ++ s
theorem TextInv.start (u : Nat) : TextInv u u [digB (u % 10)] := by
  unfold TextInv
  by_cases h : u < 10
  · rw [if_pos h, dd_small h, Nat.mod_eq_of_lt h]; rfl
  · rw [if_neg h, dd_big h]; rfl
theorem TextInv.step {u v : Nat} {s : Str} (hv : ¬ v < 10) (h : TextInv u v s) : TextInv u (v / 10) ([digB (v / 10 % 10)] ++ s) := by
  unfold TextInv at h ⊢
  rw [if_neg hv] at h
  rw [h]
  by_cases h2 : v / 10 < 10
  · rw [if_pos h2, dd_small h2, Nat.mod_eq_of_lt h2]; rfl
  · rw [if_neg h2, dd_big h2, List.append_assoc]; rfl
theorem TextInv.fin {u v : Nat} {s : Str} (hv : v < 10) (h : TextInv u v s) : s = Lib.decDigits u := by
  unfold TextInv at h; rw [if_pos hv] at h; exact h.symm
theorem TextInv.len {u v : Nat} {s : Str} (hu : u ≤ 1000000000000000) (h : TextInv u v s) : s.length ≤ 100 := by
  have := dd_len u 15 (by omega)
  rw [h, List.length_append] at this
  omega
end Go.Proofs.YtjpmnlefjmdelaaDoor
namespace Go.Proofs.YtjpmnlefjmdelaaDoor
open Go.RowKit Go.Sort Go.Proofs.LawFrame

theorem below_grw {w w' w'' : World} {row : Option Nat} (h : Below w.heap.size w w') (hg : w'.grownBy w'' row) (hr : ∀ k, row = some k → w.heap.size ≤ k) : Below w.heap.size w w'' :=
  ⟨hg.os.trans h.os, hg.tape.trans h.tape, hg.output.trans h.output, Nat.le_trans h.size hg.size, fun k hk => (hg.block k (Nat.lt_of_lt_of_le hk h.size) (fun e => by have := hr k e.symm; omega)).trans (h.block k hk)⟩
theorem bC_app (l m : Str) : bC (l ++ m) = bC l ++ bC m := by simp [bC]

end Go.Proofs.YtjpmnlefjmdelaaDoor
