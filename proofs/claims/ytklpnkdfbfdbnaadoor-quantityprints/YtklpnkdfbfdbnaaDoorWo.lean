/- The reference's decimal text. -/
import Derived.Test.YtklpnkdfbfdbnaaDoorWf
import Derived.Test.YtklpnkdfbfdbnaaDoorMe
import Derived.Laws.IdiomStrings
namespace Go.Proofs.YtklpnkdfbfdbnaaDoor
open Go.RowKit

/-- a digit's byte -/
def digB (d : Nat) : UInt8 := UInt8.ofNat (48 + d)
/-- one byte as a string -/
theorem conv1 (W : World) (d : Nat) (hd : d < 10) (n : Int) (hn : n = 48 + d) :
    (convert 44 9 (.slice (some ⟨W.heap.size, 0, none⟩) 1 1)).run Tryd.prog (W.alloc (.cells #[.int .u8 n] 5)) = .ok (.string ⟨[digB (d)].toArray⟩) (W.alloc (.cells #[.int .u8 n] 5)) := by
  refine run_convert_bytes_back (P := Tryd.prog) _ 44 9 5 ⟨W.heap.size, 0, none⟩ 1 [digB (d)] Tryd.underlying44 Tryd.underlying5 Tryd.underlying9 (fun j hj => ?_)
  have hj0 : j = 0 := by simpa using hj
  subst hj0
  subst hn
  have e : ((⟨W.heap.size, 0, none⟩ : Addr).add 0) = ⟨W.heap.size, 0, none⟩ := by unfold Addr.add; simp
  rw [e]
  show (W.alloc (.cells #[.int .u8 (48 + d)] 5)).cell? ⟨W.heap.size, 0, none⟩ = some (.int .u8 ((digB d).toNat : Int))
  rw [show (digB d).toNat = 48 + d from dig_nat hd]
  simp

/-- what is still to be written -/
def TextInv (u v : Nat) (s : List UInt8) : Prop := Lib.decDigits u = (if v < 10 then [] else Lib.decDigits (v / 10)) ++ s
theorem TextInv.start (u : Nat) : TextInv u u [digB (u % 10)] := by
  unfold TextInv
  by_cases h : u < 10
  · rw [if_pos h, dd_small h, Nat.mod_eq_of_lt h]; rfl
  · rw [if_neg h, dd_big h]; rfl
theorem TextInv.step {u v : Nat} {s : List UInt8} (hv : ¬ v < 10) (h : TextInv u v s) : TextInv u (v / 10) ([digB (v / 10 % 10)] ++ s) := by
  unfold TextInv at h ⊢
  rw [if_neg hv] at h
  rw [h]
  by_cases h2 : v / 10 < 10
  · rw [if_pos h2, dd_small h2, Nat.mod_eq_of_lt h2]; rfl
  · rw [if_neg h2, dd_big h2, List.append_assoc]; rfl
theorem TextInv.fin {u v : Nat} {s : List UInt8} (hv : v < 10) (h : TextInv u v s) : s = Lib.decDigits u := by
  unfold TextInv at h; rw [if_pos hv] at h; exact h.symm
theorem TextInv.len {u v : Nat} {s : List UInt8} (hu : u ≤ 1000000000000000) (h : TextInv u v s) : s.length ≤ 100 := by
  have := dd_len u 15 (by omega)
  rw [h, List.length_append] at this
  omega

set_option maxHeartbeats 1000000 in
theorem rtext_any (u : Nat) (w : World) (hu : u ≤ 1000000000000000) :
    Calls Tryd.prog 28 #[.int .i64 u] w fun e w' => e = .returned (.string ⟨(Lib.decDigits u).toArray⟩) ∧ Below w.heap.size w w' := by
  have hc := conv1 w (u % 10) (by omega) (48 + (u : Int) % 10) (by omega)
  go_enter Tryd.func28, Tryd.ntmps28
  go_wp2
  clear hc
  go_loopw [0, 3] (fun n s wr => ∃ (v : Nat) (sl : List UInt8), v ≤ u ∧ n = .int .i64 v ∧ s = .string ⟨sl.toArray⟩ ∧ TextInv u v sl ∧ Below w.heap.size w wr) (fun n _ _ => (intOf n).toNat)
  case atStart => exact ⟨u, _, Nat.le_refl _, rfl, rfl, TextInv.start u, (Below.refl _ _).alloc (Nat.le_refl _) _⟩
  case round =>
    obtain ⟨v, sl, hv, rfl, rfl, hi, hb⟩ := hrel
    have hlen := hi.len hu
    by_cases h10 : v < 10
    · go_wp2
      go_ret
      exact ⟨by rw [hi.fin h10]; rfl, hb⟩
    · have hc := conv1 wr (v / 10 % 10) (by omega) (48 + (v : Int) / 10 % 10) (by omega)
      go_wp2
      go_roundw
      case rel => exact ⟨v / 10, [digB (v / 10 % 10)] ++ sl, by omega, by go_num, by rw [← str_app], hi.step h10, hb.alloc hb.size _⟩
      case measure => simp [intOf]; omega
end Go.Proofs.YtklpnkdfbfdbnaaDoor
