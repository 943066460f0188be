/- Contracts of the reader's accept and word. -/
import Derived.Test.YtfohhokdcobhjaaDoorXa
namespace Go.Proofs.YtfohhokdcobhjaaDoor
open Go.RowKit Go.Sort Go.Proofs.LawFrame

theorem grown_refl (w : World) (row : Option Nat) : w.grownBy w row := ⟨rfl, rfl, rfl, Nat.le_refl _, fun _ _ _ => rfl⟩
theorem Rd.lt {w : World} {rb : Nat} {S : List Str} (h : Rd w rb S) : rb < w.heap.size := by obtain ⟨r, h, -⟩ := h.out; exact h.lt
theorem Rd.hdl {w : World} {rb : Nat} {S : List Str} (h : Rd w rb S) : (hd S).length ≤ 20000 := by
  obtain ⟨r, -, -, -, h⟩ := h.out
  cases S with
  | nil => rw [hd_nil]; simp
  | cons a t => exact (h a (by simp)).2
theorem Rd.nil {w : World} {rb : Nat} {S : List Str} (h : Rd w rb S) (h2 : hd S = []) : S = [] := by
  obtain ⟨r, -, -, -, h⟩ := h.out
  cases S with
  | nil => rfl
  | cons a t => exact absurd h2 (h a (by simp)).1
theorem Rd.below {w w' : World} {rb : Nat} {S : List Str} (h : Rd w rb S) (hb : Below w.heap.size w w') : Rd w' rb S := by
  obtain ⟨r, h1, h2⟩ := h.out
  exact ⟨r, h1.all hb, h2⟩
theorem Rd.kept {w w' : World} {rb : Nat} {S : List Str} {row : Option Nat} (h : Rd w rb S) (hg : w.grownBy w' row) (hne : some rb ≠ row) : Rd w' rb S := by
  obtain ⟨r, h1, h2⟩ := h.out
  refine ⟨r, ?_, h2⟩
  unfold Own; rw [hg.block rb h1.lt hne]; exact h1

def accRest (S : List Str) (tk : Str) : List Str := if hd S = tk then S.tail else S

set_option maxHeartbeats 1000000 in
theorem accept_any (tk : Str) (S : List Str) (rb : Nat) (w : World) (hr : Rd w rb S) :
    Calls Tryd.prog 63 #[.pointer (some ⟨rb, 0, none⟩), sV tk] w fun e w' => e = .returned (.bool (decide (hd S = tk))) ∧ Rd w' rb (accRest S tk) ∧ w.grownBy w' (some rb) := by
  obtain ⟨rest, ho, hlx, hrl, hall⟩ := hr.out
  have c0 := ho.cell (i := 0) rfl
  by_cases h : hd S = tk
  · have CA := Lib.hid (advance_any _ rest rb w ho hrl)
    rw [hlx] at CA
    have HA : Hid (accRest S tk = S.tail) := Lib.hid (by unfold accRest; rw [if_pos h])
    have hd' : (hd S == tk) = true := by rw [h]; simp
    have HD := Lib.hid h
    clear h ho
    go_enter Tryd.func63, Tryd.ntmps63
    go_wp2_with (go_at_call 61; refine CA.out.mono ?_; rintro e w' ⟨rfl, h1, h2⟩)
    go_ret
    exact ⟨ret_bool (decide_eq_true HD.out).symm, by rw [HA.out]; exact h1, h2⟩
  · have HA : Hid (accRest S tk = S) := Lib.hid (by unfold accRest; rw [if_neg h])
    have hd' : (hd S == tk) = false := by simpa using h
    have HD := Lib.hid h
    clear h ho
    go_enter Tryd.func63, Tryd.ntmps63
    go_wp2
    go_ret
    exact ⟨ret_bool (decide_eq_false HD.out).symm, by rw [HA.out]; exact hr, grown_refl _ _⟩

set_option maxHeartbeats 1000000 in
theorem rword_any (S : List Str) (rb : Nat) (w : World) (hr : Rd w rb S) :
    Calls Tryd.prog 74 #[.pointer (some ⟨rb, 0, none⟩)] w fun e w' => e = .returned (sV (wVal S)) ∧ Rd w' rb (wRest S) ∧ w.grownBy w' (some rb) := by
  have hhl := hr.hdl
  obtain ⟨rest, ho, hlx, hrl, hall⟩ := hr.out
  have c0 := ho.cell (i := 0) rfl
  have CW := Lib.hid (wordLength_any (hd S) w (by omega))
  have hz := wlen_isWord (hd S)
  cases h : isWord (hd S)
  · rw [h] at hz
    have HV : Hid (wVal S = [] ∧ wRest S = S) := Lib.hid (by unfold wVal wRest; rw [h]; simp)
    have hz' : wlen (hd S) = 0 := by simpa using hz
    rw [hz'] at CW
    clear hz hz' h
    go_enter Tryd.func74, Tryd.ntmps74
    go_wp2_with (go_at_call 53; refine CW.out.mono ?_; rintro e w' ⟨rfl, rfl⟩)
    go_ret
    exact ⟨by rw [HV.out.1]; rfl, by rw [HV.out.2]; exact hr, grown_refl _ _⟩
  · rw [h] at hz
    have HV : Hid (wVal S = hd S ∧ wRest S = S.tail) := Lib.hid (by unfold wVal wRest; rw [h]; simp)
    have hz' : ¬ wlen (hd S) = 0 := by simpa using hz
    have CA := Lib.hid (advance_any _ rest rb w ho hrl)
    rw [hlx] at CA
    generalize wlen (hd S) = n at *
    have hq : ((n : Int) == 0) = false := by simp; omega
    clear hz h ho
    go_enter Tryd.func74, Tryd.ntmps74
    go_wp2_with (first | (go_at_call 53; refine CW.out.mono ?_; rintro e w' ⟨rfl, rfl⟩) | (go_at_call 61; refine CA.out.mono ?_; rintro e w2 ⟨rfl, h1, h2⟩))
    go_ret
    exact ⟨by rw [HV.out.1]; rfl, by rw [HV.out.2]; exact h1, h2⟩
end Go.Proofs.YtfohhokdcobhjaaDoor
