/- The contract of Print. -/
import Derived.Test.YtklpnkdfbfdbnaaDoorWb
import Derived.Test.YtklpnkdfbfdbnaaDoorWd
import Derived.Test.YtklpnkdfbfdbnaaDoorMd
namespace Go.Proofs.YtklpnkdfbfdbnaaDoor
open Go.RowKit

def Tab (w : World) : Prop := Lib.TabIs Tryd.prog w "internal/strconv.uint64pow10" .u64 Lib.pow10Tab
theorem itoa_any (n : Int) (h0 : -1000000000000000 ≤ n) (h1 : n ≤ 1000000000000000) (w : World) (ht : Tab w) :
    Calls Tryd.prog 27 #[.int .i64 n] w fun e w' => e = .returned (.string ⟨(Lib.itoa n).toArray⟩) ∧ Below w.heap.size w w' :=
  (Tryd.strconv_Itoa n (by omega) (by omega) w ht).mono fun _ _ ⟨he, k, os, hw⟩ => ⟨he, by subst hw; exact ⟨rfl, rfl, rfl, by simp [Sort.grow], fun j hj => by simp [Sort.grow, Array.getElem?_append, hj]⟩⟩

theorem str_app (l m : List UInt8) : (⟨l.toArray⟩ : ByteArray) ++ ⟨m.toArray⟩ = ⟨(l ++ m).toArray⟩ := by
  apply ByteArray.ext; rw [ByteArray.data_append]; simp
theorem ret_app {l m : List UInt8} : Ending.returned (.string (⟨l.toArray⟩ ++ ⟨m.toArray⟩)) = .returned (.string ⟨(l ++ m).toArray⟩) := by rw [str_app]

set_option maxHeartbeats 1000000 in
theorem print_milli (n N : Int) (w : World) (ht : Tab w) (hN : clampI n (-1000000000000000) 1000000000000000 = N) (hN0 : -1000000000000000 ≤ N) (hN1 : N ≤ 1000000000000000)
    (hm : (N.tmod 1000 != 0) = true) :
    Calls Tryd.prog 13 #[.int .i64 n] w fun e w' => e = .returned (.string ⟨(Lib.itoa N ++ [109]).toArray⟩) ∧ Below w.heap.size w w' := by
  have hlen := Lib.itoa_length_le N (by omega) (by omega)
  go_enter Tryd.func13, Tryd.ntmps13
  go_wp2_with (first | (go_at_call 26; refine (clamp_any _ _ _ _).mono ?_; rintro e w' ⟨rfl, rfl⟩) | (go_at_call 27; refine (itoa_any _ hN0 hN1 _ ht).mono ?_; rintro e w' ⟨rfl, hb⟩))
  go_ret
  exact ⟨ret_app, hb⟩

set_option maxHeartbeats 1000000 in
theorem print_whole (n N q : Int) (w : World) (ht : Tab w) (hN : clampI n (-1000000000000000) 1000000000000000 = N)
    (hm : (N.tmod 1000 != 0) = false) (hq : N.tdiv 1000 = q) (hq0 : -1000000000000000 ≤ q) (hq1 : q ≤ 1000000000000000) :
    Calls Tryd.prog 13 #[.int .i64 n] w fun e w' => e = .returned (.string ⟨(printU q).toArray⟩) ∧ Below w.heap.size w w' := by
  obtain ⟨a0, a1⟩ := tdiv_bd (c := 1000000000) (by decide) hq0 hq1
  obtain ⟨b0, b1⟩ := tdiv_bd (c := 1000000) (by decide) hq0 hq1
  obtain ⟨c0, c1⟩ := tdiv_bd (c := 1000) (by decide) hq0 hq1
  have hlen0 := Lib.itoa_length_le (q.tdiv 1000000000) (by omega) (by omega)
  have hlen1 := Lib.itoa_length_le (q.tdiv 1000000) (by omega) (by omega)
  have hlen2 := Lib.itoa_length_le (q.tdiv 1000) (by omega) (by omega)
  have fin : ∀ L, printU q = L → Hid (printU q = L) := fun L h => Lib.hid h
  by_cases h1 : (q == 0) = true
  · have H := fin [48] (by rw [printU, if_pos h1])
    clear fin
    go_enter Tryd.func13, Tryd.ntmps13
    go_wp2_with (first | (go_at_call 26; refine (clamp_any _ _ _ _).mono ?_; rintro e w' ⟨rfl, rfl⟩))
    go_ret
    exact ⟨by rw [H.out]; rfl, Below.refl _ _⟩
  have h1' : (q == 0) = false := by simpa using h1
  by_cases h2 : (q.tmod 1000000000 == 0) = true
  · have H := fin _ (by rw [printU, if_neg h1, if_pos h2])
    clear fin h1
    go_enter Tryd.func13, Tryd.ntmps13
    go_wp2_with (first | (go_at_call 26; refine (clamp_any _ _ _ _).mono ?_; rintro e w' ⟨rfl, rfl⟩) | (go_at_call 27; refine (itoa_any _ a0 a1 _ ht).mono ?_; rintro e w' ⟨rfl, hb⟩))
    go_ret
    exact ⟨by rw [H.out]; exact ret_app, hb⟩
  have h2' : (q.tmod 1000000000 == 0) = false := by simpa using h2
  by_cases h3 : (q.tmod 1000000 == 0) = true
  · have H := fin _ (by rw [printU, if_neg h1, if_neg h2, if_pos h3])
    clear fin h1 h2
    go_enter Tryd.func13, Tryd.ntmps13
    go_wp2_with (first | (go_at_call 26; refine (clamp_any _ _ _ _).mono ?_; rintro e w' ⟨rfl, rfl⟩) | (go_at_call 27; refine (itoa_any _ b0 b1 _ ht).mono ?_; rintro e w' ⟨rfl, hb⟩))
    go_ret
    exact ⟨by rw [H.out]; exact ret_app, hb⟩
  have h3' : (q.tmod 1000000 == 0) = false := by simpa using h3
  by_cases h4 : (q.tmod 1000 == 0) = true
  · have H := fin _ (by rw [printU, if_neg h1, if_neg h2, if_neg h3, if_pos h4])
    clear fin h1 h2 h3
    go_enter Tryd.func13, Tryd.ntmps13
    go_wp2_with (first | (go_at_call 26; refine (clamp_any _ _ _ _).mono ?_; rintro e w' ⟨rfl, rfl⟩) | (go_at_call 27; refine (itoa_any _ c0 c1 _ ht).mono ?_; rintro e w' ⟨rfl, hb⟩))
    go_ret
    exact ⟨by rw [H.out]; exact ret_app, hb⟩
  have h4' : (q.tmod 1000 == 0) = false := by simpa using h4
  have H := fin _ (by rw [printU, if_neg h1, if_neg h2, if_neg h3, if_neg h4])
  clear fin h1 h2 h3 h4
  go_enter Tryd.func13, Tryd.ntmps13
  go_wp2_with (first | (go_at_call 26; refine (clamp_any _ _ _ _).mono ?_; rintro e w' ⟨rfl, rfl⟩) | (go_at_call 27; refine (itoa_any _ hq0 hq1 _ ht).mono ?_; rintro e w' ⟨rfl, hb⟩))
  go_ret
  exact ⟨by rw [H.out]; rfl, hb⟩

/-- Print answers the canonical text of its clamped argument, for every int. -/
theorem print_any (n : Int) (w : World) (ht : Tab w) :
    Calls Tryd.prog 13 #[.int .i64 n] w fun e w' => e = .returned (.string ⟨(printQ (clampI n (-1000000000000000) 1000000000000000)).toArray⟩) ∧ Below w.heap.size w w' := by
  have hN0 : -1000000000000000 ≤ clampI n (-1000000000000000) 1000000000000000 := clampI_lo
  have hN1 : clampI n (-1000000000000000) 1000000000000000 ≤ 1000000000000000 := clampI_hi (by decide)
  generalize hN : clampI n (-1000000000000000) 1000000000000000 = N at *
  unfold printQ
  by_cases hm : (N.tmod 1000 != 0) = true
  · rw [if_pos hm]; exact print_milli n N w ht hN hN0 hN1 hm
  · rw [if_neg hm]
    obtain ⟨q0, q1⟩ := tdiv_bd (c := 1000) (by decide) hN0 hN1
    exact print_whole n N _ w ht hN (by simpa using hm) rfl q0 q1
end Go.Proofs.YtklpnkdfbfdbnaaDoor
