/- The contract of the examples ('awake'). -/
import Derived.Test.YtklpnkdfbfdbnaaDoorWe
namespace Go.Proofs.YtklpnkdfbfdbnaaDoor
open Go.RowKit

theorem gPow : ∃ g, Tryd.prog.globalNamed "internal/strconv.uint64pow10" = some g := ⟨0, by kernel_rfl⟩
theorem Tab.below {w w' : World} (h : Tab w) (hb : Below w.heap.size w w') : Tab w' := by
  obtain ⟨g, hg⟩ := gPow
  unfold Tab Lib.TabIs World.var? at h ⊢
  rw [hg] at h ⊢
  simp only [Option.bind_some] at h ⊢
  have hlt : g < w.heap.size := by
    rcases Nat.lt_or_ge g w.heap.size with h' | h'
    · exact h'
    · rw [Array.getElem?_eq_none h'] at h; cases h
  rw [hb.block g hlt]
  exact h
theorem next {a b c : World} (h : Below a.heap.size a b) (k : Below b.heap.size b c) : Below a.heap.size a c := h.trans (k.mono h.size)
theorem below_drewN (w : World) (n : Nat) : Below w.heap.size w (w.drewN n) := ⟨rfl, rfl, rfl, Nat.le_refl _, fun _ _ => rfl⟩
theorem Tab.drewN {w : World} (h : Tab w) (n : Nat) : Tab (w.drewN n) := h.below (below_drewN w n)

theorem parseEx1 (w : World) : Calls Tryd.prog 11 #[.string ⟨#[49, 46, 53, 75, 105]⟩] w fun e w' => e = .returned (.tuple #[.int .i64 1536000, .int .i64 0]) ∧ ∃ n, w' = w.drewN n :=
  calls_eq (by decide +kernel) (by decide +kernel) (parse_any [49, 46, 53, 75, 105] w (by decide))
theorem parseEx2 (w : World) : Calls Tryd.prog 11 #[.string ⟨#[49, 48, 48, 49, 71]⟩] w fun e w' => e = .returned (.tuple #[.int .i64 0, .int .i64 5]) ∧ ∃ n, w' = w.drewN n :=
  calls_eq (by decide +kernel) (by decide +kernel) (parse_any [49, 48, 48, 49, 71] w (by decide))
theorem parseEx3 (w : World) : Calls Tryd.prog 11 #[.string ⟨#[48, 49]⟩] w fun e w' => e = .returned (.tuple #[.int .i64 0, .int .i64 2]) ∧ ∃ n, w' = w.drewN n :=
  calls_eq (by decide +kernel) (by decide +kernel) (parse_any [48, 49] w (by decide))
theorem printEx1 (w : World) (ht : Tab w) : Calls Tryd.prog 13 #[.int .i64 250] w fun e w' => e = .returned (.string ⟨#[50, 53, 48, 109]⟩) ∧ Below w.heap.size w w' := by
  have h := print_any 250 w ht
  rwa [show printQ (clampI 250 (-1000000000000000) 1000000000000000) = [50, 53, 48, 109] by decide +kernel] at h
theorem printEx2 (w : World) (ht : Tab w) : Calls Tryd.prog 13 #[.int .i64 3000000] w fun e w' => e = .returned (.string ⟨#[51, 107]⟩) ∧ Below w.heap.size w w' := by
  have h := print_any 3000000 w ht
  rwa [show printQ (clampI 3000000 (-1000000000000000) 1000000000000000) = [51, 107] by decide +kernel] at h
theorem resolveEx1 (w : World) : Calls Tryd.prog 16 #[.agg #[.bool true, .int .i64 25], .int .i64 10, .bool true] w fun e w' => e = .returned (.int .i64 3) ∧ Below w.heap.size w w' := by
  have h := resolve_any true 25 10 true w
  rwa [show resolveI true 25 10 true = 3 by decide +kernel] at h
theorem resolveEx2 (w : World) : Calls Tryd.prog 16 #[.agg #[.bool true, .int .i64 25], .int .i64 10, .bool false] w fun e w' => e = .returned (.int .i64 2) ∧ Below w.heap.size w w' := by
  have h := resolve_any true 25 10 false w
  rwa [show resolveI true 25 10 false = 2 by decide +kernel] at h

set_option maxHeartbeats 1000000 in
theorem awake_any (w : World) (ht : Tab w) : Calls Tryd.prog 10 #[] w fun e w' => e = .returned (.bool true) ∧ Below w.heap.size w w' := by
  go_enter Tryd.func10, Tryd.ntmps10
  go_wp2_with fail
  refine (parseEx1 _).mono ?_
  rintro e w' ⟨rfl, n1, rfl⟩
  go_wp2_with fail
  refine (parseEx2 _).mono ?_
  rintro e w' ⟨rfl, n2, rfl⟩
  go_wp2_with fail
  refine (parseEx3 _).mono ?_
  rintro e w' ⟨rfl, n3, rfl⟩
  go_wp2_with fail
  refine (printEx1 _ (ht.drewN _)).mono ?_
  rintro e w1 ⟨rfl, b1⟩
  go_wp2_with fail
  refine (printEx2 _ ((ht.drewN _).below b1)).mono ?_
  rintro e w2 ⟨rfl, b2⟩
  go_wp2_with fail
  refine (resolveEx1 _).mono ?_
  rintro e w3 ⟨rfl, b3⟩
  go_wp2_with fail
  refine (resolveEx2 _).mono ?_
  rintro e w4 ⟨rfl, b4⟩
  go_wp2_with fail
  go_ret
  exact ⟨rfl, next (next (next (next (below_drewN w _) b1) b2) b3) b4⟩
end Go.Proofs.YtklpnkdfbfdbnaaDoor
