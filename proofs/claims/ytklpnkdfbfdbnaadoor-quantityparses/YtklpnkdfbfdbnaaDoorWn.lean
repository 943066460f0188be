/- The reference's Parse; the walk of the law on Parse. -/
import Derived.Test.YtklpnkdfbfdbnaaDoorWm
namespace Go.Proofs.YtklpnkdfbfdbnaaDoor
open Go.RowKit

set_option maxHeartbeats 1000000 in
theorem rparse_minus (l r : List UInt8) (w : World) (hl : l.length ≤ 9223372036854775807) (hp : 0 < l.length) (h45 : ((((⟨l.toArray⟩ : ByteArray)[0]'hp).toNat : Int) == 45) = true)
    (x1 : (⟨l.toArray⟩ : ByteArray).extract 1 l.length = ⟨r.toArray⟩) (a e0 : Int) (ha0 : 0 ≤ a) (ha1 : a ≤ 1000000000000000)
    (CU : Hid (∀ w, Calls Tryd.prog 25 #[.string ⟨r.toArray⟩] w fun e w' => e = .returned (.tuple #[.int .i64 a, .int .i64 e0]) ∧ ∃ n, w' = w.drewN n)) :
    Calls Tryd.prog 12 #[.string ⟨l.toArray⟩] w fun e w' => e = .returned (.tuple #[.int .i64 (-a), .int .i64 e0]) ∧ ∃ n, w' = w.drewN n := by
  go_enter Tryd.func12, Tryd.ntmps12
  go_wp2_with (go_at_call 25; refine (CU.out _).mono ?_; rintro e w' ⟨rfl, n, rfl⟩)
  go_ret2
  exact ⟨rfl, _, rfl⟩
set_option maxHeartbeats 1000000 in
theorem rparse_plain (l : List UInt8) (w : World) (hl : l.length ≤ 9223372036854775807) (h45 : l.length ≤ 0 ∨ ∃ hp : 0 < l.length, ((((⟨l.toArray⟩ : ByteArray)[0]'hp).toNat : Int) == 45) = false)
    (a e0 : Int) (CU : Hid (∀ w, Calls Tryd.prog 25 #[.string ⟨l.toArray⟩] w fun e w' => e = .returned (.tuple #[.int .i64 a, .int .i64 e0]) ∧ ∃ n, w' = w.drewN n)) :
    Calls Tryd.prog 12 #[.string ⟨l.toArray⟩] w fun e w' => e = .returned (.tuple #[.int .i64 a, .int .i64 e0]) ∧ ∃ n, w' = w.drewN n := by
  rcases h45 with h45 | ⟨hp, h45⟩
  all_goals
    go_enter Tryd.func12, Tryd.ntmps12
    go_wp2_with (go_at_call 25; refine (CU.out _).mono ?_; rintro e w' ⟨rfl, n, rfl⟩)
    go_ret2
    exact ⟨rfl, _, rfl⟩
theorem head_minus' {c : UInt8} {t : List UInt8} : (((c.toNat : Int)) == 45) = Lib.hasPrefix (c :: t) [45] := by
  have : ((c.toNat : Int) = 45) ↔ c = 45 := ⟨fun h => UInt8.toNat_inj.1 (by simpa using (by omega : c.toNat = 45)), fun h => by rw [h]; rfl⟩
  have e : Lib.hasPrefix (c :: t) [45] = (45 == c) := by simp [Lib.hasPrefix, List.isPrefixOf]
  rw [e, Bool.eq_iff_iff]
  simp only [beq_iff_eq]
  rw [this]
  exact eq_comm
/-- the reference's Parse, for every string -/
theorem rparse_any (l : List UInt8) (w : World) (hl : l.length ≤ 9223372036854775807) :
    Calls Tryd.prog 12 #[.string ⟨l.toArray⟩] w fun e w' => e = .returned (.tuple #[.int .i64 (parseQ l).1, .int .i64 (parseQ l).2]) ∧ ∃ n, w' = w.drewN n := by
  by_cases hm : Lib.hasPrefix l [45] = true
  · cases l with
    | nil => cases hm
    | cons c r =>
      have hc : c = 45 := by
        have h1 : (c.toNat : Int) = 45 := beq_iff_eq.1 (head_minus'.trans hm)
        have h2 : c.toNat = (45 : UInt8).toNat := by show c.toNat = 45; omega
        exact UInt8.toNat_inj.1 h2
      subst hc
      have hn := parseQ_minus r
      have rg := parseU_range r
      have hr : r.length ≤ 9223372036854775807 := by simp only [List.length_cons] at hl; omega
      exact calls_eq (by rw [hn]) (by rw [hn]) (rparse_minus (45 :: r) r w hl (Nat.succ_pos _) rfl (by rw [ext_drop]; rfl) _ _ rg.1 rg.2 (Lib.hid fun w => runsigned_any r w hr))
  · have hm' : Lib.hasPrefix l [45] = false := by simpa using hm
    have hn := parseQ_plain hm'
    refine calls_eq (by rw [hn]) (by rw [hn]) (rparse_plain l w hl ?_ _ _ (Lib.hid fun w => runsigned_any l w hl))
    cases l with
    | nil => exact Or.inl (Nat.le_refl _)
    | cons c r => exact Or.inr ⟨Nat.succ_pos _, head_minus'.trans hm'⟩

set_option maxHeartbeats 1000000 in
theorem parses_long (l : List UInt8) (w : World) (ht : Tab w) (hl : l.length ≤ 9223372036854775807) (h : 100 < l.length) : Calls Tryd.prog 3 #[.string ⟨l.toArray⟩] w fun e w' => e = .returned (.bool true) ∧ Below w.heap.size w w' := by
  go_enter Tryd.func3, Tryd.ntmps3
  go_wp2_with fail
  refine (awake_any _ ht).mono ?_
  rintro e w3 ⟨rfl, b3⟩
  go_wp2_with fail
  go_ret
  exact ⟨rfl, b3⟩
set_option maxHeartbeats 1000000 in
theorem parses_short (l : List UInt8) (w : World) (ht : Tab w) (h : ¬ 100 < l.length) (a e0 : Int)
    (C1 : Hid (∀ w, Calls Tryd.prog 11 #[.string ⟨l.toArray⟩] w fun e w' => e = .returned (.tuple #[.int .i64 a, .int .i64 e0]) ∧ ∃ n, w' = w.drewN n))
    (C2 : Hid (∀ w, Calls Tryd.prog 12 #[.string ⟨l.toArray⟩] w fun e w' => e = .returned (.tuple #[.int .i64 a, .int .i64 e0]) ∧ ∃ n, w' = w.drewN n)) :
    Calls Tryd.prog 3 #[.string ⟨l.toArray⟩] w fun e w' => e = .returned (.bool true) ∧ Below w.heap.size w w' := by
  go_enter Tryd.func3, Tryd.ntmps3
  go_wp2_with fail
  refine (C1.out _).mono ?_
  rintro e w1 ⟨rfl, n1, rfl⟩
  go_wp2_with fail
  refine (C2.out _).mono ?_
  rintro e w2 ⟨rfl, n2, rfl⟩
  go_wp2_with fail
  refine (awake_any _ (ht.drewN _)).mono ?_
  rintro e w3 ⟨rfl, b3⟩
  go_wp2_with fail
  go_ret
  exact ⟨rfl, next (below_drewN w _) b3⟩
theorem parses_walk (l : List UInt8) (w : World) (ht : Tab w) (hl : l.length ≤ 9223372036854775807) : Calls Tryd.prog 3 #[.string ⟨l.toArray⟩] w fun e w' => e = .returned (.bool true) ∧ Below w.heap.size w w' := by
  by_cases h : 100 < l.length
  · exact parses_long l w ht hl h
  · exact parses_short l w ht h _ _ (Lib.hid fun w => parse_any l w hl) (Lib.hid fun w => rparse_any l w hl)
end Go.Proofs.YtklpnkdfbfdbnaaDoor
