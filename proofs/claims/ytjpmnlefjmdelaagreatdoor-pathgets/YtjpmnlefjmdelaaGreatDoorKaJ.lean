/- The parser's looks at one byte, and its failures. The parser's peek. -/
import Derived.Test.YtjpmnlefjmdelaaGreatDoorWmJ
import Derived.WalkLawsBesides
import Derived.BigRegion
import Derived.Deep.DeepCutAuto
import Derived.Deep.CutBlock
import Derived.Deep.LoopGhost
set_option linter.unusedSimpArgs false
set_option linter.unusedVariables false
namespace Go.Proofs.YtjpmnlefjmdelaaGreatDoor
open Go.RowKit Go.Sort Go.Proofs.LawFrame

def blk (c : UInt8) : Bool := decide (c.toNat = 32) || decide (c.toNat = 9) || decide (c.toNat = 10) || decide (c.toNat = 13)
def dig (c : UInt8) : Bool := decide (48 ≤ c.toNat) && decide (c.toNat ≤ 57)
def prt (c : UInt8) : Bool := decide (32 ≤ c.toNat) && decide (c.toNat ≤ 126)
def bgn (c : UInt8) : Bool := dig c || decide (c.toNat = 45) || decide (c.toNat = 110) || decide (c.toNat = 116) || decide (c.toNat = 102) || decide (c.toNat = 34) || decide (c.toNat = 91) || decide (c.toNat = 123)

set_option maxHeartbeats 1000000 in
theorem isBlank_any (c : UInt8) (w : World) : Calls Tryz.prog 140 #[.int .u8 c.toNat] w fun e w' => e = .returned (.bool (blk c)) ∧ w = w' := by
  have hm256 : c.toNat < 256 := c.toNat_lt
  go_enter Tryz.func140, Tryz.ntmps140
  go_wp2
  all_goals
    go_ret
    exact ⟨ret_bool (by unfold blk; rw [Bool.eq_iff_iff]; simp; omega), rfl⟩
set_option maxHeartbeats 1000000 in
theorem isDigit_any (c : UInt8) (w : World) : Calls Tryz.prog 165 #[.int .u8 c.toNat] w fun e w' => e = .returned (.bool (dig c)) ∧ w = w' := by
  have hm256 : c.toNat < 256 := c.toNat_lt
  go_enter Tryz.func165, Tryz.ntmps165
  go_wp2
  all_goals
    go_ret
    exact ⟨ret_bool (by unfold dig; rw [Bool.eq_iff_iff]; simp; omega), rfl⟩
set_option maxHeartbeats 1000000 in
theorem isPrintable_any (c : UInt8) (w : World) : Calls Tryz.prog 168 #[.int .u8 c.toNat] w fun e w' => e = .returned (.bool (prt c)) ∧ w = w' := by
  have hm256 : c.toNat < 256 := c.toNat_lt
  go_enter Tryz.func168, Tryz.ntmps168
  go_wp2
  all_goals
    go_ret
    exact ⟨ret_bool (by unfold prt; rw [Bool.eq_iff_iff]; simp; omega), rfl⟩
set_option maxHeartbeats 1000000 in
theorem jNameByte_any (c : UInt8) (w : World) : Calls Tryz.prog 209 #[.int .u8 c.toNat] w fun e w' => e = .returned (.bool (nmByte c)) ∧ w = w' := by
  have hm256 : c.toNat < 256 := c.toNat_lt
  go_enter Tryz.func209, Tryz.ntmps209
  go_wp2
  all_goals
    go_ret
    exact ⟨ret_bool (by unfold nmByte; rw [Bool.eq_iff_iff]; simp; omega), rfl⟩

/-- the parser panics with the offset and the code -/
abbrev failE (at_ code : Int) : Ending := .panicked [{ v := .iface 69 (.agg #[.int .i64 at_, .int .i64 code]), recovered := false }]
set_option maxHeartbeats 1000000 in
theorem failAt_any (pb : Nat) (i code : Int) (w : World) : Calls Tryz.prog 141 #[.pointer (some ⟨pb, 0, none⟩), .int .i64 i, .int .i64 code] w fun e w' => e = failE i code ∧ w = w' := by
  go_enter Tryz.func141, Tryz.ntmps141
  go_wp2
  exact ⟨rfl, rfl, rfl⟩
set_option maxHeartbeats 1000000 in
theorem fail_any (pb : Nat) (s : Str) (i n code : Int) (w : World) (o : Own w pb [sV s, .int .i64 i, .int .i64 n] 72) : Calls Tryz.prog 94 #[.pointer (some ⟨pb, 0, none⟩), .int .i64 code] w fun e w' => e = failE i code ∧ w = w' := by
  have c1 := o.cell (i := 1) rfl
  go_enter Tryz.func94, Tryz.ntmps94
  go_wp2_with fail
  refine (failAt_any pb i code w).mono ?_
  rintro e w' ⟨rfl, rfl⟩
  go_wp2
  exact ⟨rfl, rfl, rfl⟩
end Go.Proofs.YtjpmnlefjmdelaaGreatDoor
namespace Go.Proofs.YtjpmnlefjmdelaaGreatDoor
open Go.RowKit Go.Sort Go.Proofs.LawFrame

theorem drop_byte {s : Str} {i : Nat} {c : UInt8} {r : Str} (h : s.drop i = c :: r) : ∃ hi : i < s.length, s[i] = c ∧ s.drop (i + 1) = r ∧ s.length = i + (r.length + 1) := by
  have hi : i < s.length := by
    rcases Nat.lt_or_ge i s.length with hi | hi
    · exact hi
    · rw [List.drop_of_length_le hi] at h; cases h
  have h2 := List.drop_eq_getElem_cons hi
  rw [h] at h2
  have hl := congrArg List.length h
  rw [List.length_drop, List.length_cons] at hl
  simp only [List.cons.injEq] at h2
  exact ⟨hi, h2.1.symm, h2.2.symm, by omega⟩
theorem drop_end {s : Str} {i : Nat} (h : s.drop i = []) (hi : i ≤ s.length) : i = s.length := by
  have hl := congrArg List.length h
  rw [List.length_drop] at hl
  simp at hl; omega

set_option maxHeartbeats 1000000 in
theorem peek_byte (pb : Nat) (s : Str) (i : Nat) (n : Int) (c : UInt8) (r : Str) (w : World) (hl : s.length ≤ 20000) (o : Own w pb [sV s, .int .i64 i, .int .i64 n] 72) (h : s.drop i = c :: r) :
    Calls Tryz.prog 164 #[.pointer (some ⟨pb, 0, none⟩)] w fun e w' => e = .returned (.int .u8 c.toNat) ∧ Below w.heap.size w w' := by
  obtain ⟨hi, hc, -, -⟩ := drop_byte h
  have c0 := o.cell (i := 0) rfl
  have c1 := o.cell (i := 1) rfl
  have hne : ((i : Int) == (s.length : Int)) = false := by rw [beq_eq_false_iff_ne]; omega
  have hb : ((⟨s.toArray⟩ : ByteArray)[i]'hi).toNat = c.toNat := by rw [← hc]; rfl
  clear h hc o
  go_enter Tryz.func164, Tryz.ntmps164
  go_upto_region 1 with (fail)
  go_region
  go_wp2
  go_region
  go_wp2
  go_ret
  exact ⟨rfl, ((Below.refl _ _).drew).drew⟩
set_option maxHeartbeats 1000000 in
theorem peek_end (pb : Nat) (s : Str) (i : Nat) (n : Int) (w : World) (hl : s.length ≤ 20000) (o : Own w pb [sV s, .int .i64 i, .int .i64 n] 72) (h : i = s.length) :
    Calls Tryz.prog 164 #[.pointer (some ⟨pb, 0, none⟩)] w fun e w' => e = failE i 3 ∧ Below w.heap.size w w' := by
  have c0 := o.cell (i := 0) rfl
  have c1 := o.cell (i := 1) rfl
  subst h
  go_enter Tryz.func164, Tryz.ntmps164
  go_upto_region 1 with (fail)
  go_region
  go_wp2_with fail
  refine (fail_any pb s s.length n 3 _ o.drew).mono ?_
  rintro e w' ⟨rfl, rfl⟩
  go_wp2
  exact ⟨rfl, rfl, (Below.refl _ _).drew⟩
end Go.Proofs.YtjpmnlefjmdelaaGreatDoor
