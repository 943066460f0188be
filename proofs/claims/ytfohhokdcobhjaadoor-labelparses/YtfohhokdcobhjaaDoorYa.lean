/- The contract of lives: the chapter's examples. -/
import Derived.Test.YtfohhokdcobhjaaDoorXh
import Derived.Test.YtfohhokdcobhjaaDoorWv
namespace Go.Proofs.YtfohhokdcobhjaaDoor
open Go.RowKit Go.Sort Go.Proofs.LawFrame

def ex1 : Str := [101, 110, 118, 32, 105, 110, 32, 40, 98, 44, 97, 41, 44, 32, 33, 120]
def ex2 : Str := [101, 110, 118, 32, 105, 110, 32, 40, 97, 44, 98, 41, 44, 32, 33, 120]
def exS : List Req := [⟨[101, 110, 118], 1, [[97], [98]]⟩, ⟨[120], 4, []⟩]
theorem ex_parse : parseE ex1 = 0 ∧ parseS ex1 = exS := ⟨by kernel_rfl, by kernel_rfl⟩
theorem ex_print : printE exS = 0 ∧ printS exS = ex2 := ⟨by kernel_rfl, by kernel_rfl⟩
theorem ex_bd : SBd exS := by
  intro r hr
  simp only [exS, List.mem_cons, List.not_mem_nil, or_false] at hr
  rcases hr with rfl | rfl
  · refine ⟨by decide, fun x hx => ?_⟩
    simp at hx; rcases hx with rfl | rfl <;> decide
  · refine ⟨by decide, fun x hx => by cases hx⟩
def exL : List Lab := [([97], [49]), ([99], [51])]
def exM : List Lab := [([97], [49]), ([98], [50]), ([99], [51])]
theorem ex_with : withL exL [98] [50] = exM := by kernel_rfl
theorem ex_get : getV exM [98] = [50] ∧ getB exM [98] = true := ⟨by kernel_rfl, by kernel_rfl⟩
theorem ex_syn : parseE [97, 44] = 2 := by kernel_rfl
theorem ex_valid : labsOk exM = true := by kernel_rfl
theorem ex_lbd : LBd exM := by
  intro p hp
  simp only [exM, List.mem_cons, List.not_mem_nil, or_false] at hp
  rcases hp with rfl | rfl | rfl <;> decide
theorem ex_match : matchesS exS [([101, 110, 118], [97])] = true := by kernel_rfl

set_option maxRecDepth 4000 in
set_option maxHeartbeats 8000000 in
theorem lives_any (w : World) : Calls Tryd.prog 12 #[] w fun e w' => e = .returned (.bool true) ∧ Below w.heap.size w w' := by
  have C1 := Lib.hid (parse_any ex1 w (by decide))
  rw [ex_parse.1, ex_parse.2] at C1
  go_enter Tryd.func12, Tryd.ntmps12
  go_wp2_with fail
  refine C1.out.mono ?_
  rintro e W1 ⟨sv, rfl, hR1, b1⟩
  have C2 := Lib.hid (print_any sv exS W1 hR1 ex_bd)
  rw [ex_print.1, ex_print.2] at C2
  go_wp2_with fail
  refine C2.out.mono ?_
  rintro e W2 ⟨rfl, b2⟩
  have b12 := below_all b1 b2
  have hR2 := hR1.all b2
  have o3 := Own.new W2 [sV [97], sV [49], sV [99], sV [51]] 45
  have hL : Labs (W2.alloc (.cells #[sV [97], sV [49], sV [99], sV [51]] 45)) (.slice (some ⟨W2.heap.size, 0, none⟩) 2 2) exL := labs_own (base := 0) (n := 2) (own_mk o3 (Nat.zero_le _) (Nat.le_refl _) (by unfold maxLen; decide) rfl rfl) rfl
  have b3 := below_alloc W2 (.cells #[sV [97], sV [49], sV [99], sV [51]] 45)
  have C3 := Lib.hid (with_any _ exL [98] [50] _ hL (by decide))
  rw [ex_with] at C3
  clear C1 C2 hR1 b1 b2 o3 hL
  go_wp2_with fail
  refine C3.out.mono ?_
  rintro e W3 ⟨rv, rfl, hM3, b3'⟩
  have b23 := below_all b3 b3'
  have hR3 := hR2.all b23
  have b13 := below_all b12 b23
  clear C3 b3 b3' b23 hR2 b12
  have C4 := Lib.hid (get_any rv exM [98] W3 hM3)
  rw [ex_get.1, ex_get.2] at C4
  go_wp2_with fail
  refine C4.out.mono ?_
  rintro e W4 ⟨rfl, b4⟩
  have hR4 := hR3.all b4
  have hM4 : Labs W4 rv exM := hM3.all b4
  have b14 := below_all b13 b4
  clear C4 b4 hR3 hM3 b13
  have C5 := Lib.hid (parse_any [97, 44] W4 (by decide))
  rw [ex_syn] at C5
  go_wp2_with fail
  refine C5.out.mono ?_
  rintro e W5 ⟨sv2, rfl, -, b5⟩
  have hR5 := hR4.all b5
  have hM5 : Labs W5 rv exM := hM4.all b5
  have b15 := below_all b14 b5
  clear C5 b5 hR4 hM4 b14
  obtain ⟨ra, rc, rfl, -, -, -⟩ := hM5.out
  have C6 := Lib.hid (valid_any _ exM W5 hM5 ex_lbd)
  rw [ex_valid] at C6
  have C6' : Hid (Calls Tryd.prog 13 #[.slice ra 3 rc] W5 fun e w' => e = .returned (.bool true) ∧ Below W5.heap.size W5 w') := C6
  clear C6
  go_wp2_with fail
  refine C6'.out.mono ?_
  rintro e W6 ⟨rfl, b6⟩
  have hR6 := hR5.all b6
  have b16 := below_all b15 b6
  clear C6' b6 hR5 b15 hM5
  have o7 := Own.new W6 [sV [101, 110, 118], sV [97]] 45
  have hL7 : Labs (W6.alloc (.cells #[sV [101, 110, 118], sV [97]] 45)) (.slice (some ⟨W6.heap.size, 0, none⟩) 1 1) [([101, 110, 118], [97])] := labs_own (base := 0) (n := 1) (own_mk o7 (Nat.zero_le _) (Nat.le_refl _) (by unfold maxLen; decide) rfl rfl) rfl
  have b7 := below_alloc W6 (.cells #[sV [101, 110, 118], sV [97]] 45)
  have C7 := Lib.hid (matches_any sv _ exS [([101, 110, 118], [97])] _ (hR6.all b7) hL7)
  rw [ex_match] at C7
  go_wp2_with fail
  refine C7.out.mono ?_
  rintro e W7 ⟨rfl, b7'⟩
  go_wp2
  go_ret
  exact ⟨rfl, below_all b16 (below_all b7 b7')⟩
end Go.Proofs.YtfohhokdcobhjaaDoor
