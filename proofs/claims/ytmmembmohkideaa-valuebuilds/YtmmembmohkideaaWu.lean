/- The contract of awake: the chapter's examples hold. -/
import Derived.Test.YtmmembmohkideaaWt
namespace Go.Proofs.Ytmmembmohkideaa
open Go.RowKit Go.Sort Go.Proofs.LawFrame

set_option maxHeartbeats 2000000 in
set_option maxRecDepth 4000 in
theorem awake_any (w : World) : Calls Try.prog 10 #[] w fun e w' => e = .returned (.bool true) ∧ Below w.heap.size w w' := by
  go_enter Try.func10, Try.ntmps10
  go_wp2_with fail
  refine (int_any 1 _).mono ?_
  rintro e w1 ⟨rfl, b1⟩
  go_wp2_with fail
  refine (int_any 2 _).mono ?_
  rintro e w2 ⟨rfl, b2⟩
  go_wp2_with fail
  refine (int_any 3 _).mono ?_
  rintro e w3 ⟨rfl, b3⟩
  have hb3 := below_all (below_all b1 b2) b3
  clear b1 b2 b3
  go_wp2_with fail
  refine (map_m w3).mono ?_
  rintro e w4 ⟨b, rfl, ob, b4⟩
  have hb4 := below_all hb3 b4
  clear hb3 b4
  have om : Own (w4.alloc (.cells #[.int .i64 5, .int .i64 0, sV [], .slice none 0 0, .slice (some ⟨b, 0, none⟩) 2 2] 25)) w4.heap.size [.int .i64 5, .int .i64 0, sV [], .slice none 0 0, .slice (some ⟨b, 0, none⟩) 2 2] 25 := Own.new _ _ _
  have ob' := ob.alloc (.cells #[.int .i64 5, .int .i64 0, sV [], .slice none 0 0, .slice (some ⟨b, 0, none⟩) 2 2] 25)
  have hbm := below_all hb4 (below_alloc w4 (.cells #[.int .i64 5, .int .i64 0, sV [], .slice none 0 0, .slice (some ⟨b, 0, none⟩) 2 2] 25))
  clear ob hb4
  go_wp2_with fail
  generalize w4.alloc (.cells #[.int .i64 5, .int .i64 0, sV [], .slice none 0 0, .slice (some ⟨b, 0, none⟩) 2 2] 25) = W at *
  refine (get_m ob').mono ?_
  rintro e w5 ⟨rfl, b5⟩
  have om5 := (om.all b5).alloc (.cells #[.int .i64 2, .int .i64 3, sV [], .slice none 0 0, .slice none 0 0] 25)
  have ob5 := (ob'.all b5).alloc (.cells #[.int .i64 2, .int .i64 3, sV [], .slice none 0 0, .slice none 0 0] 25)
  have hb5 := below_all (below_all hbm b5) (below_alloc w5 (.cells #[.int .i64 2, .int .i64 3, sV [], .slice none 0 0, .slice none 0 0] 25))
  have ox5 : Own (w5.alloc (.cells #[.int .i64 2, .int .i64 3, sV [], .slice none 0 0, .slice none 0 0] 25)) w5.heap.size [.int .i64 2, .int .i64 3, sV [], .slice none 0 0, .slice none 0 0] 25 := Own.new _ _ _
  clear hbm om ob' b5
  have m0 := om5.cell (i := 0) rfl
  have m1 := om5.cell (i := 1) rfl
  have m2 := om5.cell (i := 2) rfl
  have m3 := om5.cell (i := 3) rfl
  have m4 := om5.cell (i := 4) rfl
  have n0 := ob5.cell (i := 0) rfl
  have HO := Lib.hid (And.intro hb5 (And.intro om5 (And.intro ob5 ox5)))
  clear hb5 om5 ox5 ob5
  go_wp2_with fail
  clear m0 m1 m2 m3 m4 n0
  refine (size_m HO.out.2.2.1).mono ?_
  rintro e w6 ⟨rfl, b6⟩
  have HO6 := Lib.hid (And.intro (below_all HO.out.1 b6) (And.intro (HO.out.2.1.all b6) (And.intro (HO.out.2.2.1.all b6) (HO.out.2.2.2.all b6))))
  clear HO b6
  have HO := HO6
  clear HO6
  have m0 := HO.out.2.1.cell (i := 0) rfl
  have m1 := HO.out.2.1.cell (i := 1) rfl
  have m2 := HO.out.2.1.cell (i := 2) rfl
  have m3 := HO.out.2.1.cell (i := 3) rfl
  have m4 := HO.out.2.1.cell (i := 4) rfl
  go_wp2_with fail
  refine (depth_m HO.out.2.2.1).mono ?_
  rintro e w7 ⟨rfl, b7⟩
  have HO7 := Lib.hid (And.intro (below_all HO.out.1 b7) (And.intro (HO.out.2.1.all b7) (And.intro (HO.out.2.2.1.all b7) (HO.out.2.2.2.all b7))))
  clear HO b7
  have HO := HO7
  clear HO7
  clear m0 m1 m2 m3 m4
  have m0 := HO.out.2.1.cell (i := 0) rfl
  have m1 := HO.out.2.1.cell (i := 1) rfl
  have m2 := HO.out.2.1.cell (i := 2) rfl
  have m3 := HO.out.2.1.cell (i := 3) rfl
  have m4 := HO.out.2.1.cell (i := 4) rfl
  go_wp2_with fail
  refine (valid_m HO.out.2.2.1).mono ?_
  rintro e w8 ⟨rfl, b8⟩
  have HO8 := Lib.hid (And.intro (below_all HO.out.1 b8) (And.intro (HO.out.2.1.all b8) (And.intro (HO.out.2.2.1.all b8) (HO.out.2.2.2.all b8))))
  clear HO b8
  have HO := HO8
  clear HO8
  go_wp2_with fail
  refine (int_any (-1) _).mono ?_
  rintro e w9 ⟨rfl, b9⟩
  have HO9 := Lib.hid (And.intro (below_all HO.out.1 b9) (And.intro (HO.out.2.1.all b9) (And.intro (HO.out.2.2.1.all b9) (HO.out.2.2.2.all b9))))
  clear HO b9
  have HO := HO9
  clear HO9
  go_wp2_with fail
  refine (int_any 0 _).mono ?_
  rintro e w10 ⟨rfl, b10⟩
  have HO10 := Lib.hid (And.intro (below_all HO.out.1 b10) (And.intro (HO.out.2.1.all b10) (And.intro (HO.out.2.2.1.all b10) (HO.out.2.2.2.all b10))))
  clear HO b10
  have HO := HO10
  clear HO10
  go_wp2_with fail
  refine (compare1 _).mono ?_
  rintro e w11 ⟨rfl, b11⟩
  have HO11 := Lib.hid (And.intro (below_all HO.out.1 b11) (And.intro (HO.out.2.1.all b11) (And.intro (HO.out.2.2.1.all b11) (HO.out.2.2.2.all b11))))
  clear HO b11
  have HO := HO11
  clear HO11
  go_wp2_with fail
  refine (string_any [] _).mono ?_
  rintro e w12 ⟨rfl, b12⟩
  have HO12 := Lib.hid (And.intro (below_all HO.out.1 b12) (And.intro (HO.out.2.1.all b12) (And.intro (HO.out.2.2.1.all b12) (HO.out.2.2.2.all b12))))
  clear HO b12
  have HO := HO12
  clear HO12
  go_wp2_with fail
  refine (int_any 5 _).mono ?_
  rintro e w13 ⟨rfl, b13⟩
  have HO13 := Lib.hid (And.intro (below_all HO.out.1 b13) (And.intro (HO.out.2.1.all b13) (And.intro (HO.out.2.2.1.all b13) (HO.out.2.2.2.all b13))))
  clear HO b13
  have HO := HO13
  clear HO13
  go_wp2_with fail
  refine (compare2 _).mono ?_
  rintro e w14 ⟨rfl, b14⟩
  have HO14 := Lib.hid (And.intro (below_all HO.out.1 b14) (And.intro (HO.out.2.1.all b14) (And.intro (HO.out.2.2.1.all b14) (HO.out.2.2.2.all b14))))
  clear HO b14
  have HO := HO14
  clear HO14
  go_wp2_with fail
  refine (null_any _).mono ?_
  rintro e w15 ⟨rfl, b15⟩
  have HO15 := Lib.hid (And.intro (below_all HO.out.1 b15) (And.intro (HO.out.2.1.all b15) (And.intro (HO.out.2.2.1.all b15) (HO.out.2.2.2.all b15))))
  clear HO b15
  have HO := HO15
  clear HO15
  go_wp2_with fail
  refine (equal3 _).mono ?_
  rintro e w16 ⟨rfl, b16⟩
  have HO16 := Lib.hid (And.intro (below_all HO.out.1 b16) (And.intro (HO.out.2.1.all b16) (And.intro (HO.out.2.2.1.all b16) (HO.out.2.2.2.all b16))))
  clear HO b16
  have HO := HO16
  clear HO16
  go_wp2_with fail
  refine (string_any [9] _).mono ?_
  rintro e w17 ⟨rfl, b17⟩
  have HO17 := Lib.hid (And.intro (below_all HO.out.1 b17) (And.intro (HO.out.2.1.all b17) (And.intro (HO.out.2.2.1.all b17) (HO.out.2.2.2.all b17))))
  clear HO b17
  have HO := HO17
  clear HO17
  go_wp2_with fail
  refine (valid_tab _).mono ?_
  rintro e w18 ⟨rfl, b18⟩
  have HO18 := Lib.hid (And.intro (below_all HO.out.1 b18) (And.intro (HO.out.2.1.all b18) (And.intro (HO.out.2.2.1.all b18) (HO.out.2.2.2.all b18))))
  clear HO b18
  have HO := HO18
  clear HO18
  go_wp2_with fail
  refine (true_any _).mono ?_
  rintro e w19 ⟨rfl, b19⟩
  have HO19 := Lib.hid (And.intro (below_all HO.out.1 b19) (And.intro (HO.out.2.1.all b19) (And.intro (HO.out.2.2.1.all b19) (HO.out.2.2.2.all b19))))
  clear HO b19
  have HO := HO19
  clear HO19
  have hfd : ∀ w : World, (Instr.field 25 (.agg #[.int .i64 1, .int .i64 1, .string ⟨#[]⟩, .slice none 0 0, .slice none 0 0]) 1).run Try.prog w = .ok (.int .i64 1) w := fun _ => by kernel_rfl
  go_wp2
  go_ret
  exact ⟨rfl, HO.out.1⟩
end Go.Proofs.Ytmmembmohkideaa
