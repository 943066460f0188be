/- The laws JsonRoundTrip and JsonCanonical, walked. -/
import Derived.Test.YtjpmnlefjmdelaaGreatDoorJd
import Derived.Test.YtjpmnlefjmdelaaGreatDoorNk
namespace Go.Proofs.YtjpmnlefjmdelaaGreatDoor
open Go.RowKit Go.Sort Go.Proofs.LawFrame

theorem parse_is {s : Str} {t : T} {a b : Int} (h : parseR s = (t, a, b)) (w : World) : Calls Tryz.prog 18 #[sV s] w fun e w' => ∃ c : VC, e = .returned (.tuple #[c.val, .int .i64 a, .int .i64 b]) ∧ Below w.heap.size w w' ∧ Is w' c t :=
  (parse_any s w).mono fun e w' hq => by
    obtain ⟨c, he, hb, hI⟩ := hq.out
    rw [h] at he hI
    exact ⟨c, he, hb, hI.is⟩
theorem blanks_str (P : Str) : (⟨#[32, 9]⟩ : ByteArray) ++ ⟨P.toArray⟩ ++ ⟨#[13, 10]⟩ = ⟨([32, 9] ++ P ++ [13, 10]).toArray⟩ := by
  rw [show (⟨#[32, 9]⟩ : ByteArray) ++ ⟨P.toArray⟩ = ⟨([32, 9] ++ P).toArray⟩ from strs_app [32, 9] P]
  exact strs_app ([32, 9] ++ P) [13, 10]

set_option maxHeartbeats 8000000 in
set_option maxRecDepth 4000 in
theorem roundTrip_walk (c : VC) (t : T) (w : World) (hI : Is w c t) (ht : Tab w) :
    Calls Tryz.prog 5 #[c.val] w fun e w' => e = .returned (.bool true) ∧ Below w.heap.size w w' := by
  have hbA := below_alloc w (.cells #[.int .i64 c.k, .int .i64 c.n, sV c.s, .slice c.la c.ln c.lc, .slice c.fa c.fn c.fc] 25)
  have oN := Own.new w [.int .i64 c.k, .int .i64 c.n, sV c.s, .slice c.la c.ln c.lc, .slice c.fa c.fn c.fc] 25
  have HSA := Lib.hid (And.intro hbA (And.intro oN (And.intro (hI.all hbA) (ht.below hbA))))
  clear hbA oN hI ht
  go_enter Tryz.func5, Tryz.ntmps5
  go_upto_region 1 with (fail)
  change Code.wp Tryz.prog _ _ _ (w.alloc (.cells #[.int .i64 c.k, .int .i64 c.n, sV c.s, .slice c.la c.ln c.lc, .slice c.fa c.fn c.fc] 25))
  generalize w.alloc (.cells #[.int .i64 c.k, .int .i64 c.n, sV c.s, .slice c.la c.ln c.lc, .slice c.fa c.fn c.fc] 25) = V at *
  have a0 := HSA.out.2.1.cell (i := 0) rfl
  have a1 := HSA.out.2.1.cell (i := 1) rfl
  have a2 := HSA.out.2.1.cell (i := 2) rfl
  have a3 := HSA.out.2.1.cell (i := 3) rfl
  have a4 := HSA.out.2.1.cell (i := 4) rfl
  go_wp2_with fail
  clear a0 a1 a2 a3 a4
  refine (small1000_any t c V HSA.out.2.2.1).mono ?_
  rintro e w1 ⟨r, rfl, hb1, hr⟩
  have HR := Lib.hid hr
  have HS1 := Lib.hid (And.intro (below_all HSA.out.1 hb1) (And.intro (HSA.out.2.1.all hb1) (And.intro (HSA.out.2.2.1.all hb1) (HSA.out.2.2.2.below hb1))))
  clear hb1 hr HSA
  cases r with
  | false =>
    have CL := Lib.hid (jlives_any w1 HS1.out.2.2.2)
    go_wp2_with fail
    refine CL.out.mono ?_
    rintro e w2 ⟨rfl, hb2⟩
    go_wp2
    go_ret
    exact ⟨rfl, below_all HS1.out.1 hb2⟩
  | true =>
    obtain ⟨hz, hni⟩ := HR.out rfl
    have CV := Lib.hid (rvalidtop_any t c w1 HS1.out.2.2.1 hni hz)
    clear hz hni HR
    have a0 := HS1.out.2.1.cell (i := 0) rfl
    have a1 := HS1.out.2.1.cell (i := 1) rfl
    have a2 := HS1.out.2.1.cell (i := 2) rfl
    have a3 := HS1.out.2.1.cell (i := 3) rfl
    have a4 := HS1.out.2.1.cell (i := 4) rfl
    go_wp2_with fail
    clear a0 a1 a2 a3 a4
    refine CV.out.mono ?_
    rintro e w2 hrb
    obtain ⟨r, rfl, hb2, hr⟩ := hrb.out
    have HR := Lib.hid hr
    have HS2 := Lib.hid (And.intro (below_all HS1.out.1 hb2) (And.intro (HS1.out.2.1.all hb2) (And.intro (HS1.out.2.2.1.all hb2) (HS1.out.2.2.2.below hb2))))
    clear hb2 hr HS1 CV hrb
    cases r with
    | false =>
      have CL := Lib.hid (jlives_any w2 HS2.out.2.2.2)
      go_wp2_with fail
      refine CL.out.mono ?_
      rintro e w3 ⟨rfl, hb3⟩
      go_wp2
      go_ret
      exact ⟨rfl, below_all HS2.out.1 hb3⟩
    | true =>
      have HV := Lib.hid (HR.out.1 rfl)
      clear HR
      have CP := Lib.hid (print_any c t w2 HS2.out.2.2.1 HS2.out.2.2.2)
      have a0 := HS2.out.2.1.cell (i := 0) rfl
      have a1 := HS2.out.2.1.cell (i := 1) rfl
      have a2 := HS2.out.2.1.cell (i := 2) rfl
      have a3 := HS2.out.2.1.cell (i := 3) rfl
      have a4 := HS2.out.2.1.cell (i := 4) rfl
      go_wp2_with fail
      clear a0 a1 a2 a3 a4
      refine CP.out.mono ?_
      rintro e w3 hp
      have hb3 := hp.below
      have HS3 := Lib.hid (And.intro (below_all HS2.out.1 hb3) (And.intro (HS2.out.2.1.all hb3) (And.intro (HS2.out.2.2.1.all hb3) (HS2.out.2.2.2.below hb3))))
      clear hb3 HS2 CP
      by_cases hl : (prV t).length ≤ 20000
      · obtain rfl := hp.ok HV.out hl
        clear hp
        have hpp := parse_print HV.out.1 HV.out.2 hl
        have hpb := fun h => parse_blanks HV.out.1 HV.out.2 h
        obtain ⟨ch, rt, hhd, -⟩ := prV_head HV.out.1
        have hne : ¬ (prV t).length = 0 := by rw [hhd]; simp
        clear hhd
        generalize prV t = P at hl hpp hpb hne ⊢
        have hz0 : ((P.length : Int) == 0) = false := by rw [beq_eq_false_iff_ne]; omega
        have hz1 : ¬ (P.length : Int) = 0 := by omega
        have HPB := Lib.hid hpb
        have CQ := Lib.hid (parse_is hpp w3)
        clear hpp hpb
        go_wp2_with fail
        refine CQ.out.mono ?_
        rintro e w4 ⟨c2, rfl, hb4, hI2⟩
        have hA4 := below_alloc w4 (.cells #[.int .i64 c2.k, .int .i64 c2.n, sV c2.s, .slice c2.la c2.ln c2.lc, .slice c2.fa c2.fn c2.fc] 25)
        have o4 := Own.new w4 [.int .i64 c2.k, .int .i64 c2.n, sV c2.s, .slice c2.la c2.ln c2.lc, .slice c2.fa c2.fn c2.fc] 25
        have HS4 := Lib.hid (And.intro (below_all (below_all HS3.out.1 hb4) hA4) (And.intro ((HS3.out.2.1.all hb4).all hA4) (And.intro ((HS3.out.2.2.1.all hb4).all hA4) (And.intro ((HS3.out.2.2.2.below hb4).below hA4) (And.intro o4 (hI2.all hA4))))))
        clear hb4 hI2 hA4 o4 HS3 CQ
        go_upto_region 7 with (fail)
        change Code.wp Tryz.prog _ _ _ (w4.alloc (.cells #[.int .i64 c2.k, .int .i64 c2.n, sV c2.s, .slice c2.la c2.ln c2.lc, .slice c2.fa c2.fn c2.fc] 25))
        generalize w4.alloc (.cells #[.int .i64 c2.k, .int .i64 c2.n, sV c2.s, .slice c2.la c2.ln c2.lc, .slice c2.fa c2.fn c2.fc] 25) = V4 at *
        have a0 := HS4.out.2.1.cell (i := 0) rfl
        have a1 := HS4.out.2.1.cell (i := 1) rfl
        have a2 := HS4.out.2.1.cell (i := 2) rfl
        have a3 := HS4.out.2.1.cell (i := 3) rfl
        have a4 := HS4.out.2.1.cell (i := 4) rfl
        have b0 := HS4.out.2.2.2.2.1.cell (i := 0) rfl
        have b1 := HS4.out.2.2.2.2.1.cell (i := 1) rfl
        have b2 := HS4.out.2.2.2.2.1.cell (i := 2) rfl
        have b3 := HS4.out.2.2.2.2.1.cell (i := 3) rfl
        have b4 := HS4.out.2.2.2.2.1.cell (i := 4) rfl
        have C := Lib.hid (eqv_true rfl HS4.out.2.2.1 HS4.out.2.2.2.2.2)
        go_wp2_with fail
        clear a0 a1 a2 a3 a4 b0 b1 b2 b3 b4
        refine C.out.mono ?_
        rintro e w5 ⟨rfl, hb5⟩
        have HS5 := Lib.hid (And.intro (below_all HS4.out.1 hb5) (And.intro (HS4.out.2.1.all hb5) (And.intro (HS4.out.2.2.1.all hb5) (HS4.out.2.2.2.1.below hb5))))
        clear hb5 HS4 C
        by_cases h96 : 19996 < P.length
        · have CL := Lib.hid (jlives_any w5 HS5.out.2.2.2)
          go_wp2_with fail
          refine CL.out.mono ?_
          rintro e w6 ⟨rfl, hb6⟩
          go_wp2
          go_ret
          exact ⟨rfl, below_all HS5.out.1 hb6⟩
        · have CQ := Lib.hid (parse_is (HPB.out (by omega)) w5)
          clear HPB
          go_wp2_with fail
          rw [blanks_str P]
          refine CQ.out.mono ?_
          rintro e w6 ⟨c3, rfl, hb6, hI3⟩
          have hA6 := below_alloc w6 (.cells #[.int .i64 c3.k, .int .i64 c3.n, sV c3.s, .slice c3.la c3.ln c3.lc, .slice c3.fa c3.fn c3.fc] 25)
          have o6 := Own.new w6 [.int .i64 c3.k, .int .i64 c3.n, sV c3.s, .slice c3.la c3.ln c3.lc, .slice c3.fa c3.fn c3.fc] 25
          have HS6 := Lib.hid (And.intro (below_all (below_all HS5.out.1 hb6) hA6) (And.intro ((HS5.out.2.1.all hb6).all hA6) (And.intro ((HS5.out.2.2.1.all hb6).all hA6) (And.intro ((HS5.out.2.2.2.below hb6).below hA6) (And.intro o6 (hI3.all hA6))))))
          clear hb6 hI3 hA6 o6 HS5 CQ
          go_upto_region 12 with (fail)
          change Code.wp Tryz.prog _ _ _ (w6.alloc (.cells #[.int .i64 c3.k, .int .i64 c3.n, sV c3.s, .slice c3.la c3.ln c3.lc, .slice c3.fa c3.fn c3.fc] 25))
          generalize w6.alloc (.cells #[.int .i64 c3.k, .int .i64 c3.n, sV c3.s, .slice c3.la c3.ln c3.lc, .slice c3.fa c3.fn c3.fc] 25) = V6 at *
          have CL := Lib.hid (jlives_any V6 HS6.out.2.2.2.1)
          go_wp2_with fail
          refine CL.out.mono ?_
          rintro e w7 ⟨rfl, hb7⟩
          have HS7 := Lib.hid (And.intro (below_all HS6.out.1 hb7) (And.intro (HS6.out.2.1.all hb7) (And.intro (HS6.out.2.2.1.all hb7) (And.intro (HS6.out.2.2.2.2.1.all hb7) (HS6.out.2.2.2.2.2.all hb7)))))
          clear hb7 CL HS6
          have a0 := HS7.out.2.1.cell (i := 0) rfl
          have a1 := HS7.out.2.1.cell (i := 1) rfl
          have a2 := HS7.out.2.1.cell (i := 2) rfl
          have a3 := HS7.out.2.1.cell (i := 3) rfl
          have a4 := HS7.out.2.1.cell (i := 4) rfl
          have b0 := HS7.out.2.2.2.1.cell (i := 0) rfl
          have b1 := HS7.out.2.2.2.1.cell (i := 1) rfl
          have b2 := HS7.out.2.2.2.1.cell (i := 2) rfl
          have b3 := HS7.out.2.2.2.1.cell (i := 3) rfl
          have b4 := HS7.out.2.2.2.1.cell (i := 4) rfl
          have C := Lib.hid (eqv_true rfl HS7.out.2.2.1 HS7.out.2.2.2.2)
          go_wp2_with fail
          clear a0 a1 a2 a3 a4 b0 b1 b2 b3 b4
          refine C.out.mono ?_
          rintro e w8 ⟨rfl, hb8⟩
          have HB := Lib.hid (below_all HS7.out.1 hb8)
          clear hb8 HS7 C
          go_wp2
          go_ret
          exact ⟨rfl, HB.out⟩
      · obtain rfl := hp.long HV.out hl
        clear hp
        have CL := Lib.hid (jlives_any w3 HS3.out.2.2.2)
        go_wp2_with fail
        refine CL.out.mono ?_
        rintro e w4 ⟨rfl, hb4⟩
        have HB := Lib.hid (below_all HS3.out.1 hb4)
        clear hb4 HS3
        go_wp2
        go_ret
        exact ⟨rfl, HB.out⟩
end Go.Proofs.YtjpmnlefjmdelaaGreatDoor
