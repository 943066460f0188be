/- Small at 1000; the reference's Print; the law JsonPrints. -/
import Derived.Test.YtjpmnlefjmdelaaGreatDoorNj
import Derived.Test.YtjpmnlefjmdelaaGreatDoorNg
namespace Go.Proofs.YtjpmnlefjmdelaaGreatDoor
open Go.RowKit Go.Sort Go.Proofs.LawFrame

set_option maxHeartbeats 400000 in
theorem small1000_any (t : T) (c : VC) (w : World) (hI : Is w c t) :
    Calls Tryz.prog 14 #[c.val, .int .i64 1000] w fun e w' => ∃ r : Bool, e = .returned (.bool r) ∧ Below w.heap.size w w' ∧ (r = true → t.size ≤ 1000 ∧ t.nice) := by
  obtain ⟨k', n', s', la, ln, lc, fa, fn, fc⟩ := c
  go_enter Tryz.func14, Tryz.ntmps14
  have hw0 : Below w.heap.size w (w.alloc (.cells #[.int .i64 k', .int .i64 n', sV s', .slice la ln lc, .slice fa fn fc] 25)) := (Below.refl _ _).alloc (Nat.le_refl _) _
  have C := Lib.hid (count_any _ t (Nat.le_refl _) ⟨k', n', s', la, ln, lc, fa, fn, fc⟩ _ 1000 1000 (hI.all hw0) (by omega) (by omega) (by omega) (by omega))
  clear hI
  go_wp2_with fail
  refine C.out.mono ?_
  rintro e w2 ⟨r, rfl, hb, h1, h2, h3⟩
  have H3 := Lib.hid h3
  clear h3
  go_wp2
  go_ret
  exact ⟨_, rfl, below_all hw0 hb, fun h => by have := H3.out (by simpa using h); have := this.1; exact ⟨by simp at h; omega, by simp_all⟩⟩
/-- what Print answers, as a pair -/
def prRes (t : T) (B : Bool) : Str × Int := if B then (if (prV t).length ≤ 20000 then (prV t, 0) else ([], 4)) else ([], 1)
theorem QPr.val {w w' : World} {t : T} {e : Ending} (h : QPr w t e w') {B : Bool} (hB : B = true ↔ (Val 12 t ∧ t.size ≤ 600)) : e = .returned (.tuple #[sV (prRes t B).1, .int .i64 (prRes t B).2]) ∧ Below w.heap.size w w' := by
  refine ⟨?_, h.below⟩
  unfold prRes
  cases B with
  | false => exact h.bad (fun h' => by have := hB.2 h'; cases this)
  | true =>
    have hv := hB.1 rfl
    by_cases hl : (prV t).length ≤ 20000
    · rw [if_pos rfl, if_pos hl]; exact h.ok hv hl
    · rw [if_pos rfl, if_neg hl]; exact h.long hv hl
set_option maxHeartbeats 4000000 in
set_option maxRecDepth 4000 in
theorem rprint_any (c : VC) (t : T) (w : World) (hI : Is w c t) (hni : t.nice) (hz : t.size ≤ 1000) : Calls Tryz.prog 17 #[c.val] w (QPr w t) := by
  have hbA := below_alloc w (.cells #[.int .i64 c.k, .int .i64 c.n, sV c.s, .slice c.la c.ln c.lc, .slice c.fa c.fn c.fc] 25)
  have oN := Own.new w [.int .i64 c.k, .int .i64 c.n, sV c.s, .slice c.la c.ln c.lc, .slice c.fa c.fn c.fc] 25
  have HSA := Lib.hid (And.intro hbA (And.intro oN (hI.all hbA)))
  clear hbA oN hI
  go_enter Tryz.func17, Tryz.ntmps17
  go_upto_region 1 with (fail)
  change Code.wp Tryz.prog _ _ _ (w.alloc (.cells #[.int .i64 c.k, .int .i64 c.n, sV c.s, .slice c.la c.ln c.lc, .slice c.fa c.fn c.fc] 25))
  generalize w.alloc (.cells #[.int .i64 c.k, .int .i64 c.n, sV c.s, .slice c.la c.ln c.lc, .slice c.fa c.fn c.fc] 25) = V at *
  have a0 := HSA.out.2.1.cell (i := 0) rfl
  have a1 := HSA.out.2.1.cell (i := 1) rfl
  have a2 := HSA.out.2.1.cell (i := 2) rfl
  have a3 := HSA.out.2.1.cell (i := 3) rfl
  have a4 := HSA.out.2.1.cell (i := 4) rfl
  have CV := Lib.hid (rvalidtop_any t c V HSA.out.2.2 hni hz)
  have HZ := Lib.hid hz
  clear hni hz
  go_wp2_with fail
  clear a0 a1 a2 a3 a4
  refine CV.out.mono ?_
  rintro e w1 hrb
  obtain ⟨r, rfl, hb1, hr⟩ := hrb.out
  have HR := Lib.hid hr
  clear hr hrb CV
  cases r with
  | false =>
    have HB := Lib.hid (below_all HSA.out.1 hb1)
    clear hb1
    go_wp2
    have hno : ¬ (Val 12 t ∧ t.size ≤ 600) := fun h => by have := HR.out.2 h; cases this
    exact bodyPost_ret (v := .tuple #[.string ⟨#[]⟩, .int .i64 1]) (by simp [results, Tryz.results17, go_sem]) rfl ⟨HB.out, fun h => absurd h hno, fun h => absurd h hno, fun _ => rfl⟩
  | true =>
    have HV := Lib.hid (HR.out.1 rfl)
    have o1 := HSA.out.2.1.all hb1
    have a0 := o1.cell (i := 0) rfl
    have a1 := o1.cell (i := 1) rfl
    have a2 := o1.cell (i := 2) rfl
    have a3 := o1.cell (i := 3) rfl
    have a4 := o1.cell (i := 4) rfl
    have hok := val_prOk 12 t HV.out.1
    have HLEN := Lib.hid (prV_len _ t (Nat.le_refl _) hok)
    have C := rtext_any _ t (Nat.le_refl _) hok (val_kOk 12 t HV.out.1) HZ.out c w1 (HSA.out.2.2.all hb1)
    obtain ⟨P, HP⟩ : ∃ P, Hid (P = prV t) := ⟨_, Lib.hid rfl⟩
    rw [← HP.out] at C
    have hPl : P.length ≤ 5000000 := by have := HLEN.out; have := HZ.out; rw [HP.out]; omega
    have CH := Lib.hid C
    have HB1 := Lib.hid (below_all HSA.out.1 hb1)
    clear C hok hb1 o1
    go_wp2_with fail
    refine CH.out.mono ?_
    rintro e w2 ⟨rfl, hb2⟩
    have HB := Lib.hid (below_all HB1.out hb2)
    clear a0 a1 a2 a3 a4 hb2
    by_cases hbig : 20000 < P.length
    · have HG := Lib.hid hbig
      go_wp2
      exact bodyPost_ret (v := .tuple #[.string ⟨#[]⟩, .int .i64 4]) (by simp [results, Tryz.results17, go_sem]) rfl ⟨HB.out, fun _ h => absurd h (by have := HG.out; rw [HP.out] at this; omega), fun _ _ => rfl, fun h => absurd HV.out h⟩
    · have HG := Lib.hid hbig
      go_wp2
      exact bodyPost_ret (v := .tuple #[sV P, .int .i64 0]) (by simp [results, Tryz.results17, go_sem]) rfl ⟨HB.out, fun _ _ => by rw [HP.out], fun _ h => absurd h (by have := HG.out; rw [HP.out] at this; omega), fun h => absurd HV.out h⟩
set_option maxHeartbeats 4000000 in
set_option maxRecDepth 4000 in
theorem prints_walk (c : VC) (t : T) (w : World) (hI : Is w c t) (ht : Tab w) :
    Calls Tryz.prog 3 #[c.val] w fun e w' => e = .returned (.bool true) ∧ Below w.heap.size w w' := by
  have hbA := below_alloc w (.cells #[.int .i64 c.k, .int .i64 c.n, sV c.s, .slice c.la c.ln c.lc, .slice c.fa c.fn c.fc] 25)
  have oN := Own.new w [.int .i64 c.k, .int .i64 c.n, sV c.s, .slice c.la c.ln c.lc, .slice c.fa c.fn c.fc] 25
  have HSA := Lib.hid (And.intro hbA (And.intro oN (And.intro (hI.all hbA) (ht.below hbA))))
  clear hbA oN hI ht
  go_enter Tryz.func3, Tryz.ntmps3
  go_upto_region 1 with (fail)
  change Code.wp Tryz.prog _ _ _ (w.alloc (.cells #[.int .i64 c.k, .int .i64 c.n, sV c.s, .slice c.la c.ln c.lc, .slice c.fa c.fn c.fc] 25))
  generalize w.alloc (.cells #[.int .i64 c.k, .int .i64 c.n, sV c.s, .slice c.la c.ln c.lc, .slice c.fa c.fn c.fc] 25) = V at *
  have a0 := HSA.out.2.1.cell (i := 0) rfl
  have a1 := HSA.out.2.1.cell (i := 1) rfl
  have a2 := HSA.out.2.1.cell (i := 2) rfl
  have a3 := HSA.out.2.1.cell (i := 3) rfl
  have a4 := HSA.out.2.1.cell (i := 4) rfl
  go_wp2_with fail
  clear a0 a1 a2 a3 a4
  refine (small1000_any t c V HSA.out.2.2.1).mono ?_
  rintro e w1 ⟨r, rfl, hb1, hr⟩
  have HR := Lib.hid hr
  have HS1 := Lib.hid (And.intro (below_all HSA.out.1 hb1) (And.intro (HSA.out.2.1.all hb1) (And.intro (HSA.out.2.2.1.all hb1) (HSA.out.2.2.2.below hb1))))
  clear hb1 hr HSA
  cases r with
  | false =>
    have CL := Lib.hid (jlives_any w1 HS1.out.2.2.2)
    go_wp2_with fail
    refine CL.out.mono ?_
    rintro e w2 ⟨rfl, hb2⟩
    go_wp2
    go_ret
    exact ⟨rfl, below_all HS1.out.1 hb2⟩
  | true =>
    obtain ⟨hz, hni⟩ := HR.out rfl
    obtain ⟨B, hB⟩ : ∃ B : Bool, B = true ↔ (Val 12 t ∧ t.size ≤ 600) := by
      by_cases h : Val 12 t ∧ t.size ≤ 600
      · exact ⟨true, by simp; exact h⟩
      · exact ⟨false, by rw [iff_false_right h]; simp⟩
    have CP := Lib.hid ((print_any c t w1 HS1.out.2.2.1 HS1.out.2.2.2).mono fun _ _ h => h.val hB)
    have CR := Lib.hid (fun (w2 : World) (h : Is w2 c t) => (rprint_any c t w2 h hni hz).mono fun _ _ h => h.val hB)
    generalize prRes t B = pr at CP CR
    obtain ⟨S, E⟩ := pr
    clear hB hz hni HR
    have a0 := HS1.out.2.1.cell (i := 0) rfl
    have a1 := HS1.out.2.1.cell (i := 1) rfl
    have a2 := HS1.out.2.1.cell (i := 2) rfl
    have a3 := HS1.out.2.1.cell (i := 3) rfl
    have a4 := HS1.out.2.1.cell (i := 4) rfl
    go_wp2_with fail
    clear a0 a1 a2 a3 a4
    refine CP.out.mono ?_
    rintro e w2 ⟨rfl, hb2⟩
    have HS2 := Lib.hid (And.intro (below_all HS1.out.1 hb2) (And.intro (HS1.out.2.1.all hb2) (And.intro (HS1.out.2.2.1.all hb2) (HS1.out.2.2.2.below hb2))))
    clear hb2 HS1 CP
    have a0 := HS2.out.2.1.cell (i := 0) rfl
    have a1 := HS2.out.2.1.cell (i := 1) rfl
    have a2 := HS2.out.2.1.cell (i := 2) rfl
    have a3 := HS2.out.2.1.cell (i := 3) rfl
    have a4 := HS2.out.2.1.cell (i := 4) rfl
    have C := Lib.hid (CR.out w2 HS2.out.2.2.1)
    go_wp2_with fail
    clear a0 a1 a2 a3 a4
    refine C.out.mono ?_
    rintro e w3 ⟨rfl, hb3⟩
    have HS3 := Lib.hid (And.intro (below_all HS2.out.1 hb3) (HS2.out.2.2.2.below hb3))
    clear hb3 HS2 C CR
    have CL := Lib.hid (jlives_any w3 HS3.out.2)
    go_wp2_with fail
    refine CL.out.mono ?_
    rintro e w4 ⟨rfl, hb4⟩
    go_wp2
    go_ret
    exact ⟨rfl, below_all HS3.out.1 hb4⟩
end Go.Proofs.YtjpmnlefjmdelaaGreatDoor
