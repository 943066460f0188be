/- A value. -/
import Derived.Test.YtjpmnlefjmdelaaDoorKm
namespace Go.Proofs.YtjpmnlefjmdelaaDoor
open Go.RowKit Go.Sort Go.Proofs.LawFrame

theorem isA_leaf (w : World) (A : Nat → Prop) (k n : Int) (s : Str) : IsA w A ⟨k, n, s, none, 0, 0, none, 0, 0⟩ (.mk k n s [] []) :=
  .mk (c := ⟨k, n, s, none, 0, 0, none, 0, 0⟩) [] [] rfl (FlatA.nil _ _ _) (fun i x t h => by simp at h) rfl (FlatA.nil _ _ _) (fun i x t h => by simp at h) (fun i x t h => by simp at h)

set_option maxHeartbeats 16000000 in
set_option maxRecDepth 4000 in
theorem readValue_any {pb : Nat} {s : Str} (hl : s.length ≤ 20000) : ∀ (f : Nat), f ≤ 12 → RV pb s ((13 - f : Nat) : Int) (valR f) := by
  intro f
  induction f with
  | zero => 
    intro _ full n r w hn st
    have hpb := st.lt
    have hB := But.allow (b := pb) (below_alloc w (.cells #[.int .i64 0, .int .i64 0, .string ⟨#[]⟩, .slice none 0 0, .slice none 0 0] 26))
    have oR := Own.new w [.int .i64 0, .int .i64 0, .string ⟨#[]⟩, .slice none 0 0, .slice none 0 0] 26
    have st' := st.all (below_alloc w (.cells #[.int .i64 0, .int .i64 0, .string ⟨#[]⟩, .slice none 0 0, .slice none 0 0] 26))
    have HS := Lib.hid (And.intro hB (And.intro oR st'))
    clear hB oR st' st
    show Calls Tryd.prog 41 #[.pointer (some ⟨pb, 0, none⟩), .int .i64 13, .bool full] w _
    go_enter Tryd.func41, Tryd.ntmps41
    go_upto_region 1 with (fail)
    change Code.wp Tryd.prog _ _ _ (w.alloc (.cells #[.int .i64 0, .int .i64 0, .string ⟨#[]⟩, .slice none 0 0, .slice none 0 0] 26))
    generalize w.alloc (.cells #[.int .i64 0, .int .i64 0, .string ⟨#[]⟩, .slice none 0 0, .slice none 0 0] 26) = V at *
    have C := Lib.hid (peekBlanks_any hl HS.out.2.2)
    go_wp2_with fail
    refine C.out.mono ?_
    rintro e w1 hres
    clear C
    obtain ⟨q, hq⟩ : ∃ q, skp r = q := ⟨_, rfl⟩
    rw [hq] at hres
    have HQ := Lib.hid hq
    clear hq
    cases q with
    | nil =>
      obtain rfl := hres.er 0 3 rfl
      have HB := Lib.hid (HS.out.1.trans hres.but)
      clear hres
      go_wp2
      exact ⟨rfl, Res.mkEr (k := 0) (c := 3) (by rw [valR_zero, HQ.out]) HB.out⟩
    | cons c r1 =>
      obtain ⟨v, rfl, rfl, st1⟩ := hres.ok c rfl
      have HS1 := Lib.hid (And.intro (HS.out.1.trans hres.but) (And.intro (Own.but HS.out.2.1 hres.but (by omega)) st1))
      clear hres st1 HS
      have C := Lib.hid (beginsValue_any c w1)
      go_wp2_with fail
      refine C.out.mono ?_
      rintro e w1' ⟨rfl, rfl⟩
      clear C
      cases hbg : bgn c
      · have C := Lib.hid (fail_st 2 HS1.out.2.2)
        go_wp2_with fail
        refine C.out.mono ?_
        rintro e w7 ⟨rfl, rfl⟩
        go_wp2
        exact ⟨rfl, Res.mkEr (k := r1.length + 1) (c := 2) (by rw [valR_zero, HQ.out]; simp [hbg]) HS1.out.1⟩
      have HBG := Lib.hid hbg
      clear hbg
      have C := Lib.hid (fail_st 4 HS1.out.2.2)
      cases full <;> (
        go_wp2_with fail
        refine C.out.mono ?_
        rintro e w7 ⟨rfl, rfl⟩
        go_wp2
        exact ⟨rfl, Res.mkEr (k := r1.length + 1) (c := 4) (by rw [valR_zero, HQ.out]; simp [HBG.out]) HS1.out.1⟩)
  | succ f ih =>
    intro hf full n r w hn st
    have IH : Hid (RV pb s (((13 - (f + 1) : Nat) : Int) + 1) (valR f)) := Lib.hid (by have := ih (by omega); rwa [show ((13 - f : Nat) : Int) = ((13 - (f + 1) : Nat) : Int) + 1 by omega] at this)
    clear ih
    have hpb := st.lt
    obtain ⟨d, hd⟩ : ∃ d : Int, ((13 - (f + 1) : Nat) : Int) = d := ⟨_, rfl⟩
    have hd1 : 0 ≤ d := by omega
    have hd2 : d ≤ 12 := by omega
    rw [hd] at IH ⊢
    clear hd
    have hB := But.allow (b := pb) (below_alloc w (.cells #[.int .i64 0, .int .i64 0, .string ⟨#[]⟩, .slice none 0 0, .slice none 0 0] 26))
    have oR := Own.new w [.int .i64 0, .int .i64 0, .string ⟨#[]⟩, .slice none 0 0, .slice none 0 0] 26
    have st' := st.all (below_alloc w (.cells #[.int .i64 0, .int .i64 0, .string ⟨#[]⟩, .slice none 0 0, .slice none 0 0] 26))
    have HS := Lib.hid (And.intro hB (And.intro oR st'))
    clear hB oR st' st
    go_enter Tryd.func41, Tryd.ntmps41
    go_upto_region 1 with (fail)
    change Code.wp Tryd.prog _ _ _ (w.alloc (.cells #[.int .i64 0, .int .i64 0, .string ⟨#[]⟩, .slice none 0 0, .slice none 0 0] 26))
    generalize w.alloc (.cells #[.int .i64 0, .int .i64 0, .string ⟨#[]⟩, .slice none 0 0, .slice none 0 0] 26) = V at *
    have C := Lib.hid (peekBlanks_any hl HS.out.2.2)
    go_wp2_with fail
    refine C.out.mono ?_
    rintro e w1 hres
    clear C
    obtain ⟨q, hq⟩ : ∃ q, skp r = q := ⟨_, rfl⟩
    rw [hq] at hres
    have HQ := Lib.hid hq
    clear hq
    cases q with
    | nil =>
      obtain rfl := hres.er 0 3 rfl
      have HB := Lib.hid (HS.out.1.trans hres.but)
      clear hres
      go_wp2
      exact ⟨rfl, Res.mkEr (k := 0) (c := 3) (by rw [valR_succ, HQ.out]) HB.out⟩
    | cons c r1 =>
      obtain ⟨v, rfl, rfl, st1⟩ := hres.ok c rfl
      have HS1 := Lib.hid (And.intro (HS.out.1.trans hres.but) (And.intro (Own.but HS.out.2.1 hres.but (by omega)) st1))
      clear hres st1 HS
      have C := Lib.hid (beginsValue_any c w1)
      go_wp2_with fail
      refine C.out.mono ?_
      rintro e w1' ⟨rfl, rfl⟩
      clear C
      cases hbg : bgn c
      · have C := Lib.hid (fail_st 2 HS1.out.2.2)
        go_wp2_with fail
        refine C.out.mono ?_
        rintro e w7 ⟨rfl, rfl⟩
        go_wp2
        exact ⟨rfl, Res.mkEr (k := r1.length + 1) (c := 2) (by rw [valR_succ, HQ.out]; simp [hbg]) HS1.out.1⟩
      have HBG := Lib.hid hbg
      clear hbg
      cases full with
      | true =>
        have C := Lib.hid (fail_st 4 HS1.out.2.2)
        go_wp2_with fail
        refine C.out.mono ?_
        rintro e w7 ⟨rfl, rfl⟩
        go_wp2
        exact ⟨rfl, Res.mkEr (k := r1.length + 1) (c := 4) (by rw [valR_succ, HQ.out]; simp [HBG.out]) HS1.out.1⟩
      | false =>
      obtain ⟨i, hi, hdr, o⟩ := HS1.out.2.2.out
      have u2 := o.cell (i := 2) rfl
      have f2 := o.frozen 2
      have hd12 : ¬ 12 < d := by omega
      by_cases h600 : n = 600
      · have e600 : (n : Int) = 600 := by omega
        have C := Lib.hid (fail_st 4 HS1.out.2.2)
        have HN := Lib.hid h600
        clear h600 o hdr
        go_wp2_with fail
        refine C.out.mono ?_
        rintro e w7 ⟨rfl, rfl⟩
        go_wp2
        exact ⟨rfl, Res.mkEr (k := r1.length + 1) (c := 4) (by rw [valR_succ, HQ.out]; simp [HBG.out, HN.out]) HS1.out.1⟩
      have e600 : ¬ (n : Int) = 600 := by omega
      have e600' : ((n : Int) == 600) = false := by rw [beq_eq_false_iff_ne]; exact e600
      have HF : Hid (¬ (false = true ∨ n = 600)) := Lib.hid (by simpa using h600)
      have hn1 : n + 1 ≤ 600 := by omega
      have HS2 := Lib.hid (And.intro (HS1.out.1.set 2 (.int .i64 ((n + 1 : Nat) : Int))) (And.intro (HS1.out.2.1.set_ne (show w.heap.size ≠ pb by omega) 2 (.int .i64 ((n + 1 : Nat) : Int))) (St.mk (pb := pb) (n := ((n + 1 : Nat) : Int)) ⟨i, hi, hdr, o.set 2 (.int .i64 ((n + 1 : Nat) : Int))⟩)))
      clear o hdr HS1 h600
      go_upto_region 7 with (fail)
      change Code.wp Tryd.prog _ _ _ (w1.setCell ⟨pb, 2, none⟩ (.int .i64 ((n + 1 : Nat) : Int)))
      clear u2 f2 e600 e600' hd12
      generalize w1.setCell ⟨pb, 2, none⟩ (.int .i64 ((n + 1 : Nat) : Int)) = W2 at *
      by_cases h110 : c.toNat = 110
      · have e110 : (c.toNat : Int) = 110 := by omega
        have HK := Lib.hid h110
        clear h110
        have C := Lib.hid (null_any W2)
        go_wp2_with fail
        refine C.out.mono ?_
        rintro e w5 ⟨rfl, hb5⟩
        clear C
        have HS5 := Lib.hid (And.intro (HS2.out.1.all hb5) (And.intro (HS2.out.2.1.all hb5) (HS2.out.2.2.all hb5)))
        clear HS2 hb5
        have C := Lib.hid (readWord_any hl [110, 117, 108, 108] (by decide) ⟨0, 0, [], none, 0, 0, none, 0, 0⟩ HS5.out.2.2)
        go_wp2_with fail
        refine C.out.mono ?_
        rintro e w6 hres
        clear C
        cases hR : wordR [110, 117, 108, 108] (c :: r1) with
        | er a b =>
          obtain rfl := hres.er a b hR
          have HB := Lib.hid (HS5.out.1.trans hres.but)
          clear hres
          go_wp2
          exact ⟨rfl, Res.mkEr (k := a) (c := b) (by rw [valR_succ, HQ.out]; simp only [HBG.out, Bool.true_eq_false, if_false]; rw [if_neg HF.out]; unfold bodyR; simp only [if_pos HK.out]; rw [hR]; rfl) HB.out⟩
        | ok r6 =>
          obtain ⟨v, rfl, rfl, st⟩ := hres.ok _ hR
          have hB := HS5.out.1.trans hres.but
          have oR := Own.but HS5.out.2.1 hres.but (by omega)
          have HR := Lib.hid hR
          clear hres hR HS5
          have r0 := oR.cell (i := 0) rfl
          have r1 := oR.cell (i := 1) rfl
          have r2 := oR.cell (i := 2) rfl
          have r3 := oR.cell (i := 3) rfl
          have r4 := oR.cell (i := 4) rfl
          have g0 := oR.frozen 0
          have g1 := oR.frozen 1
          have g2 := oR.frozen 2
          have g3 := oR.frozen 3
          have g4 := oR.frozen 4
          have HS := Lib.hid (And.intro (own_put5 oR (.int .i64 0) (.int .i64 0) (.string ⟨#[]⟩) (.slice none 0 0) (.slice none 0 0)) (And.intro (hB.put5 (b := w.heap.size) (by omega) (.int .i64 0) (.int .i64 0) (.string ⟨#[]⟩) (.slice none 0 0) (.slice none 0 0)) (st.put5 (b := w.heap.size) (by omega) (.int .i64 0) (.int .i64 0) (.string ⟨#[]⟩) (.slice none 0 0) (.slice none 0 0))))
          clear hB oR st
          go_wp2
          clear r0 r1 r2 r3 r4 g0 g1 g2 g3 g4
          change bodyPost Tryd.prog Tryd.f41 _ _ _ (put5 w6 (w.heap.size) (.int .i64 0) (.int .i64 0) (.string ⟨#[]⟩) (.slice none 0 0) (.slice none 0 0))
          generalize put5 w6 (w.heap.size) (.int .i64 0) (.int .i64 0) (.string ⟨#[]⟩) (.slice none 0 0) (.slice none 0 0) = U at *
          obtain ⟨oS, hB, st⟩ := HS.out
          have c0 := oS.cell (i := 0) rfl
          have c1 := oS.cell (i := 1) rfl
          have c2 := oS.cell (i := 2) rfl
          have c3 := oS.cell (i := 3) rfl
          have c4 := oS.cell (i := 4) rfl
          exact bodyPost_ret (v := .agg #[.int .i64 0, .int .i64 0, .string ⟨#[]⟩, .slice none 0 0, .slice none 0 0]) (by simp [results, Tryd.results41, go_sem, c0, c1, c2, c3, c4]) rfl (Res.mkOk (b := (.mk 0 0 [] [] [], n + 1, r6)) (by rw [valR_succ, HQ.out]; simp only [HBG.out, Bool.true_eq_false, if_false]; rw [if_neg HF.out]; unfold bodyR; simp only [if_pos HK.out]; rw [HR.out]; rfl) hB ⟨⟨⟨0, 0, [], none, 0, 0, none, 0, 0⟩, rfl, isA_leaf _ _ _ _ _⟩, st⟩)
      by_cases h116 : c.toNat = 116
      · have e110 : ¬ (c.toNat : Int) = 110 := by omega
        have e110' : ((c.toNat : Int) == 110) = false := by rw [beq_eq_false_iff_ne]; exact e110
        have e116 : (c.toNat : Int) = 116 := by omega
        have HK := Lib.hid h116
        clear h116
        have C := Lib.hid (true_any W2)
        go_wp2_with fail
        refine C.out.mono ?_
        rintro e w5 ⟨rfl, hb5⟩
        clear C
        have HS5 := Lib.hid (And.intro (HS2.out.1.all hb5) (And.intro (HS2.out.2.1.all hb5) (HS2.out.2.2.all hb5)))
        clear HS2 hb5
        have C := Lib.hid (readWord_any hl [116, 114, 117, 101] (by decide) ⟨1, 1, [], none, 0, 0, none, 0, 0⟩ HS5.out.2.2)
        go_wp2_with fail
        refine C.out.mono ?_
        rintro e w6 hres
        clear C
        cases hR : wordR [116, 114, 117, 101] (c :: r1) with
        | er a b =>
          obtain rfl := hres.er a b hR
          have HB := Lib.hid (HS5.out.1.trans hres.but)
          clear hres
          go_wp2
          exact ⟨rfl, Res.mkEr (k := a) (c := b) (by rw [valR_succ, HQ.out]; simp only [HBG.out, Bool.true_eq_false, if_false]; rw [if_neg HF.out]; unfold bodyR; simp only [if_neg h110, if_pos HK.out]; rw [hR]; rfl) HB.out⟩
        | ok r6 =>
          obtain ⟨v, rfl, rfl, st⟩ := hres.ok _ hR
          have hB := HS5.out.1.trans hres.but
          have oR := Own.but HS5.out.2.1 hres.but (by omega)
          have HR := Lib.hid hR
          clear hres hR HS5
          have r0 := oR.cell (i := 0) rfl
          have r1 := oR.cell (i := 1) rfl
          have r2 := oR.cell (i := 2) rfl
          have r3 := oR.cell (i := 3) rfl
          have r4 := oR.cell (i := 4) rfl
          have g0 := oR.frozen 0
          have g1 := oR.frozen 1
          have g2 := oR.frozen 2
          have g3 := oR.frozen 3
          have g4 := oR.frozen 4
          have HS := Lib.hid (And.intro (own_put5 oR (.int .i64 1) (.int .i64 1) (.string ⟨#[]⟩) (.slice none 0 0) (.slice none 0 0)) (And.intro (hB.put5 (b := w.heap.size) (by omega) (.int .i64 1) (.int .i64 1) (.string ⟨#[]⟩) (.slice none 0 0) (.slice none 0 0)) (st.put5 (b := w.heap.size) (by omega) (.int .i64 1) (.int .i64 1) (.string ⟨#[]⟩) (.slice none 0 0) (.slice none 0 0))))
          clear hB oR st
          go_wp2
          clear r0 r1 r2 r3 r4 g0 g1 g2 g3 g4
          change bodyPost Tryd.prog Tryd.f41 _ _ _ (put5 w6 (w.heap.size) (.int .i64 1) (.int .i64 1) (.string ⟨#[]⟩) (.slice none 0 0) (.slice none 0 0))
          generalize put5 w6 (w.heap.size) (.int .i64 1) (.int .i64 1) (.string ⟨#[]⟩) (.slice none 0 0) (.slice none 0 0) = U at *
          obtain ⟨oS, hB, st⟩ := HS.out
          have c0 := oS.cell (i := 0) rfl
          have c1 := oS.cell (i := 1) rfl
          have c2 := oS.cell (i := 2) rfl
          have c3 := oS.cell (i := 3) rfl
          have c4 := oS.cell (i := 4) rfl
          exact bodyPost_ret (v := .agg #[.int .i64 1, .int .i64 1, .string ⟨#[]⟩, .slice none 0 0, .slice none 0 0]) (by simp [results, Tryd.results41, go_sem, c0, c1, c2, c3, c4]) rfl (Res.mkOk (b := (.mk 1 1 [] [] [], n + 1, r6)) (by rw [valR_succ, HQ.out]; simp only [HBG.out, Bool.true_eq_false, if_false]; rw [if_neg HF.out]; unfold bodyR; simp only [if_neg h110, if_pos HK.out]; rw [HR.out]; rfl) hB ⟨⟨⟨1, 1, [], none, 0, 0, none, 0, 0⟩, rfl, isA_leaf _ _ _ _ _⟩, st⟩)
      by_cases h102 : c.toNat = 102
      · have e110 : ¬ (c.toNat : Int) = 110 := by omega
        have e110' : ((c.toNat : Int) == 110) = false := by rw [beq_eq_false_iff_ne]; exact e110
        have e116 : ¬ (c.toNat : Int) = 116 := by omega
        have e116' : ((c.toNat : Int) == 116) = false := by rw [beq_eq_false_iff_ne]; exact e116
        have e102 : (c.toNat : Int) = 102 := by omega
        have HK := Lib.hid h102
        clear h102
        have C := Lib.hid (false_any W2)
        go_wp2_with fail
        refine C.out.mono ?_
        rintro e w5 ⟨rfl, hb5⟩
        clear C
        have HS5 := Lib.hid (And.intro (HS2.out.1.all hb5) (And.intro (HS2.out.2.1.all hb5) (HS2.out.2.2.all hb5)))
        clear HS2 hb5
        have C := Lib.hid (readWord_any hl [102, 97, 108, 115, 101] (by decide) ⟨1, 0, [], none, 0, 0, none, 0, 0⟩ HS5.out.2.2)
        go_wp2_with fail
        refine C.out.mono ?_
        rintro e w6 hres
        clear C
        cases hR : wordR [102, 97, 108, 115, 101] (c :: r1) with
        | er a b =>
          obtain rfl := hres.er a b hR
          have HB := Lib.hid (HS5.out.1.trans hres.but)
          clear hres
          go_wp2
          exact ⟨rfl, Res.mkEr (k := a) (c := b) (by rw [valR_succ, HQ.out]; simp only [HBG.out, Bool.true_eq_false, if_false]; rw [if_neg HF.out]; unfold bodyR; simp only [if_neg h110, if_neg h116, if_pos HK.out]; rw [hR]; rfl) HB.out⟩
        | ok r6 =>
          obtain ⟨v, rfl, rfl, st⟩ := hres.ok _ hR
          have hB := HS5.out.1.trans hres.but
          have oR := Own.but HS5.out.2.1 hres.but (by omega)
          have HR := Lib.hid hR
          clear hres hR HS5
          have r0 := oR.cell (i := 0) rfl
          have r1 := oR.cell (i := 1) rfl
          have r2 := oR.cell (i := 2) rfl
          have r3 := oR.cell (i := 3) rfl
          have r4 := oR.cell (i := 4) rfl
          have g0 := oR.frozen 0
          have g1 := oR.frozen 1
          have g2 := oR.frozen 2
          have g3 := oR.frozen 3
          have g4 := oR.frozen 4
          have HS := Lib.hid (And.intro (own_put5 oR (.int .i64 1) (.int .i64 0) (.string ⟨#[]⟩) (.slice none 0 0) (.slice none 0 0)) (And.intro (hB.put5 (b := w.heap.size) (by omega) (.int .i64 1) (.int .i64 0) (.string ⟨#[]⟩) (.slice none 0 0) (.slice none 0 0)) (st.put5 (b := w.heap.size) (by omega) (.int .i64 1) (.int .i64 0) (.string ⟨#[]⟩) (.slice none 0 0) (.slice none 0 0))))
          clear hB oR st
          go_wp2
          clear r0 r1 r2 r3 r4 g0 g1 g2 g3 g4
          change bodyPost Tryd.prog Tryd.f41 _ _ _ (put5 w6 (w.heap.size) (.int .i64 1) (.int .i64 0) (.string ⟨#[]⟩) (.slice none 0 0) (.slice none 0 0))
          generalize put5 w6 (w.heap.size) (.int .i64 1) (.int .i64 0) (.string ⟨#[]⟩) (.slice none 0 0) (.slice none 0 0) = U at *
          obtain ⟨oS, hB, st⟩ := HS.out
          have c0 := oS.cell (i := 0) rfl
          have c1 := oS.cell (i := 1) rfl
          have c2 := oS.cell (i := 2) rfl
          have c3 := oS.cell (i := 3) rfl
          have c4 := oS.cell (i := 4) rfl
          exact bodyPost_ret (v := .agg #[.int .i64 1, .int .i64 0, .string ⟨#[]⟩, .slice none 0 0, .slice none 0 0]) (by simp [results, Tryd.results41, go_sem, c0, c1, c2, c3, c4]) rfl (Res.mkOk (b := (.mk 1 0 [] [] [], n + 1, r6)) (by rw [valR_succ, HQ.out]; simp only [HBG.out, Bool.true_eq_false, if_false]; rw [if_neg HF.out]; unfold bodyR; simp only [if_neg h110, if_neg h116, if_pos HK.out]; rw [HR.out]; rfl) hB ⟨⟨⟨1, 0, [], none, 0, 0, none, 0, 0⟩, rfl, isA_leaf _ _ _ _ _⟩, st⟩)
      by_cases h34 : c.toNat = 34
      · have e110 : ¬ (c.toNat : Int) = 110 := by omega
        have e110' : ((c.toNat : Int) == 110) = false := by rw [beq_eq_false_iff_ne]; exact e110
        have e116 : ¬ (c.toNat : Int) = 116 := by omega
        have e116' : ((c.toNat : Int) == 116) = false := by rw [beq_eq_false_iff_ne]; exact e116
        have e102 : ¬ (c.toNat : Int) = 102 := by omega
        have e102' : ((c.toNat : Int) == 102) = false := by rw [beq_eq_false_iff_ne]; exact e102
        have e34 : (c.toNat : Int) = 34 := by omega
        have HK := Lib.hid h34
        clear h34
        have C := Lib.hid (readString_any hl HK.out HS2.out.2.2)
        go_wp2_with fail
        refine C.out.mono ?_
        rintro e w5 hres
        clear C
        cases hR : strR (r1.length + 1) 0 r1 with
        | er a b =>
          obtain rfl := hres.er a b hR
          have HB := Lib.hid (HS2.out.1.trans hres.but)
          clear hres
          go_wp2
          exact ⟨rfl, Res.mkEr (k := a) (c := b) (by rw [valR_succ, HQ.out]; simp only [HBG.out, Bool.true_eq_false, if_false]; rw [if_neg HF.out]; unfold bodyR; simp only [if_neg h110, if_neg h116, if_neg h102, if_pos HK.out]; rw [hR]; rfl) HB.out⟩
        | ok p =>
          obtain ⟨l5, r6⟩ := p
          obtain ⟨v, rfl, rfl, st5⟩ := hres.ok _ hR
          have HS5 := Lib.hid (And.intro (HS2.out.1.trans hres.but) (And.intro (Own.but HS2.out.2.1 hres.but (by omega)) st5))
          have HR := Lib.hid hR
          clear hres hR st5 HS2
          have C := Lib.hid (string_any l5 w5)
          go_wp2_with fail
          refine C.out.mono ?_
          rintro e w6 ⟨rfl, hb6⟩
          clear C
          obtain ⟨hB, oR, st⟩ := HS5.out
          replace hB := hB.all hb6
          replace oR := oR.all hb6
          replace st := st.all hb6
          clear HS5 hb6
          have r0 := oR.cell (i := 0) rfl
          have r1 := oR.cell (i := 1) rfl
          have r2 := oR.cell (i := 2) rfl
          have r3 := oR.cell (i := 3) rfl
          have r4 := oR.cell (i := 4) rfl
          have g0 := oR.frozen 0
          have g1 := oR.frozen 1
          have g2 := oR.frozen 2
          have g3 := oR.frozen 3
          have g4 := oR.frozen 4
          have HS := Lib.hid (And.intro (own_put5 oR (.int .i64 3) (.int .i64 0) (sV l5) (.slice none 0 0) (.slice none 0 0)) (And.intro (hB.put5 (b := w.heap.size) (by omega) (.int .i64 3) (.int .i64 0) (sV l5) (.slice none 0 0) (.slice none 0 0)) (st.put5 (b := w.heap.size) (by omega) (.int .i64 3) (.int .i64 0) (sV l5) (.slice none 0 0) (.slice none 0 0))))
          clear hB oR st
          go_wp2
          clear r0 r1 r2 r3 r4 g0 g1 g2 g3 g4
          change bodyPost Tryd.prog Tryd.f41 _ _ _ (put5 w6 (w.heap.size) (.int .i64 3) (.int .i64 0) (sV l5) (.slice none 0 0) (.slice none 0 0))
          generalize put5 w6 (w.heap.size) (.int .i64 3) (.int .i64 0) (sV l5) (.slice none 0 0) (.slice none 0 0) = U at *
          obtain ⟨oS, hB, st⟩ := HS.out
          have c0 := oS.cell (i := 0) rfl
          have c1 := oS.cell (i := 1) rfl
          have c2 := oS.cell (i := 2) rfl
          have c3 := oS.cell (i := 3) rfl
          have c4 := oS.cell (i := 4) rfl
          exact bodyPost_ret (v := .agg #[.int .i64 3, .int .i64 0, sV l5, .slice none 0 0, .slice none 0 0]) (by simp [results, Tryd.results41, go_sem, c0, c1, c2, c3, c4]) rfl (Res.mkOk (b := (.mk 3 0 l5 [] [], n + 1, r6)) (by rw [valR_succ, HQ.out]; simp only [HBG.out, Bool.true_eq_false, if_false]; rw [if_neg HF.out]; unfold bodyR; simp only [if_neg h110, if_neg h116, if_neg h102, if_pos HK.out]; rw [HR.out]; rfl) hB ⟨⟨⟨3, 0, l5, none, 0, 0, none, 0, 0⟩, rfl, isA_leaf _ _ _ _ _⟩, st⟩)
      by_cases h91 : c.toNat = 91
      · have e110 : ¬ (c.toNat : Int) = 110 := by omega
        have e110' : ((c.toNat : Int) == 110) = false := by rw [beq_eq_false_iff_ne]; exact e110
        have e116 : ¬ (c.toNat : Int) = 116 := by omega
        have e116' : ((c.toNat : Int) == 116) = false := by rw [beq_eq_false_iff_ne]; exact e116
        have e102 : ¬ (c.toNat : Int) = 102 := by omega
        have e102' : ((c.toNat : Int) == 102) = false := by rw [beq_eq_false_iff_ne]; exact e102
        have e34 : ¬ (c.toNat : Int) = 34 := by omega
        have e34' : ((c.toNat : Int) == 34) = false := by rw [beq_eq_false_iff_ne]; exact e34
        have e91 : (c.toNat : Int) = 91 := by omega
        have HK := Lib.hid h91
        clear h91
        have C := Lib.hid (readList_of hl hd1 (by omega) (valR_ok f) IH.out hn1 HK.out HS2.out.2.2)
        go_wp2_with fail
        refine C.out.mono ?_
        rintro e w6 hres
        clear C
        cases hR : listR (valR f) (n + 1) r1 with
        | er a b =>
          obtain rfl := hres.er a b hR
          have HB := Lib.hid (HS2.out.1.trans hres.but)
          clear hres
          go_wp2
          exact ⟨rfl, Res.mkEr (k := a) (c := b) (by rw [valR_succ, HQ.out]; simp only [HBG.out, Bool.true_eq_false, if_false]; rw [if_neg HF.out]; unfold bodyR; simp only [if_neg h110, if_neg h116, if_neg h102, if_neg h34, if_pos HK.out]; exact hR) HB.out⟩
        | ok p =>
          obtain ⟨v, rfl, hqv⟩ := hres.ok _ hR
          obtain ⟨c9, rfl, hI⟩ := hqv.val
          have hB := HS2.out.1.trans hres.but
          have oR := Own.but HS2.out.2.1 hres.but (by omega)
          have st := hqv.st
          have hlt2 := HS2.out.2.1.lt
          have HR := Lib.hid hR
          have hI9 : IsA w6 (fun b => w.heap.size < b ∧ w.heap.size ≤ b) c9 _ := hI.mono (fun b hb => ⟨by omega, by omega⟩)
          clear hres hR hqv hI HS2
          have r0 := oR.cell (i := 0) rfl
          have r1 := oR.cell (i := 1) rfl
          have r2 := oR.cell (i := 2) rfl
          have r3 := oR.cell (i := 3) rfl
          have r4 := oR.cell (i := 4) rfl
          have g0 := oR.frozen 0
          have g1 := oR.frozen 1
          have g2 := oR.frozen 2
          have g3 := oR.frozen 3
          have g4 := oR.frozen 4
          have HS := Lib.hid (And.intro (own_put5 oR (.int .i64 c9.k) (.int .i64 c9.n) (sV c9.s) (.slice c9.la c9.ln c9.lc) (.slice c9.fa c9.fn c9.fc)) (And.intro (hB.put5 (b := w.heap.size) (by omega) (.int .i64 c9.k) (.int .i64 c9.n) (sV c9.s) (.slice c9.la c9.ln c9.lc) (.slice c9.fa c9.fn c9.fc)) (And.intro (st.put5 (b := w.heap.size) (by omega) (.int .i64 c9.k) (.int .i64 c9.n) (sV c9.s) (.slice c9.la c9.ln c9.lc) (.slice c9.fa c9.fn c9.fc)) (hI9.put5 (b := w.heap.size) (fun h => absurd h.1 (Nat.lt_irrefl _)) (.int .i64 c9.k) (.int .i64 c9.n) (sV c9.s) (.slice c9.la c9.ln c9.lc) (.slice c9.fa c9.fn c9.fc)))))
          clear hB oR st hI9
          go_wp2
          clear r0 r1 r2 r3 r4 g0 g1 g2 g3 g4
          change bodyPost Tryd.prog Tryd.f41 _ _ _ (put5 w6 (w.heap.size) (.int .i64 c9.k) (.int .i64 c9.n) (sV c9.s) (.slice c9.la c9.ln c9.lc) (.slice c9.fa c9.fn c9.fc))
          generalize put5 w6 (w.heap.size) (.int .i64 c9.k) (.int .i64 c9.n) (sV c9.s) (.slice c9.la c9.ln c9.lc) (.slice c9.fa c9.fn c9.fc) = U at *
          obtain ⟨oS, hB, st, hI9⟩ := HS.out
          have c0 := oS.cell (i := 0) rfl
          have c1 := oS.cell (i := 1) rfl
          have c2 := oS.cell (i := 2) rfl
          have c3 := oS.cell (i := 3) rfl
          have c4 := oS.cell (i := 4) rfl
          exact bodyPost_ret (v := c9.val) (by simp [results, Tryd.results41, go_sem, c0, c1, c2, c3, c4, VC.val]) rfl (Res.mkOk (b := p) (by rw [valR_succ, HQ.out]; simp only [HBG.out, Bool.true_eq_false, if_false]; rw [if_neg HF.out]; unfold bodyR; simp only [if_neg h110, if_neg h116, if_neg h102, if_neg h34, if_pos HK.out]; exact HR.out) hB ⟨⟨c9, rfl, hI9.mono (fun b hb => hb.2)⟩, st⟩)
      by_cases h123 : c.toNat = 123
      · have e110 : ¬ (c.toNat : Int) = 110 := by omega
        have e110' : ((c.toNat : Int) == 110) = false := by rw [beq_eq_false_iff_ne]; exact e110
        have e116 : ¬ (c.toNat : Int) = 116 := by omega
        have e116' : ((c.toNat : Int) == 116) = false := by rw [beq_eq_false_iff_ne]; exact e116
        have e102 : ¬ (c.toNat : Int) = 102 := by omega
        have e102' : ((c.toNat : Int) == 102) = false := by rw [beq_eq_false_iff_ne]; exact e102
        have e34 : ¬ (c.toNat : Int) = 34 := by omega
        have e34' : ((c.toNat : Int) == 34) = false := by rw [beq_eq_false_iff_ne]; exact e34
        have e91 : ¬ (c.toNat : Int) = 91 := by omega
        have e91' : ((c.toNat : Int) == 91) = false := by rw [beq_eq_false_iff_ne]; exact e91
        have e123 : (c.toNat : Int) = 123 := by omega
        have HK := Lib.hid h123
        clear h123
        have C := Lib.hid (readMap_of hl hd1 (by omega) (valR_ok f) IH.out hn1 HK.out HS2.out.2.2)
        go_wp2_with fail
        refine C.out.mono ?_
        rintro e w6 hres
        clear C
        cases hR : mapR (valR f) (n + 1) r1 with
        | er a b =>
          obtain rfl := hres.er a b hR
          have HB := Lib.hid (HS2.out.1.trans hres.but)
          clear hres
          go_wp2
          exact ⟨rfl, Res.mkEr (k := a) (c := b) (by rw [valR_succ, HQ.out]; simp only [HBG.out, Bool.true_eq_false, if_false]; rw [if_neg HF.out]; unfold bodyR; simp only [if_neg h110, if_neg h116, if_neg h102, if_neg h34, if_neg h91, if_pos HK.out]; exact hR) HB.out⟩
        | ok p =>
          obtain ⟨v, rfl, hqv⟩ := hres.ok _ hR
          obtain ⟨c9, rfl, hI⟩ := hqv.val
          have hB := HS2.out.1.trans hres.but
          have oR := Own.but HS2.out.2.1 hres.but (by omega)
          have st := hqv.st
          have hlt2 := HS2.out.2.1.lt
          have HR := Lib.hid hR
          have hI9 : IsA w6 (fun b => w.heap.size < b ∧ w.heap.size ≤ b) c9 _ := hI.mono (fun b hb => ⟨by omega, by omega⟩)
          clear hres hR hqv hI HS2
          have r0 := oR.cell (i := 0) rfl
          have r1 := oR.cell (i := 1) rfl
          have r2 := oR.cell (i := 2) rfl
          have r3 := oR.cell (i := 3) rfl
          have r4 := oR.cell (i := 4) rfl
          have g0 := oR.frozen 0
          have g1 := oR.frozen 1
          have g2 := oR.frozen 2
          have g3 := oR.frozen 3
          have g4 := oR.frozen 4
          have HS := Lib.hid (And.intro (own_put5 oR (.int .i64 c9.k) (.int .i64 c9.n) (sV c9.s) (.slice c9.la c9.ln c9.lc) (.slice c9.fa c9.fn c9.fc)) (And.intro (hB.put5 (b := w.heap.size) (by omega) (.int .i64 c9.k) (.int .i64 c9.n) (sV c9.s) (.slice c9.la c9.ln c9.lc) (.slice c9.fa c9.fn c9.fc)) (And.intro (st.put5 (b := w.heap.size) (by omega) (.int .i64 c9.k) (.int .i64 c9.n) (sV c9.s) (.slice c9.la c9.ln c9.lc) (.slice c9.fa c9.fn c9.fc)) (hI9.put5 (b := w.heap.size) (fun h => absurd h.1 (Nat.lt_irrefl _)) (.int .i64 c9.k) (.int .i64 c9.n) (sV c9.s) (.slice c9.la c9.ln c9.lc) (.slice c9.fa c9.fn c9.fc)))))
          clear hB oR st hI9
          go_wp2
          clear r0 r1 r2 r3 r4 g0 g1 g2 g3 g4
          change bodyPost Tryd.prog Tryd.f41 _ _ _ (put5 w6 (w.heap.size) (.int .i64 c9.k) (.int .i64 c9.n) (sV c9.s) (.slice c9.la c9.ln c9.lc) (.slice c9.fa c9.fn c9.fc))
          generalize put5 w6 (w.heap.size) (.int .i64 c9.k) (.int .i64 c9.n) (sV c9.s) (.slice c9.la c9.ln c9.lc) (.slice c9.fa c9.fn c9.fc) = U at *
          obtain ⟨oS, hB, st, hI9⟩ := HS.out
          have c0 := oS.cell (i := 0) rfl
          have c1 := oS.cell (i := 1) rfl
          have c2 := oS.cell (i := 2) rfl
          have c3 := oS.cell (i := 3) rfl
          have c4 := oS.cell (i := 4) rfl
          exact bodyPost_ret (v := c9.val) (by simp [results, Tryd.results41, go_sem, c0, c1, c2, c3, c4, VC.val]) rfl (Res.mkOk (b := p) (by rw [valR_succ, HQ.out]; simp only [HBG.out, Bool.true_eq_false, if_false]; rw [if_neg HF.out]; unfold bodyR; simp only [if_neg h110, if_neg h116, if_neg h102, if_neg h34, if_neg h91, if_pos HK.out]; exact HR.out) hB ⟨⟨c9, rfl, hI9.mono (fun b hb => hb.2)⟩, st⟩)
      have e110 : ¬ (c.toNat : Int) = 110 := by omega
      have e110' : ((c.toNat : Int) == 110) = false := by rw [beq_eq_false_iff_ne]; exact e110
      have e116 : ¬ (c.toNat : Int) = 116 := by omega
      have e116' : ((c.toNat : Int) == 116) = false := by rw [beq_eq_false_iff_ne]; exact e116
      have e102 : ¬ (c.toNat : Int) = 102 := by omega
      have e102' : ((c.toNat : Int) == 102) = false := by rw [beq_eq_false_iff_ne]; exact e102
      have e34 : ¬ (c.toNat : Int) = 34 := by omega
      have e34' : ((c.toNat : Int) == 34) = false := by rw [beq_eq_false_iff_ne]; exact e34
      have e91 : ¬ (c.toNat : Int) = 91 := by omega
      have e91' : ((c.toNat : Int) == 91) = false := by rw [beq_eq_false_iff_ne]; exact e91
      have e123 : ¬ (c.toNat : Int) = 123 := by omega
      have e123' : ((c.toNat : Int) == 123) = false := by rw [beq_eq_false_iff_ne]; exact e123
      have C := Lib.hid (readNumber_any hl HS2.out.2.2)
      go_wp2_with fail
      refine C.out.mono ?_
      rintro e w6 hres
      clear C
      cases hR : numR (c :: r1) with
      | er a b =>
        obtain rfl := hres.er a b hR
        have HB := Lib.hid (HS2.out.1.trans hres.but)
        clear hres
        go_wp2
        exact ⟨rfl, Res.mkEr (k := a) (c := b) (by rw [valR_succ, HQ.out]; simp only [HBG.out, Bool.true_eq_false, if_false]; rw [if_neg HF.out]; unfold bodyR; simp only [if_neg h110, if_neg h116, if_neg h102, if_neg h34, if_neg h91, if_neg h123]; rw [hR]; rfl) HB.out⟩
      | ok p =>
        obtain ⟨m5, r6⟩ := p
        obtain ⟨v, rfl, rfl, st⟩ := hres.ok _ hR
        have hB := HS2.out.1.trans hres.but
        have oR := Own.but HS2.out.2.1 hres.but (by omega)
        have HR := Lib.hid hR
        clear hres hR HS2
        have r0 := oR.cell (i := 0) rfl
        have r1 := oR.cell (i := 1) rfl
        have r2 := oR.cell (i := 2) rfl
        have r3 := oR.cell (i := 3) rfl
        have r4 := oR.cell (i := 4) rfl
        have g0 := oR.frozen 0
        have g1 := oR.frozen 1
        have g2 := oR.frozen 2
        have g3 := oR.frozen 3
        have g4 := oR.frozen 4
        have HS := Lib.hid (And.intro (own_put5 oR (.int .i64 2) (.int .i64 m5) (.string ⟨#[]⟩) (.slice none 0 0) (.slice none 0 0)) (And.intro (hB.put5 (b := w.heap.size) (by omega) (.int .i64 2) (.int .i64 m5) (.string ⟨#[]⟩) (.slice none 0 0) (.slice none 0 0)) (st.put5 (b := w.heap.size) (by omega) (.int .i64 2) (.int .i64 m5) (.string ⟨#[]⟩) (.slice none 0 0) (.slice none 0 0))))
        clear hB oR st
        go_wp2
        clear r0 r1 r2 r3 r4 g0 g1 g2 g3 g4
        change bodyPost Tryd.prog Tryd.f41 _ _ _ (put5 w6 (w.heap.size) (.int .i64 2) (.int .i64 m5) (.string ⟨#[]⟩) (.slice none 0 0) (.slice none 0 0))
        generalize put5 w6 (w.heap.size) (.int .i64 2) (.int .i64 m5) (.string ⟨#[]⟩) (.slice none 0 0) (.slice none 0 0) = U at *
        obtain ⟨oS, hB, st⟩ := HS.out
        have c0 := oS.cell (i := 0) rfl
        have c1 := oS.cell (i := 1) rfl
        have c2 := oS.cell (i := 2) rfl
        have c3 := oS.cell (i := 3) rfl
        have c4 := oS.cell (i := 4) rfl
        exact bodyPost_ret (v := .agg #[.int .i64 2, .int .i64 m5, .string ⟨#[]⟩, .slice none 0 0, .slice none 0 0]) (by simp [results, Tryd.results41, go_sem, c0, c1, c2, c3, c4]) rfl (Res.mkOk (b := (.mk 2 m5 [] [] [], n + 1, r6)) (by rw [valR_succ, HQ.out]; simp only [HBG.out, Bool.true_eq_false, if_false]; rw [if_neg HF.out]; unfold bodyR; simp only [if_neg h110, if_neg h116, if_neg h102, if_neg h34, if_neg h91, if_neg h123]; rw [HR.out]; rfl) hB ⟨⟨⟨2, m5, [], none, 0, 0, none, 0, 0⟩, rfl, isA_leaf _ _ _ _ _⟩, st⟩)
end Go.Proofs.YtjpmnlefjmdelaaDoor
