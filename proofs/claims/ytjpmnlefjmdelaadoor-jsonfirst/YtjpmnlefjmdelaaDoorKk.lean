/- A field. -/
import Derived.Test.YtjpmnlefjmdelaaDoorKiJ
import Derived.Test.YtjpmnlefjmdelaaDoorMvJ
import Derived.Test.YtjpmnlefjmdelaaDoorRu
namespace Go.Proofs.YtjpmnlefjmdelaaDoor
open Go.RowKit Go.Sort Go.Proofs.LawFrame

/-- a value that was read: new memory -/
structure QV (pb : Nat) (s : Str) (w : World) (p : T × Nat × Str) (w' : World) (v : Value) : Prop where
  val : ∃ c : VC, v = c.val ∧ IsA w' (fun b => w.heap.size ≤ b) c p.1
  st : St pb s p.2.2 (p.2.1 : Int) w'
/-- the contract of readValue at a depth -/
def RV (pb : Nat) (s : Str) (d : Int) (pv : PV) : Prop := ∀ (full : Bool) (n : Nat) (r : Str) (w : World), n ≤ 600 → St pb s r (n : Int) w → Calls Tryd.prog 41 #[.pointer (some ⟨pb, 0, none⟩), .int .i64 d, .bool full] w (Res pb s w (pv full n r) (QV pb s w))
structure QF (pb : Nat) (s : Str) (w : World) (p : (Str × T) × Nat × Str) (w' : World) (v : Value) : Prop where
  val : ∃ c : VC, v = .agg #[sV p.1.1, .int .i64 c.k, .int .i64 c.n, sV c.s, .slice c.la c.ln c.lc, .slice c.fa c.fn c.fc] ∧ IsA w' (fun b => w.heap.size ≤ b) c p.1.2
  st : St pb s p.2.2 (p.2.1 : Int) w'

def put6 (W : World) (b : Nat) (v0 v1 v2 v3 v4 v5 : Value) : World := (((((W.setCell ⟨b, 0, none⟩ v0).setCell ⟨b, 1, none⟩ v1).setCell ⟨b, 2, none⟩ v2).setCell ⟨b, 3, none⟩ v3).setCell ⟨b, 4, none⟩ v4).setCell ⟨b, 5, none⟩ v5
theorem own_put6 {W : World} {b : Nat} {a0 a1 a2 a3 a4 a5 : Value} {t : TypeId} (o : Own W b [a0, a1, a2, a3, a4, a5] t) (v0 v1 v2 v3 v4 v5 : Value) : Own (put6 W b v0 v1 v2 v3 v4 v5) b [v0, v1, v2, v3, v4, v5] t :=
  (((((o.set 0 v0).set 1 v1).set 2 v2).set 3 v3).set 4 v4).set 5 v5
theorem But.put6 {pb b : Nat} {w W : World} (h : But pb w W) (hb : w.heap.size ≤ b) (v0 v1 v2 v3 v4 v5 : Value) : But pb w (put6 W b v0 v1 v2 v3 v4 v5) :=
  (((((h.high hb 0 v0).high hb 1 v1).high hb 2 v2).high hb 3 v3).high hb 4 v4).high hb 5 v5
theorem St.put6 {pb b : Nat} {s r : Str} {n : Int} {W : World} (h : St pb s r n W) (hb : pb ≠ b) (v0 v1 v2 v3 v4 v5 : Value) : St pb s r n (put6 W b v0 v1 v2 v3 v4 v5) :=
  (((((h.set_ne hb 0 v0).set_ne hb 1 v1).set_ne hb 2 v2).set_ne hb 3 v3).set_ne hb 4 v4).set_ne hb 5 v5
theorem IsA.put6 {W : World} {A : Nat → Prop} {c : VC} {t : T} {b : Nat} (h : IsA W A c t) (hb : ¬ A b) (v0 v1 v2 v3 v4 v5 : Value) : IsA (put6 W b v0 v1 v2 v3 v4 v5) A c t :=
  (((((h.set hb 0 v0).set hb 1 v1).set hb 2 v2).set hb 3 v3).set hb 4 v4).set hb 5 v5

set_option maxHeartbeats 8000000 in
set_option maxRecDepth 4000 in
theorem readField_of {pb : Nat} {s r : Str} {n : Nat} {w : World} (hl : s.length ≤ 20000) {d : Int} {pv : PV} (hd1 : 0 ≤ d) (hd2 : d ≤ 100) (H : RV pb s (d + 1) pv) (m : Nat) (v : Value) (cs : List FC) (hm : cs.length + m = 64) (hn : n ≤ 600) (hv : Flat w v cs.length (cs.flatMap FC.cells)) (st : St pb s r (n : Int) w) (hsep : ∀ (w1 : World), But pb w w1 → Flat w1 v cs.length (cs.flatMap FC.cells)) :
    Calls Tryd.prog 101 #[.pointer (some ⟨pb, 0, none⟩), .int .i64 d, v] w (Res pb s w (fieldR pv m (cs.map (·.x)) n r) (QF pb s w)) := by
  have hpb := st.lt
  obtain ⟨ao, cp, rfl, -, -, -⟩ := hv.out
  have hB := But.allow (b := pb) (below_alloc w (.cells #[.string ⟨#[]⟩, .int .i64 0, .int .i64 0, .string ⟨#[]⟩, .slice none 0 0, .slice none 0 0] 43))
  have oR := Own.new w [.string ⟨#[]⟩, .int .i64 0, .int .i64 0, .string ⟨#[]⟩, .slice none 0 0, .slice none 0 0] 43
  have st' := st.all (below_alloc w (.cells #[.string ⟨#[]⟩, .int .i64 0, .int .i64 0, .string ⟨#[]⟩, .slice none 0 0, .slice none 0 0] 43))
  have HS := Lib.hid (And.intro hB (And.intro oR st'))
  have HSEP := Lib.hid hsep
  clear hB oR st' st hv hsep
  generalize hN : cs.length = N at *
  have HN := Lib.hid hN
  have hN64 : N ≤ 64 := by omega
  have HM := Lib.hid hm
  clear hN hm
  go_enter Tryd.func101, Tryd.ntmps101
  go_upto_region 1 with (fail)
  change Code.wp Tryd.prog _ _ _ (w.alloc (.cells #[.string ⟨#[]⟩, .int .i64 0, .int .i64 0, .string ⟨#[]⟩, .slice none 0 0, .slice none 0 0] 43))
  generalize w.alloc (.cells #[.string ⟨#[]⟩, .int .i64 0, .int .i64 0, .string ⟨#[]⟩, .slice none 0 0, .slice none 0 0] 43) = V at *
  have C := Lib.hid (peekBlanks_any hl HS.out.2.2)
  go_wp2_with fail
  refine C.out.mono ?_
  rintro e w1 hres
  clear C
  obtain ⟨q, hq⟩ : ∃ q, skp r = q := ⟨_, rfl⟩
  rw [hq] at hres
  have HQ := Lib.hid hq
  clear hq
  cases q with
  | nil =>
    obtain rfl := hres.er 0 3 rfl
    have HB := Lib.hid (HS.out.1.trans hres.but)
    clear hres
    go_wp2
    exact ⟨rfl, Res.mkEr (k := 0) (c := 3) (by unfold fieldR; rw [HQ.out]) HB.out⟩
  | cons c r1 =>
    obtain ⟨v, rfl, rfl, st1⟩ := hres.ok c rfl
    have HS1 := Lib.hid (And.intro (HS.out.1.trans hres.but) (And.intro (Own.but HS.out.2.1 hres.but (by omega)) st1))
    clear hres st1 HS
    by_cases h34 : c.toNat = 34
    case neg =>
      have q : ¬ (c.toNat : Int) = 34 := by omega
      have q' : ((c.toNat : Int) == 34) = false := by rw [beq_eq_false_iff_ne]; exact q
      have C := Lib.hid (fail_st 2 HS1.out.2.2)
      go_wp2_with fail
      refine C.out.mono ?_
      rintro e w7 ⟨rfl, rfl⟩
      go_wp2
      exact ⟨rfl, Res.mkEr (k := r1.length + 1) (c := 2) (by unfold fieldR; rw [HQ.out]; simp [h34]) HS1.out.1⟩
    have q : (c.toNat : Int) = 34 := by omega
    have H34 := Lib.hid h34
    clear h34
    by_cases hm0 : m = 0
    · have q64 : (N : Int) = 64 := by have := HM.out; omega
      have C := Lib.hid (fail_st 4 HS1.out.2.2)
      go_wp2_with fail
      refine C.out.mono ?_
      rintro e w7 ⟨rfl, rfl⟩
      go_wp2
      exact ⟨rfl, Res.mkEr (k := r1.length + 1) (c := 4) (by unfold fieldR; rw [HQ.out]; simp [H34.out, hm0]) HS1.out.1⟩
    have q64 : ¬ (N : Int) = 64 := by have := HM.out; omega
    have q64' : ((N : Int) == 64) = false := by rw [beq_eq_false_iff_ne]; exact q64
    obtain ⟨i0, hi0, hd0, o0⟩ := HS1.out.2.2.out
    have c1 := o0.cell (i := 1) rfl
    have HSTART : Hid ((i0 : Int) = ((s.length - (r1.length + 1) : Nat) : Int)) := Lib.hid (by have := (drop_byte hd0).2.2.2; rcases drop_byte hd0 with ⟨h, -⟩; omega)
    clear hd0 o0
    have C := Lib.hid (readName_any hl H34.out HS1.out.2.2)
    go_wp2_with fail
    clear c1
    refine C.out.mono ?_
    rintro e w2 hres
    clear C
    cases hR : nameR 0 r1 with
    | er a b =>
      obtain rfl := hres.er a b hR
      have HB := Lib.hid (HS1.out.1.trans hres.but)
      clear hres
      go_wp2
      exact ⟨rfl, Res.mkEr (k := a) (c := b) (by unfold fieldR; rw [HQ.out]; simp [H34.out, hm0, hR]) HB.out⟩
    | ok p =>
      obtain ⟨nm, r2⟩ := p
      obtain ⟨v, rfl, rfl, st2⟩ := hres.ok _ hR
      have HR1 := Lib.hid hR
      have hb2 := HS1.out.1.trans hres.but
      have oR2 := Own.but HS1.out.2.1 hres.but (by omega)
      have hbN := below_alloc w2 (.cells #[sV nm] 9)
      have oN := Own.new w2 [sV nm] 9
      have hs2 := hb2.size
      have HS2 := Lib.hid (And.intro (hb2.all hbN) (And.intro (oR2.all hbN) (And.intro (st2.all hbN) oN)))
      clear hres hR st2 hb2 oR2 hbN oN HS1
      go_upto_region 7 with (fail)
      change Code.wp Tryd.prog _ _ _ (w2.alloc (.cells #[sV nm] 9))
      generalize w2.alloc (.cells #[sV nm] 9) = V2 at *
      have C := Lib.hid (containsF_any nm w2.heap.size (.slice ao N cp) cs V2 (by have := HSEP.out V2 HS2.out.1; rw [HN.out]; exact this) (by rw [HN.out]; omega) (HS2.out.2.2.2.cell (i := 0) rfl))
      go_wp2_with fail
      refine C.out.mono ?_
      rintro e w3 ⟨rfl, hb3⟩
      have HS3 := Lib.hid (And.intro (HS2.out.1.all hb3) (And.intro (HS2.out.2.1.all hb3) (And.intro (HS2.out.2.2.1.all hb3) (HS2.out.2.2.2.all hb3))))
      clear hb3 C HS2
      by_cases hin : nm ∈ cs.map (·.x)
      · have HIN := Lib.hid hin
        rw [decide_eq_true hin]
        clear hin
        have C := Lib.hid (failAt_any pb i0 8 w3)
        go_wp2_with fail
        refine C.out.mono ?_
        rintro e w6 ⟨rfl, rfl⟩
        go_wp2
        refine ⟨rfl, ?_⟩
        rw [HSTART.out]
        exact Res.mkEr (k := r1.length + 1) (c := 8) (by unfold fieldR; rw [HQ.out]; simp only [H34.out, hm0, HR1.out, if_pos HIN.out, not_true_eq_false, if_false]) HS3.out.1
      · have HIN := Lib.hid hin
        rw [decide_eq_false hin]
        clear hin
        have C := Lib.hid (skipBlanks_any hl HS3.out.2.2.1)
        go_wp2_with fail
        refine C.out.mono ?_
        rintro e w4 ⟨rfl, hb4, st4⟩
        have HS4 := Lib.hid (And.intro (HS3.out.1.trans hb4) (And.intro (Own.but HS3.out.2.1 hb4 (by omega)) (And.intro st4 (Own.but HS3.out.2.2.2 hb4 (by omega)))))
        clear hb4 st4 C HS3
        have C := Lib.hid (readByte_any hl (c := 58) (ci := 58) rfl HS4.out.2.2.1)
        go_wp2_with fail
        refine C.out.mono ?_
        rintro e w5 hres
        clear C
        cases hR : byteR 58 (skp r2) with
        | er a b =>
          obtain rfl := hres.er a b hR
          have HB := Lib.hid (HS4.out.1.trans hres.but)
          clear hres
          go_wp2
          exact ⟨rfl, Res.mkEr (k := a) (c := b) (by unfold fieldR; rw [HQ.out]; simp only [H34.out, hm0, HR1.out, if_neg HIN.out, hR, not_true_eq_false, if_false]) HB.out⟩
        | ok r3 =>
          obtain ⟨v, rfl, rfl, st5⟩ := hres.ok _ hR
          have HR2 := Lib.hid hR
          have HS5 := Lib.hid (And.intro (HS4.out.1.trans hres.but) (And.intro (Own.but HS4.out.2.1 hres.but (by omega)) (And.intro st5 (Own.but HS4.out.2.2.2 hres.but (by omega)))))
          have hs5 := hres.but.size
          clear hres hR st5 HS4
          go_upto_region 11 with (fail)
          have hwr : IntKind.i64.wrap (d + 1) = d + 1 := by rw [IntKind.wrap_i64]; omega
          have n0 := HS5.out.2.2.2.drew.cell (i := 0) rfl
          have C := Lib.hid (H false n r3 w5.drew hn (HS5.out.2.2.1.all ((Below.refl _ _).drew)))
          refine One.wp_region_one 6 4 (fun u w' => But pb w5.drew w' ∧ ∃ (t : T) (n' : Nat) (r4 : Str), pv false n r3 = .ok (t, n', r4) ∧ QV pb s w5.drew (t, n', r4) w' u) (fun u => ∃ c : VC, u = c.val) (fun chain w' => But pb w5.drew w' ∧ ∃ a b, pv false n r3 = .er a b ∧ Ending.panicked chain = failR s a b) (by kernel_rfl) (by kernel_rfl) ⟨VC0.val, VC0, rfl⟩ ?_ ?_
          · rintro chain a' w9 hd9 ⟨hb9, x, y, hR, he⟩
            exact ⟨hd9, he ▸ Res.mkEr (k := x) (c := y) (by unfold fieldR; rw [HQ.out]; simp only [H34.out, hm0, HR1.out, if_neg HIN.out, HR2.out, not_true_eq_false, if_false]; rw [hR]) (HS5.out.1.drew.trans hb9)⟩
          · simp only [List.take_succ_cons, List.take_zero, List.drop_succ_cons, List.drop_zero]
            refine One.wpO_read (sV nm) rfl (by decide) rfl (by rintro _ rfl; go_simp; exact ⟨rfl, rfl⟩) (by rintro u w9 ⟨hb9, -⟩; have n9 := (Own.but HS5.out.2.2.2.drew hb9 (by omega)).cell (i := 0) rfl; go_simp; exact ⟨rfl, rfl⟩) ?_
            refine One.wpO_read (.pointer (some ⟨pb, 0, none⟩)) rfl (by decide) rfl (by rintro _ rfl; go_simp; exact ⟨rfl, rfl⟩) (by rintro u w9 ⟨hb9, -⟩; have n9 := (Own.but HS5.out.2.2.2.drew hb9 (by omega)).cell (i := 0) rfl; go_simp; exact ⟨rfl, rfl⟩) ?_
            refine One.wpO_read (.int .i64 d) rfl (by decide) rfl (by rintro _ rfl; go_simp; exact ⟨rfl, rfl⟩) (by rintro u w9 ⟨hb9, -⟩; have n9 := (Own.but HS5.out.2.2.2.drew hb9 (by omega)).cell (i := 0) rfl; go_simp; exact ⟨rfl, rfl⟩) ?_
            refine One.wpO_read (.int .i64 (d + 1)) rfl (by decide) rfl (by rintro _ rfl; go_simp; exact ⟨rfl, rfl⟩) (by rintro u w9 ⟨hb9, -⟩; have n9 := (Own.but HS5.out.2.2.2.drew hb9 (by omega)).cell (i := 0) rfl; go_simp; exact ⟨rfl, rfl⟩) ?_
            refine One.wpO_call rfl rfl ?_ ?_
            · rintro _ rfl
              go_simp
              simp only [One.callUpon]
              refine ⟨trivial, C.out.mono ?_⟩
              rintro e w9 hres
              cases hR : pv false n r3 with
              | er x y => exact Or.inr ⟨_, hres.er x y hR, hres.but, x, y, rfl, rfl⟩
              | ok p =>
                obtain ⟨t, n', r4⟩ := p
                obtain ⟨v, rfl, hq⟩ := hres.ok _ hR
                obtain ⟨c9, h9, -⟩ := hq.val
                exact Or.inl ⟨v, rfl, ⟨c9, h9⟩, hres.but, t, n', r4, rfl, hq⟩
            · rintro u ⟨c6, rfl⟩
              refine One.wpO_read (.agg #[sV nm, .int .i64 c6.k, .int .i64 c6.n, sV c6.s, .slice c6.la c6.ln c6.lc, .slice c6.fa c6.fn c6.fc]) rfl (by decide) rfl (by rintro _ rfl; go_simp; exact ⟨rfl, rfl⟩) (by rintro u w9 ⟨hb9, -⟩; go_simp; exact ⟨rfl, rfl⟩) ?_
              refine One.wpO_end ?_
              rintro w6 ⟨hb6, t, n', r4, hR, hq⟩
              obtain ⟨c6', he6, hI6⟩ := hq.val
              obtain rfl := VC.val_inj he6
              have HR3 := Lib.hid hR
              have hB := HS5.out.1.drew.trans hb6
              have oR := Own.but HS5.out.2.1.drew hb6 (by omega)
              have r0 := oR.cell (i := 0) rfl
              have r1' := oR.cell (i := 1) rfl
              have r2' := oR.cell (i := 2) rfl
              have r3' := oR.cell (i := 3) rfl
              have r4' := oR.cell (i := 4) rfl
              have r5' := oR.cell (i := 5) rfl
              have g0 := oR.frozen 0
              have g1 := oR.frozen 1
              have g2 := oR.frozen 2
              have g3 := oR.frozen 3
              have g4 := oR.frozen 4
              have g5 := oR.frozen 5
              have hlt5 := HS5.out.2.1.lt
              have HS := Lib.hid (And.intro (own_put6 oR (sV nm) (.int .i64 c6.k) (.int .i64 c6.n) (sV c6.s) (.slice c6.la c6.ln c6.lc) (.slice c6.fa c6.fn c6.fc)) (And.intro (hB.put6 (b := w.heap.size) (by omega) (sV nm) (.int .i64 c6.k) (.int .i64 c6.n) (sV c6.s) (.slice c6.la c6.ln c6.lc) (.slice c6.fa c6.fn c6.fc)) (And.intro (hq.st.put6 (b := w.heap.size) (by omega) (sV nm) (.int .i64 c6.k) (.int .i64 c6.n) (sV c6.s) (.slice c6.la c6.ln c6.lc) (.slice c6.fa c6.fn c6.fc)) (hI6.put6 (b := w.heap.size) (by show ¬ w5.heap.size ≤ w.heap.size; omega) (sV nm) (.int .i64 c6.k) (.int .i64 c6.n) (sV c6.s) (.slice c6.la c6.ln c6.lc) (.slice c6.fa c6.fn c6.fc)))))
              clear hB oR hI6 hq hR n0 C he6 hb6
              go_wp2
              clear r0 r1' r2' r3' r4' r5' g0 g1 g2 g3 g4 g5
              change bodyPost Tryd.prog Tryd.f101 _ _ _ (put6 w6 (w.heap.size) (sV nm) (.int .i64 c6.k) (.int .i64 c6.n) (sV c6.s) (.slice c6.la c6.ln c6.lc) (.slice c6.fa c6.fn c6.fc))
              generalize put6 w6 (w.heap.size) (sV nm) (.int .i64 c6.k) (.int .i64 c6.n) (sV c6.s) (.slice c6.la c6.ln c6.lc) (.slice c6.fa c6.fn c6.fc) = U at *
              obtain ⟨oS, hB, st, hI⟩ := HS.out
              have c0 := oS.cell (i := 0) rfl
              have c1 := oS.cell (i := 1) rfl
              have c2 := oS.cell (i := 2) rfl
              have c3 := oS.cell (i := 3) rfl
              have c4 := oS.cell (i := 4) rfl
              have c5 := oS.cell (i := 5) rfl
              exact bodyPost_ret (v := .agg #[sV nm, .int .i64 c6.k, .int .i64 c6.n, sV c6.s, .slice c6.la c6.ln c6.lc, .slice c6.fa c6.fn c6.fc]) (by simp [results, Tryd.results101, go_sem, c0, c1, c2, c3, c4, c5]) rfl (Res.mkOk (b := ((nm, t), n', r4)) (by unfold fieldR; rw [HQ.out]; simp only [H34.out, hm0, HR1.out, if_neg HIN.out, HR2.out, not_true_eq_false, if_false]; rw [HR3.out]) hB ⟨⟨c6, rfl, hI.mono (fun b hb => by have hb' : w5.heap.size ≤ b := hb; omega)⟩, st⟩)
end Go.Proofs.YtjpmnlefjmdelaaDoor
