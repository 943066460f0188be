/- The reference's parser: lists. The reference's parser: a field. The reference's parser: maps. The reference's Parse; the law JsonParses, walked. -/
import Derived.Test.YtjpmnlefjmdelaaGreatDoorQeJ
import Derived.Test.YtjpmnlefjmdelaaGreatDoorNl
namespace Go.Proofs.YtjpmnlefjmdelaaGreatDoor
open Go.RowKit Go.Sort Go.Proofs.LawFrame

theorem acc_isA {base : Nat} {A : Nat → Prop} {ao : Option Addr} {n cap : Nat} {w : World} {cs : List VC} {l : List T} (h : AccV base (.slice ao n cap) w cs l) (ho : w.ownsRow base 25 5 (.slice ao n cap) cs.length (cs.flatMap VC.cells)) (hA : ∀ b, base ≤ b → A b) : IsA w A ⟨4, 0, [], ao, n, cap, none, 0, 0⟩ (.mk 4 0 [] l []) :=
  .mk (c := ⟨4, 0, [], ao, n, cap, none, 0, 0⟩) cs [] h.len ((flatA_of_own (h.len ▸ ho)).keep (Nat.le_refl _) hA (fun _ _ _ => rfl)) (fun i x t hx ht => (h.all i x t hx ht).mono (fun b hb => hA b hb.1)) rfl (FlatA.nil _ _ _) (fun i x t h => by simp at h) (fun i x t h => by simp at h)
def elL : R (List T × Nat × Str) → R (T × Nat × Str)
  | .er a b => .er a b
  | .ok (l, n, r) => .ok (.mk 4 0 [] l [], n, r)
theorem listR_elems {pv : PV} {n : Nat} {r : Str} {c : UInt8} {q : Str} (hs : skp r = c :: q) (hc : ¬ c.toNat = 93) : listR pv n r = elL (elemsR pv 64 n r) := by
  unfold listR; rw [hs]; simp only; rw [if_neg hc]; cases elemsR pv 64 n r <;> rfl
theorem listR_nil {pv : PV} {n : Nat} {r : Str} (hs : skp r = []) : listR pv n r = .er 0 3 := by unfold listR; rw [hs]
theorem listR_close {pv : PV} {n : Nat} {r : Str} {c : UInt8} {q : Str} (hs : skp r = c :: q) (hc : c.toNat = 93) : listR pv n r = .ok (.mk 4 0 [] [] [], n, q) := by unfold listR; rw [hs]; simp only; rw [if_pos hc]

theorem valR_nil (f : Nat) (full : Bool) (n : Nat) {r : Str} (h : skp r = []) : valR f full n r = .er 0 3 := by
  cases f with
  | zero => rw [valR_zero, h]
  | succ f => rw [valR_succ, h]
set_option maxHeartbeats 16000000 in
set_option maxRecDepth 4000 in
theorem relements_of {s : Str} (hl : s.length ≤ 20000) {f : Nat} {d : Int} (hd1 : 1 ≤ d) (hd2 : d ≤ 12) (HVr : RVr s (valR f) (d + 1)) : REr s (valR f) d := by
  intro n r i w hn h
  obtain ⟨iE, hiE, hzE, hsE, hyE⟩ := info_parts info25
  have hbA := ((below_alloc w (.cells #[.int .i64 0, .int .i64 0, .string ⟨#[]⟩, .slice none 0 0, .slice none 0 0] 25)).alloc (by rw [size_alloc]; omega) (.cells #[.int .i64 0, .int .i64 0] 75)).alloc (by rw [size_alloc, size_alloc]; omega) (.cells #[.int .i64 4, .int .i64 0, .string ⟨#[]⟩, .slice none 0 0, .slice none 0 0] 25)
  have oA := ((Own.new w [.int .i64 0, .int .i64 0, .string ⟨#[]⟩, .slice none 0 0, .slice none 0 0] 25).alloc (.cells #[.int .i64 0, .int .i64 0] 75)).alloc (.cells #[.int .i64 4, .int .i64 0, .string ⟨#[]⟩, .slice none 0 0, .slice none 0 0] 25)
  have oB : Own (((w.alloc (.cells #[.int .i64 0, .int .i64 0, .string ⟨#[]⟩, .slice none 0 0, .slice none 0 0] 25)).alloc (.cells #[.int .i64 0, .int .i64 0] 75)).alloc (.cells #[.int .i64 4, .int .i64 0, .string ⟨#[]⟩, .slice none 0 0, .slice none 0 0] 25)) (w.heap.size + 1) [.int .i64 0, .int .i64 0] 75 := (Own.new_at (by rw [size_alloc]) _ _).alloc _
  have oC : Own (((w.alloc (.cells #[.int .i64 0, .int .i64 0, .string ⟨#[]⟩, .slice none 0 0, .slice none 0 0] 25)).alloc (.cells #[.int .i64 0, .int .i64 0] 75)).alloc (.cells #[.int .i64 4, .int .i64 0, .string ⟨#[]⟩, .slice none 0 0, .slice none 0 0] 25)) (w.heap.size + 1 + 1) [.int .i64 4, .int .i64 0, .string ⟨#[]⟩, .slice none 0 0, .slice none 0 0] 25 := Own.new_at (by rw [size_alloc, size_alloc]) _ _
  have HV := Lib.hid (And.intro hbA (And.intro oA (And.intro oB oC)))
  clear hbA oA oB oC
  have CK := fun w => Lib.hid (rskip_any hl h w)
  go_enter Tryz.func96, Tryz.ntmps96
  go_upto_region 2 with (fail)
  change Code.wp Tryz.prog _ _ _ (((w.alloc (.cells #[.int .i64 0, .int .i64 0, .string ⟨#[]⟩, .slice none 0 0, .slice none 0 0] 25)).alloc (.cells #[.int .i64 0, .int .i64 0] 75)).alloc (.cells #[.int .i64 4, .int .i64 0, .string ⟨#[]⟩, .slice none 0 0, .slice none 0 0] 25))
  generalize ((w.alloc (.cells #[.int .i64 0, .int .i64 0, .string ⟨#[]⟩, .slice none 0 0, .slice none 0 0] 25)).alloc (.cells #[.int .i64 0, .int .i64 0] 75)).alloc (.cells #[.int .i64 4, .int .i64 0, .string ⟨#[]⟩, .slice none 0 0, .slice none 0 0] 25) = V at *
  have C := CK V
  clear CK
  go_wp2_with fail
  refine C.out.mono ?_
  rintro e w1 ⟨j, rfl, hp, rfl⟩
  clear C
  obtain ⟨q, hq⟩ : ∃ q, skp r = q := ⟨_, rfl⟩
  rw [hq] at hp
  have HQS := Lib.hid hq
  have HSQ : Hid (skp q = q) := Lib.hid (by rw [← hq, skp_skp])
  have HP := Lib.hid hp
  clear hq
  have hVs := HV.out.2.2.2.lt
  have key : (∃ c q2, q = c :: q2 ∧ c.toNat = 93) ∨ ((∀ c q2, q = c :: q2 → ¬ c.toNat = 93)) := by
    cases q with
    | nil => exact Or.inr (fun c q2 h => by cases h)
    | cons c q2 =>
      by_cases h93 : c.toNat = 93
      · exact Or.inl ⟨c, q2, rfl, h93⟩
      · exact Or.inr (fun c' q2' h => by cases h; exact h93)
  rcases key with ⟨c, q2, rfl, h93⟩ | hno
  · obtain ⟨hlt, hc, hd', hlen⟩ := drop_byte hp.dr
    have hm : ((⟨s.toArray⟩ : ByteArray)[j]'hlt).toNat = c.toNat := by rw [← hc]; rfl
    have e93 : (c.toNat : Int) = 93 := by omega
    have HR : Hid (listR (valR f) n r = .ok (.mk 4 0 [] [] [], n, q2)) := Lib.hid (listR_close HQS.out h93)
    have HN := Lib.hid (hp.next)
    clear hc hd' hlen hp h93
    have u0 := HV.out.2.2.2.cell (i := 0) rfl
    have u1 := HV.out.2.2.2.cell (i := 1) rfl
    have u2 := HV.out.2.2.2.cell (i := 2) rfl
    have u3 := HV.out.2.2.2.cell (i := 3) rfl
    have u4 := HV.out.2.2.2.cell (i := 4) rfl
    have r0 := HV.out.2.1.cell (i := 0) rfl
    have r1 := HV.out.2.1.cell (i := 1) rfl
    have r2 := HV.out.2.1.cell (i := 2) rfl
    have r3 := HV.out.2.1.cell (i := 3) rfl
    have r4 := HV.out.2.1.cell (i := 4) rfl
    have g0 := HV.out.2.1.frozen 0
    have g1 := HV.out.2.1.frozen 1
    have g2 := HV.out.2.1.frozen 2
    have g3 := HV.out.2.1.frozen 3
    have g4 := HV.out.2.1.frozen 4
    have y0 := HV.out.2.2.1.cell (i := 0) rfl
    have y1 := HV.out.2.2.1.cell (i := 1) rfl
    have z0 := HV.out.2.2.1.frozen 0
    have z1 := HV.out.2.2.1.frozen 1
    have HF := Lib.hid (And.intro (fin_own HV.out.2.1 HV.out.2.2.1 (by omega) (.int .i64 4) (.int .i64 0) (.string ⟨#[]⟩) (.slice none 0 0) (.slice none 0 0) (.int .i64 (0)) (.int .i64 (0))).1 (And.intro (fin_own HV.out.2.1 HV.out.2.2.1 (by omega) (.int .i64 4) (.int .i64 0) (.string ⟨#[]⟩) (.slice none 0 0) (.slice none 0 0) (.int .i64 (0)) (.int .i64 (0))).2 (And.intro (below_put7 HV.out.1 (Nat.le_refl _) (Nat.le_succ _) (.int .i64 4) (.int .i64 0) (.string ⟨#[]⟩) (.slice none 0 0) (.slice none 0 0) (.int .i64 (0)) (.int .i64 (0))) (trivial))))
    go_wp2
    clear r0 r1 r2 r3 r4 g0 g1 g2 g3 g4 y0 y1 z0 z1
    change bodyPost Tryz.prog Tryz.f96 _ _ _ (put7 V w.heap.size (w.heap.size + 1) (.int .i64 4) (.int .i64 0) (.string ⟨#[]⟩) (.slice none 0 0) (.slice none 0 0) (.int .i64 (0)) (.int .i64 (0)))
    generalize put7 V w.heap.size (w.heap.size + 1) (.int .i64 4) (.int .i64 0) (.string ⟨#[]⟩) (.slice none 0 0) (.slice none 0 0) (.int .i64 (0)) (.int .i64 (0)) = U at *
    obtain ⟨oS, o2S, hBU, hIU⟩ := HF.out
    have c0 := oS.cell (i := 0) rfl
    have c1 := oS.cell (i := 1) rfl
    have c2 := oS.cell (i := 2) rfl
    have c3 := oS.cell (i := 3) rfl
    have c4 := oS.cell (i := 4) rfl
    have d0 := o2S.cell (i := 0) rfl
    have d1 := o2S.cell (i := 1) rfl
    exact bodyPost_ret (v := .tuple #[.agg #[.int .i64 4, .int .i64 0, .string ⟨#[]⟩, .slice none 0 0, .slice none 0 0], .int .i64 ((j + 1 : Nat)), .int .i64 (n), faultV (0) (0)]) (by simp [results, Tryz.results96, go_sem, c0, c1, c2, c3, c4, d0, d1, VC.val, VC0, faultV]) rfl (QVr.mkOk (c := ⟨4, 0, [], none, 0, 0, none, 0, 0⟩) (j := j + 1) HR.out hBU HN.out (isA_leaf _ _ _ _ _) rfl)
  · have hgo : ¬ (j : Int) < (s.length : Int) ∨ ∃ c q2, q = c :: q2 ∧ ¬ c.toNat = 93 := by
      cases q with
      | nil => exact Or.inl (by have := hp.fin; omega)
      | cons c q2 => exact Or.inr ⟨c, q2, rfl, hno c q2 rfl⟩
    have HLR : Hid (listR (valR f) n r = elL (elemsR (valR f) 64 n r)) := Lib.hid (by
      cases q with
      | nil => rw [listR_nil HQS.out, elemsR, valR_nil f _ _ HQS.out]; rfl
      | cons c q2 => exact listR_elems HQS.out (hno c q2 rfl))
    clear hno
    rcases hgo with hgo | ⟨c, q2, hqc, h93⟩
    · clear hp h
      go_wp2
      go_loopg [3, 13] 65 (fun g v3 v13 wr => ∃ (m : Nat) (cs : List VC) (l : List T) (n' : Nat) (r' : Str) (j' : Nat) (v : Value), g = m + 1 ∧ cs.length + m = 64 ∧ n' ≤ 600 ∧ v3 = .int .i64 n' ∧ v13 = .int .i64 j' ∧ j' ≤ s.length ∧ s.drop j' = r' ∧ Below w.heap.size w wr ∧ Own wr w.heap.size [.int .i64 0, .int .i64 0, .string ⟨#[]⟩, .slice none 0 0, .slice none 0 0] 25 ∧ Own wr (w.heap.size + 1) [.int .i64 0, .int .i64 0] 75 ∧ Own wr (w.heap.size + 1 + 1) [.int .i64 4, .int .i64 0, .string ⟨#[]⟩, v, .slice none 0 0] 25 ∧ wr.ownsRow (w.heap.size + 1 + 1 + 1) 25 5 v cs.length (cs.flatMap VC.cells) ∧ AccV (w.heap.size + 1 + 1 + 1) v wr cs l ∧ Hid (skp r' = r' ∧ elemsR (valR f) 64 n r = prepL l (elemsR (valR f) m n' r')))
      case atStart => exact ⟨64, [], [], n, _, j, .slice none 0 0, rfl, by simp, hn, rfl, rfl, HP.out.le, HP.out.dr, HV.out.1, HV.out.2.1, HV.out.2.2.1, HV.out.2.2.2, own_nil _ _ _ _, AccV.nil _ _ _, Lib.hid ⟨HSQ.out, by rw [prepL_nil, ← HQS.out]; rw [elemsR, elemsR, (valR_ok f).skp]⟩⟩
      case round =>
        obtain ⟨m, cs, l, n', r', j', v, hg, hm, hn', rfl, rfl, hj, hd, hb, oA, oB, oC, hown, hA, HE0⟩ := hrel
        have HE : Hid (elemsR (valR f) 64 n r = prepL l (elemsR (valR f) m n' r')) := Lib.hid HE0.out.2
        have HG := Lib.hid hg
        have HAL := Lib.hid hA.len
        have C := Lib.hid (HVr (decide (m = 0)) n' r' j' wr hn' ⟨hj, hd⟩ HE0.out.1)
        have HD := Lib.hid hd
        clear hg HE0 HV HP HQS HSQ hd
        obtain ⟨ao, cap, hu, -, -, -⟩ := (Flat.of_own hown).out
        have hfull : (((cs.length : Nat) : Int) == 64) = decide (m = 0) := by
          by_cases h : m = 0
          · rw [decide_eq_true h, beq_iff_eq]; omega
          · rw [decide_eq_false h, beq_eq_false_iff_ne]; omega
        subst hu
        generalize hN : cs.length = M at *
        have HN := Lib.hid hN
        have hM64 : M ≤ 64 := by omega
        have HM := Lib.hid hm
        obtain ⟨fb, hfb⟩ : ∃ fb, decide (m = 0) = fb := ⟨_, rfl⟩
        rw [hfb] at hfull C
        have HFB := Lib.hid hfb
        have u3 := oC.cell (i := 3) rfl
        have hwr := oC.lt
        have HS := Lib.hid (And.intro hb (And.intro oA (And.intro oB (And.intro oC (And.intro hown hA)))))
        clear hN hm hfb hb oA oB oC hown hA
        go_wp2_with fail
        refine C.out.mono ?_
        rintro e w5 hq
        clear C u3
        have hs5 := hq.below.size
        cases hR : valR f fb n' r' with
        | er k b =>
          obtain ⟨c6, j6, m6, rfl⟩ := hq.er k b hR
          have HNZ : ¬ b = 0 := by have := nz_valR f fb n' r'; rw [hR] at this; exact this
          have HQ : Hid (listR (valR f) n r = .er k b) := Lib.hid (by rw [HLR.out, HE.out, elemsR, HFB.out, hR]; rfl)
          have hX := (below_all HS.out.1 hq.below).alloc (below_all HS.out.1 hq.below).size (.cells #[.int .i64 c6.k, .int .i64 c6.n, sV c6.s, .slice c6.la c6.ln c6.lc, .slice c6.fa c6.fn c6.fc] 25)
          have oAX := ((HS.out.2.1.all hq.below).alloc (.cells #[.int .i64 c6.k, .int .i64 c6.n, sV c6.s, .slice c6.la c6.ln c6.lc, .slice c6.fa c6.fn c6.fc] 25)).alloc (.cells #[.int .i64 ((s.length - k : Nat) : Int), .int .i64 b] 75)
          have oBX := ((HS.out.2.2.1.all hq.below).alloc (.cells #[.int .i64 c6.k, .int .i64 c6.n, sV c6.s, .slice c6.la c6.ln c6.lc, .slice c6.fa c6.fn c6.fc] 25)).alloc (.cells #[.int .i64 ((s.length - k : Nat) : Int), .int .i64 b] 75)
          have oTX : Own ((w5.alloc (.cells #[.int .i64 c6.k, .int .i64 c6.n, sV c6.s, .slice c6.la c6.ln c6.lc, .slice c6.fa c6.fn c6.fc] 25)).alloc (.cells #[.int .i64 ((s.length - k : Nat) : Int), .int .i64 b] 75)) (w5.heap.size + 1) [.int .i64 ((s.length - k : Nat) : Int), .int .i64 b] 75 := Own.new_at (by rw [size_alloc]) _ _
          have HX := Lib.hid (And.intro (hX.alloc hX.size (.cells #[.int .i64 ((s.length - k : Nat) : Int), .int .i64 b] 75)) (And.intro oAX (And.intro oBX oTX)))
          have hneb : (b != 0) = true := by rw [bne_iff_ne]; exact HNZ
          clear hR hq hX oAX oBX oTX HS
          go_upto_region 6 with (fail)
          change Code.wp Tryz.prog _ _ _ ((w5.alloc (.cells #[.int .i64 c6.k, .int .i64 c6.n, sV c6.s, .slice c6.la c6.ln c6.lc, .slice c6.fa c6.fn c6.fc] 25)).alloc (.cells #[.int .i64 ((s.length - k : Nat) : Int), .int .i64 b] 75))
          generalize (w5.alloc (.cells #[.int .i64 c6.k, .int .i64 c6.n, sV c6.s, .slice c6.la c6.ln c6.lc, .slice c6.fa c6.fn c6.fc] 25)).alloc (.cells #[.int .i64 ((s.length - k : Nat) : Int), .int .i64 b] 75) = X at *
          have t0 := HX.out.2.2.2.cell (i := 0) rfl
          have t1 := HX.out.2.2.2.cell (i := 1) rfl
          have ne1 : ¬ w5.heap.size + 1 = w.heap.size := by omega
          have ne2 : ¬ w5.heap.size + 1 = w.heap.size + 1 := by omega
          have ne3 : ¬ w.heap.size = w5.heap.size + 1 := by omega
          have ne4 : ¬ w5.heap.size = w.heap.size := by omega
          have ne5 : ¬ w.heap.size = w5.heap.size := by omega
          have r0 := HX.out.2.1.cell (i := 0) rfl
          have r1 := HX.out.2.1.cell (i := 1) rfl
          have r2 := HX.out.2.1.cell (i := 2) rfl
          have r3 := HX.out.2.1.cell (i := 3) rfl
          have r4 := HX.out.2.1.cell (i := 4) rfl
          have g0 := HX.out.2.1.frozen 0
          have g1 := HX.out.2.1.frozen 1
          have g2 := HX.out.2.1.frozen 2
          have g3 := HX.out.2.1.frozen 3
          have g4 := HX.out.2.1.frozen 4
          have y0 := HX.out.2.2.1.cell (i := 0) rfl
          have y1 := HX.out.2.2.1.cell (i := 1) rfl
          have z0 := HX.out.2.2.1.frozen 0
          have z1 := HX.out.2.2.1.frozen 1
          have HF := Lib.hid (And.intro (fin_own HX.out.2.1 HX.out.2.2.1 (by omega) (.int .i64 0) (.int .i64 0) (.string ⟨#[]⟩) (.slice none 0 0) (.slice none 0 0) (.int .i64 ((s.length - k : Nat))) (.int .i64 (b))).1 (And.intro (fin_own HX.out.2.1 HX.out.2.2.1 (by omega) (.int .i64 0) (.int .i64 0) (.string ⟨#[]⟩) (.slice none 0 0) (.slice none 0 0) (.int .i64 ((s.length - k : Nat))) (.int .i64 (b))).2 (And.intro (below_put7 HX.out.1 (Nat.le_refl _) (Nat.le_succ _) (.int .i64 0) (.int .i64 0) (.string ⟨#[]⟩) (.slice none 0 0) (.slice none 0 0) (.int .i64 ((s.length - k : Nat))) (.int .i64 (b))) (trivial))))
          go_upto_region 7 with (fail)
          go_region
          go_wp2
          clear t0 t1
          clear r0 r1 r2 r3 r4 g0 g1 g2 g3 g4 y0 y1 z0 z1
          change bodyPost Tryz.prog Tryz.f96 _ _ _ (put7 X w.heap.size (w.heap.size + 1) (.int .i64 0) (.int .i64 0) (.string ⟨#[]⟩) (.slice none 0 0) (.slice none 0 0) (.int .i64 ((s.length - k : Nat))) (.int .i64 (b))).drew
          generalize put7 X w.heap.size (w.heap.size + 1) (.int .i64 0) (.int .i64 0) (.string ⟨#[]⟩) (.slice none 0 0) (.slice none 0 0) (.int .i64 ((s.length - k : Nat))) (.int .i64 (b)) = U at *
          obtain ⟨oS, o2S, hBU, hIU⟩ := HF.out
          replace oS := oS.drew
          replace o2S := o2S.drew
          replace hBU := hBU.drew
          have c0 := oS.cell (i := 0) rfl
          have c1 := oS.cell (i := 1) rfl
          have c2 := oS.cell (i := 2) rfl
          have c3 := oS.cell (i := 3) rfl
          have c4 := oS.cell (i := 4) rfl
          have d0 := o2S.cell (i := 0) rfl
          have d1 := o2S.cell (i := 1) rfl
          exact bodyPost_ret (v := .tuple #[VC0.val, .int .i64 (0), .int .i64 (0), faultV ((s.length - k : Nat)) (b)]) (by simp [results, Tryz.results96, go_sem, c0, c1, c2, c3, c4, d0, d1, VC.val, VC0, faultV]) rfl (QVr.mkEr VC0 (k := k) (b := b) (j := 0) (m := 0) HQ.out hBU rfl)
        | ok p =>
          obtain ⟨t, n2, r2⟩ := p
          obtain ⟨c6, j6, hp6, hI6, rfl⟩ := hq.ok t n2 r2 hR
          have hR' : valR f (decide (m = 0)) n' r' = .ok (t, n2, r2) := by rw [HFB.out]; exact hR
          have hn2 := ((valR_ok f).size _ _ _ _ _ _ hn' hR').1
          have HR := Lib.hid hR'
          have hb5 := below_all HS.out.1 hq.below
          have hown5 := row_but HS.out.2.2.2.2.1 (But.allow (b := 0) hq.below) (by omega)
          have hrlt : ∀ k, (Value.slice ao M cap).ownBlock = some k → k < wr.heap.size := fun k h => (HS.out.2.2.2.2.1.lt k h).2
          have hrl := own_row hown5
          have hAN := (HS.out.2.2.2.2.2.below hq.below).snoc (c := c6) (t := t) (hI6.mono (fun b hb => ⟨by have : wr.heap.size ≤ b := hb; omega, fun e => by have := hrlt b e; have : wr.heap.size ≤ b := hb; omega⟩))
          have hX2 : Below w5.heap.size w5 ((w5.alloc (.cells #[.int .i64 c6.k, .int .i64 c6.n, sV c6.s, .slice c6.la c6.ln c6.lc, .slice c6.fa c6.fn c6.fc] 25)).alloc (.cells #[.int .i64 0, .int .i64 0] 75)) := (below_alloc w5 _).alloc (by rw [size_alloc]; omega) _
          have oSX : Own ((w5.alloc (.cells #[.int .i64 c6.k, .int .i64 c6.n, sV c6.s, .slice c6.la c6.ln c6.lc, .slice c6.fa c6.fn c6.fc] 25)).alloc (.cells #[.int .i64 0, .int .i64 0] 75)) w5.heap.size [.int .i64 c6.k, .int .i64 c6.n, sV c6.s, .slice c6.la c6.ln c6.lc, .slice c6.fa c6.fn c6.fc] 25 := (Own.new w5 _ _).alloc _
          have oTX : Own ((w5.alloc (.cells #[.int .i64 c6.k, .int .i64 c6.n, sV c6.s, .slice c6.la c6.ln c6.lc, .slice c6.fa c6.fn c6.fc] 25)).alloc (.cells #[.int .i64 0, .int .i64 0] 75)) (w5.heap.size + 1) [.int .i64 0, .int .i64 0] 75 := Own.new_at (by rw [size_alloc]) _ _
          have HX := Lib.hid (And.intro (below_all hb5 hX2) (And.intro ((HS.out.2.1.all hq.below).all hX2) (And.intro ((HS.out.2.2.1.all hq.below).all hX2) (And.intro ((HS.out.2.2.2.1.all hq.below).all hX2) (And.intro (hAN.below hX2) (And.intro oSX (And.intro oTX (row_but hown5 (But.allow (b := 0) hX2) (by omega)))))))))
          have HP6 := Lib.hid hp6
          clear hR hR' hq hb5 hown5 hAN hX2 oSX oTX HS hI6 hp6
          go_upto_region 6 with (fail)
          change Code.wp Tryz.prog _ _ _ ((w5.alloc (.cells #[.int .i64 c6.k, .int .i64 c6.n, sV c6.s, .slice c6.la c6.ln c6.lc, .slice c6.fa c6.fn c6.fc] 25)).alloc (.cells #[.int .i64 0, .int .i64 0] 75))
          generalize (w5.alloc (.cells #[.int .i64 c6.k, .int .i64 c6.n, sV c6.s, .slice c6.la c6.ln c6.lc, .slice c6.fa c6.fn c6.fc] 25)).alloc (.cells #[.int .i64 0, .int .i64 0] 75) = X at *
          have t1 := HX.out.2.2.2.2.2.2.1.cell (i := 1) rfl
          have u3 := HX.out.2.2.2.1.cell (i := 3) rfl
          have s0 := HX.out.2.2.2.2.2.1.cell (i := 0) rfl
          have s1 := HX.out.2.2.2.2.2.1.cell (i := 1) rfl
          have s2 := HX.out.2.2.2.2.2.1.cell (i := 2) rfl
          have s3 := HX.out.2.2.2.2.2.1.cell (i := 3) rfl
          have s4 := HX.out.2.2.2.2.2.1.cell (i := 4) rfl
          have hownX := HX.out.2.2.2.2.2.2.2
          have hXs := HX.out.2.2.2.1.lt
          go_upto_region 10 with (fail)
          go_upto_region 11 with (first | (at_builtin; refine wpList_append_lies _ rfl (.tmp 61) (.tmp 63) 22 rfl (w.heap.size + 1 + 1 + 1) 25 iE (.agg #[.int .i64 0, .int .i64 0, .string ⟨#[]⟩, .slice none 0 0, .slice none 0 0]) 5 80 Tryz.underlying22 hiE hzE hsE hyE rfl (by decide) _ _ _ rfl (hownX.alloc _) ⟨X.heap.size, 0, none⟩ 1 1 (VC.cells c6) rfl rfl (own_src (Own.new _ _ _)) (five_one c6) (by decide) (by unfold maxLen; omega) (by omega) (by rw [size_alloc]; omega) _ rfl ?_; intro gg gcap w7 hown7 hgrow7 hlies hglt) | fail)
          have hXA := below_alloc X (.cells #[.int .i64 c6.k, .int .i64 c6.n, sV c6.s, .slice c6.la c6.ln c6.lc, .slice c6.fa c6.fn c6.fc] 25)
          have HS7 := Lib.hid (And.intro (below_grw (below_all HX.out.1 hXA) hgrow7 (fun k h => by have := hrl k h; omega)) (And.intro (own_kept' (HX.out.2.1.all hXA) hgrow7 (fun e => by have := hrl _ e; omega)) (And.intro (own_kept' (HX.out.2.2.1.all hXA) hgrow7 (fun e => by have := hrl _ e; omega)) (And.intro (own_kept' (HX.out.2.2.2.1.all hXA) hgrow7 (fun e => by have := hrl _ e; omega)) (And.intro hown7 ((HX.out.2.2.2.2.1.below hXA).grow (n := M + 1) (cap := gcap) hgrow7 (by rcases hlies with h | h; exact Or.inl h; exact Or.inr h)))))))
          clear hown7 hgrow7 hlies hglt hXA t1 u3 s0 s1 s2 s3 s4 hownX HX
          have u3 := HS7.out.2.2.2.1.cell (i := 3) rfl
          have f3 := HS7.out.2.2.2.1.frozen 3
          have HS8 := Lib.hid (And.intro (below_set HS7.out.1 (b := w.heap.size + 1 + 1) (by omega) (i := 3) (.slice (some ⟨gg, 0, none⟩) (M + 1) gcap)) (And.intro (HS7.out.2.1.set_ne (b' := w.heap.size + 1 + 1) (by omega) 3 (.slice (some ⟨gg, 0, none⟩) (M + 1) gcap)) (And.intro (HS7.out.2.2.1.set_ne (b' := w.heap.size + 1 + 1) (by omega) 3 (.slice (some ⟨gg, 0, none⟩) (M + 1) gcap)) (And.intro (HS7.out.2.2.2.1.set 3 (.slice (some ⟨gg, 0, none⟩) (M + 1) gcap)) (And.intro (row_set HS7.out.2.2.2.2.1 (b := w.heap.size + 1 + 1) (by omega) 3 (.slice (some ⟨gg, 0, none⟩) (M + 1) gcap)) (HS7.out.2.2.2.2.2.set (b := w.heap.size + 1 + 1) (by omega) 3 (.slice (some ⟨gg, 0, none⟩) (M + 1) gcap)))))))
          clear HS7
          go_upto_region 12 with (fail)
          clear u3 f3
          change Code.wp Tryz.prog _ _ _ (w7.setCell ⟨w.heap.size + 1 + 1, 3, none⟩ (.slice (some ⟨gg, 0, none⟩) (M + 1) gcap))
          generalize w7.setCell ⟨w.heap.size + 1 + 1, 3, none⟩ (.slice (some ⟨gg, 0, none⟩) (M + 1) gcap) = W8 at *
          have CK := Lib.hid (rskip_any hl HP6.out W8)
          go_wp2_with fail
          refine CK.out.mono ?_
          rintro e w8 ⟨j8, rfl, hp8, rfl⟩
          clear CK
          obtain ⟨q8, hq8⟩ : ∃ q8, skp r2 = q8 := ⟨_, rfl⟩
          rw [hq8] at hp8
          have HSK := Lib.hid hq8
          clear hq8
          cases q8 with
          | nil =>
            obtain rfl := hp8.fin
            have HQ : Hid (listR (valR f) n r = .er 0 3) := Lib.hid (by rw [HLR.out, HE.out, elemsR, HR.out]; simp only [HSK.out]; rfl)
            clear hp8
            have r0 := HS8.out.2.1.cell (i := 0) rfl
            have r1 := HS8.out.2.1.cell (i := 1) rfl
            have r2 := HS8.out.2.1.cell (i := 2) rfl
            have r3 := HS8.out.2.1.cell (i := 3) rfl
            have r4 := HS8.out.2.1.cell (i := 4) rfl
            have g0 := HS8.out.2.1.frozen 0
            have g1 := HS8.out.2.1.frozen 1
            have g2 := HS8.out.2.1.frozen 2
            have g3 := HS8.out.2.1.frozen 3
            have g4 := HS8.out.2.1.frozen 4
            have y0 := HS8.out.2.2.1.cell (i := 0) rfl
            have y1 := HS8.out.2.2.1.cell (i := 1) rfl
            have z0 := HS8.out.2.2.1.frozen 0
            have z1 := HS8.out.2.2.1.frozen 1
            have HF := Lib.hid (And.intro (fin_own HS8.out.2.1 HS8.out.2.2.1 (by omega) (.int .i64 0) (.int .i64 0) (.string ⟨#[]⟩) (.slice none 0 0) (.slice none 0 0) (.int .i64 (s.length)) (.int .i64 (3))).1 (And.intro (fin_own HS8.out.2.1 HS8.out.2.2.1 (by omega) (.int .i64 0) (.int .i64 0) (.string ⟨#[]⟩) (.slice none 0 0) (.slice none 0 0) (.int .i64 (s.length)) (.int .i64 (3))).2 (And.intro (below_put7 HS8.out.1 (Nat.le_refl _) (Nat.le_succ _) (.int .i64 0) (.int .i64 0) (.string ⟨#[]⟩) (.slice none 0 0) (.slice none 0 0) (.int .i64 (s.length)) (.int .i64 (3))) (trivial))))
            go_wp2
            clear r0 r1 r2 r3 r4 g0 g1 g2 g3 g4 y0 y1 z0 z1
            change bodyPost Tryz.prog Tryz.f96 _ _ _ (put7 W8 w.heap.size (w.heap.size + 1) (.int .i64 0) (.int .i64 0) (.string ⟨#[]⟩) (.slice none 0 0) (.slice none 0 0) (.int .i64 (s.length)) (.int .i64 (3)))
            generalize put7 W8 w.heap.size (w.heap.size + 1) (.int .i64 0) (.int .i64 0) (.string ⟨#[]⟩) (.slice none 0 0) (.slice none 0 0) (.int .i64 (s.length)) (.int .i64 (3)) = U at *
            obtain ⟨oS, o2S, hBU, hIU⟩ := HF.out
            have c0 := oS.cell (i := 0) rfl
            have c1 := oS.cell (i := 1) rfl
            have c2 := oS.cell (i := 2) rfl
            have c3 := oS.cell (i := 3) rfl
            have c4 := oS.cell (i := 4) rfl
            have d0 := o2S.cell (i := 0) rfl
            have d1 := o2S.cell (i := 1) rfl
            exact bodyPost_ret (v := .tuple #[VC0.val, .int .i64 (0), .int .i64 (0), faultV (s.length) (3)]) (by simp [results, Tryz.results96, go_sem, c0, c1, c2, c3, c4, d0, d1, VC.val, VC0, faultV]) rfl (QVr.mkEr VC0 (k := 0) (b := 3) (j := 0) (m := 0) HQ.out hBU (by rw [Nat.sub_zero]))
          | cons dd r3 =>
            obtain ⟨hlt8, hc8, hd8, hlen8⟩ := drop_byte hp8.dr
            have hm8 : ((⟨s.toArray⟩ : ByteArray)[j8]'hlt8).toNat = dd.toNat := by rw [← hc8]; rfl
            have HLEN8 := Lib.hid hlen8
            have HP8 := Lib.hid hp8
            clear hc8 hd8 hlen8 hp8
            by_cases h93 : dd.toNat = 93
            · have e93 : (dd.toNat : Int) = 93 := by omega
              have HQ : Hid (listR (valR f) n r = .ok (.mk 4 0 [] (l ++ [t]) [], n2, r3)) := Lib.hid (by rw [HLR.out, HE.out, elemsR, HR.out]; simp only [HSK.out, h93, if_true, prepL, elL])
              have HI : Hid (IsA W8 (fun b => w.heap.size + 1 + 1 + 1 ≤ b) ⟨4, 0, [], some ⟨gg, 0, none⟩, M + 1, gcap, none, 0, 0⟩ (.mk 4 0 [] (l ++ [t]) [])) := Lib.hid (acc_isA HS8.out.2.2.2.2.2 (by rw [snocV, List.length_append, HN.out]; exact HS8.out.2.2.2.2.1) (fun _ h => h))
              clear h93
              have x0 := HS8.out.2.2.2.1.cell (i := 0) rfl
              have x1 := HS8.out.2.2.2.1.cell (i := 1) rfl
              have x2 := HS8.out.2.2.2.1.cell (i := 2) rfl
              have x3 := HS8.out.2.2.2.1.cell (i := 3) rfl
              have x4 := HS8.out.2.2.2.1.cell (i := 4) rfl
              have r0 := HS8.out.2.1.cell (i := 0) rfl
              have r1 := HS8.out.2.1.cell (i := 1) rfl
              have r2 := HS8.out.2.1.cell (i := 2) rfl
              have r3 := HS8.out.2.1.cell (i := 3) rfl
              have r4 := HS8.out.2.1.cell (i := 4) rfl
              have g0 := HS8.out.2.1.frozen 0
              have g1 := HS8.out.2.1.frozen 1
              have g2 := HS8.out.2.1.frozen 2
              have g3 := HS8.out.2.1.frozen 3
              have g4 := HS8.out.2.1.frozen 4
              have y0 := HS8.out.2.2.1.cell (i := 0) rfl
              have y1 := HS8.out.2.2.1.cell (i := 1) rfl
              have z0 := HS8.out.2.2.1.frozen 0
              have z1 := HS8.out.2.2.1.frozen 1
              have HF := Lib.hid (And.intro (fin_own HS8.out.2.1 HS8.out.2.2.1 (by omega) (.int .i64 4) (.int .i64 0) (.string ⟨#[]⟩) (.slice (some ⟨gg, 0, none⟩) (M + 1) gcap) (.slice none 0 0) (.int .i64 (0)) (.int .i64 (0))).1 (And.intro (fin_own HS8.out.2.1 HS8.out.2.2.1 (by omega) (.int .i64 4) (.int .i64 0) (.string ⟨#[]⟩) (.slice (some ⟨gg, 0, none⟩) (M + 1) gcap) (.slice none 0 0) (.int .i64 (0)) (.int .i64 (0))).2 (And.intro (below_put7 HS8.out.1 (Nat.le_refl _) (Nat.le_succ _) (.int .i64 4) (.int .i64 0) (.string ⟨#[]⟩) (.slice (some ⟨gg, 0, none⟩) (M + 1) gcap) (.slice none 0 0) (.int .i64 (0)) (.int .i64 (0))) (HI.out.put7 (show ¬ w.heap.size + 1 + 1 + 1 ≤ w.heap.size by omega) (show ¬ w.heap.size + 1 + 1 + 1 ≤ w.heap.size + 1 by omega) (.int .i64 4) (.int .i64 0) (.string ⟨#[]⟩) (.slice (some ⟨gg, 0, none⟩) (M + 1) gcap) (.slice none 0 0) (.int .i64 0) (.int .i64 0)))))
              go_wp2
              clear r0 r1 r2 r3 r4 g0 g1 g2 g3 g4 y0 y1 z0 z1
              change bodyPost Tryz.prog Tryz.f96 _ _ _ (put7 W8 w.heap.size (w.heap.size + 1) (.int .i64 4) (.int .i64 0) (.string ⟨#[]⟩) (.slice (some ⟨gg, 0, none⟩) (M + 1) gcap) (.slice none 0 0) (.int .i64 (0)) (.int .i64 (0)))
              generalize put7 W8 w.heap.size (w.heap.size + 1) (.int .i64 4) (.int .i64 0) (.string ⟨#[]⟩) (.slice (some ⟨gg, 0, none⟩) (M + 1) gcap) (.slice none 0 0) (.int .i64 (0)) (.int .i64 (0)) = U at *
              obtain ⟨oS, o2S, hBU, hIU⟩ := HF.out
              have c0 := oS.cell (i := 0) rfl
              have c1 := oS.cell (i := 1) rfl
              have c2 := oS.cell (i := 2) rfl
              have c3 := oS.cell (i := 3) rfl
              have c4 := oS.cell (i := 4) rfl
              have d0 := o2S.cell (i := 0) rfl
              have d1 := o2S.cell (i := 1) rfl
              exact bodyPost_ret (v := .tuple #[.agg #[.int .i64 4, .int .i64 0, .string ⟨#[]⟩, .slice (some ⟨gg, 0, none⟩) (M + 1) gcap, .slice none 0 0], .int .i64 ((j8 + 1 : Nat)), .int .i64 (n2), faultV (0) (0)]) (by simp [results, Tryz.results96, go_sem, c0, c1, c2, c3, c4, d0, d1, VC.val, VC0, faultV]) rfl (QVr.mkOk (c := ⟨4, 0, [], some ⟨gg, 0, none⟩, M + 1, gcap, none, 0, 0⟩) (j := j8 + 1) HQ.out hBU HP8.out.next (hIU.mono (fun b (hb : w.heap.size + 1 + 1 + 1 ≤ b) => by omega)) rfl)
            · have e93 : ¬ (dd.toNat : Int) = 93 := by omega
              have b93 : ((dd.toNat : Int) == 93) = false := by rw [beq_eq_false_iff_ne]; exact e93
              by_cases h44 : dd.toNat = 44
              · have e44 : (dd.toNat : Int) = 44 := by omega
                have H44 := Lib.hid h44
                obtain ⟨j9, hj9⟩ : ∃ j9 : Nat, j9 = j8 + 1 := ⟨_, rfl⟩
                have hjI : (j8 : Int) + 1 = (j9 : Int) := by omega
                have HP9 := Lib.hid (show Ps s j9 r3 from hj9 ▸ HP8.out.next)
                clear h93 h44 hj9
                have CK := Lib.hid (rskip_any hl HP9.out W8)
                go_wp2_with fail
                refine CK.out.mono ?_
                rintro e w9 ⟨j7, rfl, hp7, rfl⟩
                clear CK
                cases m with
                | zero => exact absurd HR.out ((valR_ok f).full n' r' _)
                | succ m =>
                  go_wp2
                  go_roundg (m + 1)
                  case measure => have := HG.out; omega
                  case rel => exact ⟨m, cs ++ [c6], l ++ [t], n2, skp r3, j7, .slice (some ⟨gg, 0, none⟩) (M + 1) gcap, rfl, by rw [List.length_append, HN.out]; have := HM.out; simp; omega, hn2, rfl, rfl, hp7.le, hp7.dr, HS8.out.1, HS8.out.2.1, HS8.out.2.2.1, HS8.out.2.2.2.1, by rw [snocV, List.length_append, HN.out]; exact HS8.out.2.2.2.2.1, HS8.out.2.2.2.2.2, Lib.hid ⟨skp_skp _, by rw [HE.out, elemsR_next HR.out HSK.out H44.out l]; rw [elemsR, elemsR, (valR_ok f).skp]⟩⟩
              · have e44 : ¬ (dd.toNat : Int) = 44 := by omega
                have n44 : ((dd.toNat : Int) != 44) = true := by rw [bne_iff_ne]; exact e44
                have HQ : Hid (listR (valR f) n r = .er (r3.length + 1) 2) := Lib.hid (by rw [HLR.out, HE.out, elemsR, HR.out]; simp only [HSK.out, h93, h44, if_false]; rfl)
                clear h93 h44
                have r0 := HS8.out.2.1.cell (i := 0) rfl
                have r1 := HS8.out.2.1.cell (i := 1) rfl
                have r2 := HS8.out.2.1.cell (i := 2) rfl
                have r3 := HS8.out.2.1.cell (i := 3) rfl
                have r4 := HS8.out.2.1.cell (i := 4) rfl
                have g0 := HS8.out.2.1.frozen 0
                have g1 := HS8.out.2.1.frozen 1
                have g2 := HS8.out.2.1.frozen 2
                have g3 := HS8.out.2.1.frozen 3
                have g4 := HS8.out.2.1.frozen 4
                have y0 := HS8.out.2.2.1.cell (i := 0) rfl
                have y1 := HS8.out.2.2.1.cell (i := 1) rfl
                have z0 := HS8.out.2.2.1.frozen 0
                have z1 := HS8.out.2.2.1.frozen 1
                have HF := Lib.hid (And.intro (fin_own HS8.out.2.1 HS8.out.2.2.1 (by omega) (.int .i64 0) (.int .i64 0) (.string ⟨#[]⟩) (.slice none 0 0) (.slice none 0 0) (.int .i64 (j8)) (.int .i64 (2))).1 (And.intro (fin_own HS8.out.2.1 HS8.out.2.2.1 (by omega) (.int .i64 0) (.int .i64 0) (.string ⟨#[]⟩) (.slice none 0 0) (.slice none 0 0) (.int .i64 (j8)) (.int .i64 (2))).2 (And.intro (below_put7 HS8.out.1 (Nat.le_refl _) (Nat.le_succ _) (.int .i64 0) (.int .i64 0) (.string ⟨#[]⟩) (.slice none 0 0) (.slice none 0 0) (.int .i64 (j8)) (.int .i64 (2))) (trivial))))
                go_wp2
                clear r0 r1 r2 r3 r4 g0 g1 g2 g3 g4 y0 y1 z0 z1
                change bodyPost Tryz.prog Tryz.f96 _ _ _ (put7 W8 w.heap.size (w.heap.size + 1) (.int .i64 0) (.int .i64 0) (.string ⟨#[]⟩) (.slice none 0 0) (.slice none 0 0) (.int .i64 (j8)) (.int .i64 (2)))
                generalize put7 W8 w.heap.size (w.heap.size + 1) (.int .i64 0) (.int .i64 0) (.string ⟨#[]⟩) (.slice none 0 0) (.slice none 0 0) (.int .i64 (j8)) (.int .i64 (2)) = U at *
                obtain ⟨oS, o2S, hBU, hIU⟩ := HF.out
                have c0 := oS.cell (i := 0) rfl
                have c1 := oS.cell (i := 1) rfl
                have c2 := oS.cell (i := 2) rfl
                have c3 := oS.cell (i := 3) rfl
                have c4 := oS.cell (i := 4) rfl
                have d0 := o2S.cell (i := 0) rfl
                have d1 := o2S.cell (i := 1) rfl
                exact bodyPost_ret (v := .tuple #[VC0.val, .int .i64 (0), .int .i64 (0), faultV (j8) (2)]) (by simp [results, Tryz.results96, go_sem, c0, c1, c2, c3, c4, d0, d1, VC.val, VC0, faultV]) rfl (QVr.mkEr VC0 (k := r3.length + 1) (b := 2) (j := 0) (m := 0) HQ.out hBU (by rw [show s.length - (r3.length + 1) = j8 by have := HLEN8.out; omega]))
    · subst hqc
      obtain ⟨hlt, hc, hd', hlen⟩ := drop_byte hp.dr
      have hm : ((⟨s.toArray⟩ : ByteArray)[j]'hlt).toNat = c.toNat := by rw [← hc]; rfl
      have e93 : ¬ (c.toNat : Int) = 93 := by omega
      have b93 : ((c.toNat : Int) == 93) = false := by rw [beq_eq_false_iff_ne]; exact e93
      clear hc hd' hlen hp h93 h
      go_wp2
      go_loopg [3, 13] 65 (fun g v3 v13 wr => ∃ (m : Nat) (cs : List VC) (l : List T) (n' : Nat) (r' : Str) (j' : Nat) (v : Value), g = m + 1 ∧ cs.length + m = 64 ∧ n' ≤ 600 ∧ v3 = .int .i64 n' ∧ v13 = .int .i64 j' ∧ j' ≤ s.length ∧ s.drop j' = r' ∧ Below w.heap.size w wr ∧ Own wr w.heap.size [.int .i64 0, .int .i64 0, .string ⟨#[]⟩, .slice none 0 0, .slice none 0 0] 25 ∧ Own wr (w.heap.size + 1) [.int .i64 0, .int .i64 0] 75 ∧ Own wr (w.heap.size + 1 + 1) [.int .i64 4, .int .i64 0, .string ⟨#[]⟩, v, .slice none 0 0] 25 ∧ wr.ownsRow (w.heap.size + 1 + 1 + 1) 25 5 v cs.length (cs.flatMap VC.cells) ∧ AccV (w.heap.size + 1 + 1 + 1) v wr cs l ∧ Hid (skp r' = r' ∧ elemsR (valR f) 64 n r = prepL l (elemsR (valR f) m n' r')))
      case atStart => exact ⟨64, [], [], n, _, j, .slice none 0 0, rfl, by simp, hn, rfl, rfl, HP.out.le, HP.out.dr, HV.out.1, HV.out.2.1, HV.out.2.2.1, HV.out.2.2.2, own_nil _ _ _ _, AccV.nil _ _ _, Lib.hid ⟨HSQ.out, by rw [prepL_nil, ← HQS.out]; rw [elemsR, elemsR, (valR_ok f).skp]⟩⟩
      case round =>
        obtain ⟨m, cs, l, n', r', j', v, hg, hm, hn', rfl, rfl, hj, hd, hb, oA, oB, oC, hown, hA, HE0⟩ := hrel
        have HE : Hid (elemsR (valR f) 64 n r = prepL l (elemsR (valR f) m n' r')) := Lib.hid HE0.out.2
        have HG := Lib.hid hg
        have HAL := Lib.hid hA.len
        have C := Lib.hid (HVr (decide (m = 0)) n' r' j' wr hn' ⟨hj, hd⟩ HE0.out.1)
        have HD := Lib.hid hd
        clear hg HE0 HV HP HQS HSQ hd
        obtain ⟨ao, cap, hu, -, -, -⟩ := (Flat.of_own hown).out
        have hfull : (((cs.length : Nat) : Int) == 64) = decide (m = 0) := by
          by_cases h : m = 0
          · rw [decide_eq_true h, beq_iff_eq]; omega
          · rw [decide_eq_false h, beq_eq_false_iff_ne]; omega
        subst hu
        generalize hN : cs.length = M at *
        have HN := Lib.hid hN
        have hM64 : M ≤ 64 := by omega
        have HM := Lib.hid hm
        obtain ⟨fb, hfb⟩ : ∃ fb, decide (m = 0) = fb := ⟨_, rfl⟩
        rw [hfb] at hfull C
        have HFB := Lib.hid hfb
        have u3 := oC.cell (i := 3) rfl
        have hwr := oC.lt
        have HS := Lib.hid (And.intro hb (And.intro oA (And.intro oB (And.intro oC (And.intro hown hA)))))
        clear hN hm hfb hb oA oB oC hown hA
        go_wp2_with fail
        refine C.out.mono ?_
        rintro e w5 hq
        clear C u3
        have hs5 := hq.below.size
        cases hR : valR f fb n' r' with
        | er k b =>
          obtain ⟨c6, j6, m6, rfl⟩ := hq.er k b hR
          have HNZ : ¬ b = 0 := by have := nz_valR f fb n' r'; rw [hR] at this; exact this
          have HQ : Hid (listR (valR f) n r = .er k b) := Lib.hid (by rw [HLR.out, HE.out, elemsR, HFB.out, hR]; rfl)
          have hX := (below_all HS.out.1 hq.below).alloc (below_all HS.out.1 hq.below).size (.cells #[.int .i64 c6.k, .int .i64 c6.n, sV c6.s, .slice c6.la c6.ln c6.lc, .slice c6.fa c6.fn c6.fc] 25)
          have oAX := ((HS.out.2.1.all hq.below).alloc (.cells #[.int .i64 c6.k, .int .i64 c6.n, sV c6.s, .slice c6.la c6.ln c6.lc, .slice c6.fa c6.fn c6.fc] 25)).alloc (.cells #[.int .i64 ((s.length - k : Nat) : Int), .int .i64 b] 75)
          have oBX := ((HS.out.2.2.1.all hq.below).alloc (.cells #[.int .i64 c6.k, .int .i64 c6.n, sV c6.s, .slice c6.la c6.ln c6.lc, .slice c6.fa c6.fn c6.fc] 25)).alloc (.cells #[.int .i64 ((s.length - k : Nat) : Int), .int .i64 b] 75)
          have oTX : Own ((w5.alloc (.cells #[.int .i64 c6.k, .int .i64 c6.n, sV c6.s, .slice c6.la c6.ln c6.lc, .slice c6.fa c6.fn c6.fc] 25)).alloc (.cells #[.int .i64 ((s.length - k : Nat) : Int), .int .i64 b] 75)) (w5.heap.size + 1) [.int .i64 ((s.length - k : Nat) : Int), .int .i64 b] 75 := Own.new_at (by rw [size_alloc]) _ _
          have HX := Lib.hid (And.intro (hX.alloc hX.size (.cells #[.int .i64 ((s.length - k : Nat) : Int), .int .i64 b] 75)) (And.intro oAX (And.intro oBX oTX)))
          have hneb : (b != 0) = true := by rw [bne_iff_ne]; exact HNZ
          clear hR hq hX oAX oBX oTX HS
          go_upto_region 6 with (fail)
          change Code.wp Tryz.prog _ _ _ ((w5.alloc (.cells #[.int .i64 c6.k, .int .i64 c6.n, sV c6.s, .slice c6.la c6.ln c6.lc, .slice c6.fa c6.fn c6.fc] 25)).alloc (.cells #[.int .i64 ((s.length - k : Nat) : Int), .int .i64 b] 75))
          generalize (w5.alloc (.cells #[.int .i64 c6.k, .int .i64 c6.n, sV c6.s, .slice c6.la c6.ln c6.lc, .slice c6.fa c6.fn c6.fc] 25)).alloc (.cells #[.int .i64 ((s.length - k : Nat) : Int), .int .i64 b] 75) = X at *
          have t0 := HX.out.2.2.2.cell (i := 0) rfl
          have t1 := HX.out.2.2.2.cell (i := 1) rfl
          have ne1 : ¬ w5.heap.size + 1 = w.heap.size := by omega
          have ne2 : ¬ w5.heap.size + 1 = w.heap.size + 1 := by omega
          have ne3 : ¬ w.heap.size = w5.heap.size + 1 := by omega
          have ne4 : ¬ w5.heap.size = w.heap.size := by omega
          have ne5 : ¬ w.heap.size = w5.heap.size := by omega
          have r0 := HX.out.2.1.cell (i := 0) rfl
          have r1 := HX.out.2.1.cell (i := 1) rfl
          have r2 := HX.out.2.1.cell (i := 2) rfl
          have r3 := HX.out.2.1.cell (i := 3) rfl
          have r4 := HX.out.2.1.cell (i := 4) rfl
          have g0 := HX.out.2.1.frozen 0
          have g1 := HX.out.2.1.frozen 1
          have g2 := HX.out.2.1.frozen 2
          have g3 := HX.out.2.1.frozen 3
          have g4 := HX.out.2.1.frozen 4
          have y0 := HX.out.2.2.1.cell (i := 0) rfl
          have y1 := HX.out.2.2.1.cell (i := 1) rfl
          have z0 := HX.out.2.2.1.frozen 0
          have z1 := HX.out.2.2.1.frozen 1
          have HF := Lib.hid (And.intro (fin_own HX.out.2.1 HX.out.2.2.1 (by omega) (.int .i64 0) (.int .i64 0) (.string ⟨#[]⟩) (.slice none 0 0) (.slice none 0 0) (.int .i64 ((s.length - k : Nat))) (.int .i64 (b))).1 (And.intro (fin_own HX.out.2.1 HX.out.2.2.1 (by omega) (.int .i64 0) (.int .i64 0) (.string ⟨#[]⟩) (.slice none 0 0) (.slice none 0 0) (.int .i64 ((s.length - k : Nat))) (.int .i64 (b))).2 (And.intro (below_put7 HX.out.1 (Nat.le_refl _) (Nat.le_succ _) (.int .i64 0) (.int .i64 0) (.string ⟨#[]⟩) (.slice none 0 0) (.slice none 0 0) (.int .i64 ((s.length - k : Nat))) (.int .i64 (b))) (trivial))))
          go_upto_region 7 with (fail)
          go_region
          go_wp2
          clear t0 t1
          clear r0 r1 r2 r3 r4 g0 g1 g2 g3 g4 y0 y1 z0 z1
          change bodyPost Tryz.prog Tryz.f96 _ _ _ (put7 X w.heap.size (w.heap.size + 1) (.int .i64 0) (.int .i64 0) (.string ⟨#[]⟩) (.slice none 0 0) (.slice none 0 0) (.int .i64 ((s.length - k : Nat))) (.int .i64 (b))).drew
          generalize put7 X w.heap.size (w.heap.size + 1) (.int .i64 0) (.int .i64 0) (.string ⟨#[]⟩) (.slice none 0 0) (.slice none 0 0) (.int .i64 ((s.length - k : Nat))) (.int .i64 (b)) = U at *
          obtain ⟨oS, o2S, hBU, hIU⟩ := HF.out
          replace oS := oS.drew
          replace o2S := o2S.drew
          replace hBU := hBU.drew
          have c0 := oS.cell (i := 0) rfl
          have c1 := oS.cell (i := 1) rfl
          have c2 := oS.cell (i := 2) rfl
          have c3 := oS.cell (i := 3) rfl
          have c4 := oS.cell (i := 4) rfl
          have d0 := o2S.cell (i := 0) rfl
          have d1 := o2S.cell (i := 1) rfl
          exact bodyPost_ret (v := .tuple #[VC0.val, .int .i64 (0), .int .i64 (0), faultV ((s.length - k : Nat)) (b)]) (by simp [results, Tryz.results96, go_sem, c0, c1, c2, c3, c4, d0, d1, VC.val, VC0, faultV]) rfl (QVr.mkEr VC0 (k := k) (b := b) (j := 0) (m := 0) HQ.out hBU rfl)
        | ok p =>
          obtain ⟨t, n2, r2⟩ := p
          obtain ⟨c6, j6, hp6, hI6, rfl⟩ := hq.ok t n2 r2 hR
          have hR' : valR f (decide (m = 0)) n' r' = .ok (t, n2, r2) := by rw [HFB.out]; exact hR
          have hn2 := ((valR_ok f).size _ _ _ _ _ _ hn' hR').1
          have HR := Lib.hid hR'
          have hb5 := below_all HS.out.1 hq.below
          have hown5 := row_but HS.out.2.2.2.2.1 (But.allow (b := 0) hq.below) (by omega)
          have hrlt : ∀ k, (Value.slice ao M cap).ownBlock = some k → k < wr.heap.size := fun k h => (HS.out.2.2.2.2.1.lt k h).2
          have hrl := own_row hown5
          have hAN := (HS.out.2.2.2.2.2.below hq.below).snoc (c := c6) (t := t) (hI6.mono (fun b hb => ⟨by have : wr.heap.size ≤ b := hb; omega, fun e => by have := hrlt b e; have : wr.heap.size ≤ b := hb; omega⟩))
          have hX2 : Below w5.heap.size w5 ((w5.alloc (.cells #[.int .i64 c6.k, .int .i64 c6.n, sV c6.s, .slice c6.la c6.ln c6.lc, .slice c6.fa c6.fn c6.fc] 25)).alloc (.cells #[.int .i64 0, .int .i64 0] 75)) := (below_alloc w5 _).alloc (by rw [size_alloc]; omega) _
          have oSX : Own ((w5.alloc (.cells #[.int .i64 c6.k, .int .i64 c6.n, sV c6.s, .slice c6.la c6.ln c6.lc, .slice c6.fa c6.fn c6.fc] 25)).alloc (.cells #[.int .i64 0, .int .i64 0] 75)) w5.heap.size [.int .i64 c6.k, .int .i64 c6.n, sV c6.s, .slice c6.la c6.ln c6.lc, .slice c6.fa c6.fn c6.fc] 25 := (Own.new w5 _ _).alloc _
          have oTX : Own ((w5.alloc (.cells #[.int .i64 c6.k, .int .i64 c6.n, sV c6.s, .slice c6.la c6.ln c6.lc, .slice c6.fa c6.fn c6.fc] 25)).alloc (.cells #[.int .i64 0, .int .i64 0] 75)) (w5.heap.size + 1) [.int .i64 0, .int .i64 0] 75 := Own.new_at (by rw [size_alloc]) _ _
          have HX := Lib.hid (And.intro (below_all hb5 hX2) (And.intro ((HS.out.2.1.all hq.below).all hX2) (And.intro ((HS.out.2.2.1.all hq.below).all hX2) (And.intro ((HS.out.2.2.2.1.all hq.below).all hX2) (And.intro (hAN.below hX2) (And.intro oSX (And.intro oTX (row_but hown5 (But.allow (b := 0) hX2) (by omega)))))))))
          have HP6 := Lib.hid hp6
          clear hR hR' hq hb5 hown5 hAN hX2 oSX oTX HS hI6 hp6
          go_upto_region 6 with (fail)
          change Code.wp Tryz.prog _ _ _ ((w5.alloc (.cells #[.int .i64 c6.k, .int .i64 c6.n, sV c6.s, .slice c6.la c6.ln c6.lc, .slice c6.fa c6.fn c6.fc] 25)).alloc (.cells #[.int .i64 0, .int .i64 0] 75))
          generalize (w5.alloc (.cells #[.int .i64 c6.k, .int .i64 c6.n, sV c6.s, .slice c6.la c6.ln c6.lc, .slice c6.fa c6.fn c6.fc] 25)).alloc (.cells #[.int .i64 0, .int .i64 0] 75) = X at *
          have t1 := HX.out.2.2.2.2.2.2.1.cell (i := 1) rfl
          have u3 := HX.out.2.2.2.1.cell (i := 3) rfl
          have s0 := HX.out.2.2.2.2.2.1.cell (i := 0) rfl
          have s1 := HX.out.2.2.2.2.2.1.cell (i := 1) rfl
          have s2 := HX.out.2.2.2.2.2.1.cell (i := 2) rfl
          have s3 := HX.out.2.2.2.2.2.1.cell (i := 3) rfl
          have s4 := HX.out.2.2.2.2.2.1.cell (i := 4) rfl
          have hownX := HX.out.2.2.2.2.2.2.2
          have hXs := HX.out.2.2.2.1.lt
          go_upto_region 10 with (fail)
          go_upto_region 11 with (first | (at_builtin; refine wpList_append_lies _ rfl (.tmp 61) (.tmp 63) 22 rfl (w.heap.size + 1 + 1 + 1) 25 iE (.agg #[.int .i64 0, .int .i64 0, .string ⟨#[]⟩, .slice none 0 0, .slice none 0 0]) 5 80 Tryz.underlying22 hiE hzE hsE hyE rfl (by decide) _ _ _ rfl (hownX.alloc _) ⟨X.heap.size, 0, none⟩ 1 1 (VC.cells c6) rfl rfl (own_src (Own.new _ _ _)) (five_one c6) (by decide) (by unfold maxLen; omega) (by omega) (by rw [size_alloc]; omega) _ rfl ?_; intro gg gcap w7 hown7 hgrow7 hlies hglt) | fail)
          have hXA := below_alloc X (.cells #[.int .i64 c6.k, .int .i64 c6.n, sV c6.s, .slice c6.la c6.ln c6.lc, .slice c6.fa c6.fn c6.fc] 25)
          have HS7 := Lib.hid (And.intro (below_grw (below_all HX.out.1 hXA) hgrow7 (fun k h => by have := hrl k h; omega)) (And.intro (own_kept' (HX.out.2.1.all hXA) hgrow7 (fun e => by have := hrl _ e; omega)) (And.intro (own_kept' (HX.out.2.2.1.all hXA) hgrow7 (fun e => by have := hrl _ e; omega)) (And.intro (own_kept' (HX.out.2.2.2.1.all hXA) hgrow7 (fun e => by have := hrl _ e; omega)) (And.intro hown7 ((HX.out.2.2.2.2.1.below hXA).grow (n := M + 1) (cap := gcap) hgrow7 (by rcases hlies with h | h; exact Or.inl h; exact Or.inr h)))))))
          clear hown7 hgrow7 hlies hglt hXA t1 u3 s0 s1 s2 s3 s4 hownX HX
          have u3 := HS7.out.2.2.2.1.cell (i := 3) rfl
          have f3 := HS7.out.2.2.2.1.frozen 3
          have HS8 := Lib.hid (And.intro (below_set HS7.out.1 (b := w.heap.size + 1 + 1) (by omega) (i := 3) (.slice (some ⟨gg, 0, none⟩) (M + 1) gcap)) (And.intro (HS7.out.2.1.set_ne (b' := w.heap.size + 1 + 1) (by omega) 3 (.slice (some ⟨gg, 0, none⟩) (M + 1) gcap)) (And.intro (HS7.out.2.2.1.set_ne (b' := w.heap.size + 1 + 1) (by omega) 3 (.slice (some ⟨gg, 0, none⟩) (M + 1) gcap)) (And.intro (HS7.out.2.2.2.1.set 3 (.slice (some ⟨gg, 0, none⟩) (M + 1) gcap)) (And.intro (row_set HS7.out.2.2.2.2.1 (b := w.heap.size + 1 + 1) (by omega) 3 (.slice (some ⟨gg, 0, none⟩) (M + 1) gcap)) (HS7.out.2.2.2.2.2.set (b := w.heap.size + 1 + 1) (by omega) 3 (.slice (some ⟨gg, 0, none⟩) (M + 1) gcap)))))))
          clear HS7
          go_upto_region 12 with (fail)
          clear u3 f3
          change Code.wp Tryz.prog _ _ _ (w7.setCell ⟨w.heap.size + 1 + 1, 3, none⟩ (.slice (some ⟨gg, 0, none⟩) (M + 1) gcap))
          generalize w7.setCell ⟨w.heap.size + 1 + 1, 3, none⟩ (.slice (some ⟨gg, 0, none⟩) (M + 1) gcap) = W8 at *
          have CK := Lib.hid (rskip_any hl HP6.out W8)
          go_wp2_with fail
          refine CK.out.mono ?_
          rintro e w8 ⟨j8, rfl, hp8, rfl⟩
          clear CK
          obtain ⟨q8, hq8⟩ : ∃ q8, skp r2 = q8 := ⟨_, rfl⟩
          rw [hq8] at hp8
          have HSK := Lib.hid hq8
          clear hq8
          cases q8 with
          | nil =>
            obtain rfl := hp8.fin
            have HQ : Hid (listR (valR f) n r = .er 0 3) := Lib.hid (by rw [HLR.out, HE.out, elemsR, HR.out]; simp only [HSK.out]; rfl)
            clear hp8
            have r0 := HS8.out.2.1.cell (i := 0) rfl
            have r1 := HS8.out.2.1.cell (i := 1) rfl
            have r2 := HS8.out.2.1.cell (i := 2) rfl
            have r3 := HS8.out.2.1.cell (i := 3) rfl
            have r4 := HS8.out.2.1.cell (i := 4) rfl
            have g0 := HS8.out.2.1.frozen 0
            have g1 := HS8.out.2.1.frozen 1
            have g2 := HS8.out.2.1.frozen 2
            have g3 := HS8.out.2.1.frozen 3
            have g4 := HS8.out.2.1.frozen 4
            have y0 := HS8.out.2.2.1.cell (i := 0) rfl
            have y1 := HS8.out.2.2.1.cell (i := 1) rfl
            have z0 := HS8.out.2.2.1.frozen 0
            have z1 := HS8.out.2.2.1.frozen 1
            have HF := Lib.hid (And.intro (fin_own HS8.out.2.1 HS8.out.2.2.1 (by omega) (.int .i64 0) (.int .i64 0) (.string ⟨#[]⟩) (.slice none 0 0) (.slice none 0 0) (.int .i64 (s.length)) (.int .i64 (3))).1 (And.intro (fin_own HS8.out.2.1 HS8.out.2.2.1 (by omega) (.int .i64 0) (.int .i64 0) (.string ⟨#[]⟩) (.slice none 0 0) (.slice none 0 0) (.int .i64 (s.length)) (.int .i64 (3))).2 (And.intro (below_put7 HS8.out.1 (Nat.le_refl _) (Nat.le_succ _) (.int .i64 0) (.int .i64 0) (.string ⟨#[]⟩) (.slice none 0 0) (.slice none 0 0) (.int .i64 (s.length)) (.int .i64 (3))) (trivial))))
            go_wp2
            clear r0 r1 r2 r3 r4 g0 g1 g2 g3 g4 y0 y1 z0 z1
            change bodyPost Tryz.prog Tryz.f96 _ _ _ (put7 W8 w.heap.size (w.heap.size + 1) (.int .i64 0) (.int .i64 0) (.string ⟨#[]⟩) (.slice none 0 0) (.slice none 0 0) (.int .i64 (s.length)) (.int .i64 (3)))
            generalize put7 W8 w.heap.size (w.heap.size + 1) (.int .i64 0) (.int .i64 0) (.string ⟨#[]⟩) (.slice none 0 0) (.slice none 0 0) (.int .i64 (s.length)) (.int .i64 (3)) = U at *
            obtain ⟨oS, o2S, hBU, hIU⟩ := HF.out
            have c0 := oS.cell (i := 0) rfl
            have c1 := oS.cell (i := 1) rfl
            have c2 := oS.cell (i := 2) rfl
            have c3 := oS.cell (i := 3) rfl
            have c4 := oS.cell (i := 4) rfl
            have d0 := o2S.cell (i := 0) rfl
            have d1 := o2S.cell (i := 1) rfl
            exact bodyPost_ret (v := .tuple #[VC0.val, .int .i64 (0), .int .i64 (0), faultV (s.length) (3)]) (by simp [results, Tryz.results96, go_sem, c0, c1, c2, c3, c4, d0, d1, VC.val, VC0, faultV]) rfl (QVr.mkEr VC0 (k := 0) (b := 3) (j := 0) (m := 0) HQ.out hBU (by rw [Nat.sub_zero]))
          | cons dd r3 =>
            obtain ⟨hlt8, hc8, hd8, hlen8⟩ := drop_byte hp8.dr
            have hm8 : ((⟨s.toArray⟩ : ByteArray)[j8]'hlt8).toNat = dd.toNat := by rw [← hc8]; rfl
            have HLEN8 := Lib.hid hlen8
            have HP8 := Lib.hid hp8
            clear hc8 hd8 hlen8 hp8
            by_cases h93 : dd.toNat = 93
            · have e93 : (dd.toNat : Int) = 93 := by omega
              have HQ : Hid (listR (valR f) n r = .ok (.mk 4 0 [] (l ++ [t]) [], n2, r3)) := Lib.hid (by rw [HLR.out, HE.out, elemsR, HR.out]; simp only [HSK.out, h93, if_true, prepL, elL])
              have HI : Hid (IsA W8 (fun b => w.heap.size + 1 + 1 + 1 ≤ b) ⟨4, 0, [], some ⟨gg, 0, none⟩, M + 1, gcap, none, 0, 0⟩ (.mk 4 0 [] (l ++ [t]) [])) := Lib.hid (acc_isA HS8.out.2.2.2.2.2 (by rw [snocV, List.length_append, HN.out]; exact HS8.out.2.2.2.2.1) (fun _ h => h))
              clear h93
              have x0 := HS8.out.2.2.2.1.cell (i := 0) rfl
              have x1 := HS8.out.2.2.2.1.cell (i := 1) rfl
              have x2 := HS8.out.2.2.2.1.cell (i := 2) rfl
              have x3 := HS8.out.2.2.2.1.cell (i := 3) rfl
              have x4 := HS8.out.2.2.2.1.cell (i := 4) rfl
              have r0 := HS8.out.2.1.cell (i := 0) rfl
              have r1 := HS8.out.2.1.cell (i := 1) rfl
              have r2 := HS8.out.2.1.cell (i := 2) rfl
              have r3 := HS8.out.2.1.cell (i := 3) rfl
              have r4 := HS8.out.2.1.cell (i := 4) rfl
              have g0 := HS8.out.2.1.frozen 0
              have g1 := HS8.out.2.1.frozen 1
              have g2 := HS8.out.2.1.frozen 2
              have g3 := HS8.out.2.1.frozen 3
              have g4 := HS8.out.2.1.frozen 4
              have y0 := HS8.out.2.2.1.cell (i := 0) rfl
              have y1 := HS8.out.2.2.1.cell (i := 1) rfl
              have z0 := HS8.out.2.2.1.frozen 0
              have z1 := HS8.out.2.2.1.frozen 1
              have HF := Lib.hid (And.intro (fin_own HS8.out.2.1 HS8.out.2.2.1 (by omega) (.int .i64 4) (.int .i64 0) (.string ⟨#[]⟩) (.slice (some ⟨gg, 0, none⟩) (M + 1) gcap) (.slice none 0 0) (.int .i64 (0)) (.int .i64 (0))).1 (And.intro (fin_own HS8.out.2.1 HS8.out.2.2.1 (by omega) (.int .i64 4) (.int .i64 0) (.string ⟨#[]⟩) (.slice (some ⟨gg, 0, none⟩) (M + 1) gcap) (.slice none 0 0) (.int .i64 (0)) (.int .i64 (0))).2 (And.intro (below_put7 HS8.out.1 (Nat.le_refl _) (Nat.le_succ _) (.int .i64 4) (.int .i64 0) (.string ⟨#[]⟩) (.slice (some ⟨gg, 0, none⟩) (M + 1) gcap) (.slice none 0 0) (.int .i64 (0)) (.int .i64 (0))) (HI.out.put7 (show ¬ w.heap.size + 1 + 1 + 1 ≤ w.heap.size by omega) (show ¬ w.heap.size + 1 + 1 + 1 ≤ w.heap.size + 1 by omega) (.int .i64 4) (.int .i64 0) (.string ⟨#[]⟩) (.slice (some ⟨gg, 0, none⟩) (M + 1) gcap) (.slice none 0 0) (.int .i64 0) (.int .i64 0)))))
              go_wp2
              clear r0 r1 r2 r3 r4 g0 g1 g2 g3 g4 y0 y1 z0 z1
              change bodyPost Tryz.prog Tryz.f96 _ _ _ (put7 W8 w.heap.size (w.heap.size + 1) (.int .i64 4) (.int .i64 0) (.string ⟨#[]⟩) (.slice (some ⟨gg, 0, none⟩) (M + 1) gcap) (.slice none 0 0) (.int .i64 (0)) (.int .i64 (0)))
              generalize put7 W8 w.heap.size (w.heap.size + 1) (.int .i64 4) (.int .i64 0) (.string ⟨#[]⟩) (.slice (some ⟨gg, 0, none⟩) (M + 1) gcap) (.slice none 0 0) (.int .i64 (0)) (.int .i64 (0)) = U at *
              obtain ⟨oS, o2S, hBU, hIU⟩ := HF.out
              have c0 := oS.cell (i := 0) rfl
              have c1 := oS.cell (i := 1) rfl
              have c2 := oS.cell (i := 2) rfl
              have c3 := oS.cell (i := 3) rfl
              have c4 := oS.cell (i := 4) rfl
              have d0 := o2S.cell (i := 0) rfl
              have d1 := o2S.cell (i := 1) rfl
              exact bodyPost_ret (v := .tuple #[.agg #[.int .i64 4, .int .i64 0, .string ⟨#[]⟩, .slice (some ⟨gg, 0, none⟩) (M + 1) gcap, .slice none 0 0], .int .i64 ((j8 + 1 : Nat)), .int .i64 (n2), faultV (0) (0)]) (by simp [results, Tryz.results96, go_sem, c0, c1, c2, c3, c4, d0, d1, VC.val, VC0, faultV]) rfl (QVr.mkOk (c := ⟨4, 0, [], some ⟨gg, 0, none⟩, M + 1, gcap, none, 0, 0⟩) (j := j8 + 1) HQ.out hBU HP8.out.next (hIU.mono (fun b (hb : w.heap.size + 1 + 1 + 1 ≤ b) => by omega)) rfl)
            · have e93 : ¬ (dd.toNat : Int) = 93 := by omega
              have b93 : ((dd.toNat : Int) == 93) = false := by rw [beq_eq_false_iff_ne]; exact e93
              by_cases h44 : dd.toNat = 44
              · have e44 : (dd.toNat : Int) = 44 := by omega
                have H44 := Lib.hid h44
                obtain ⟨j9, hj9⟩ : ∃ j9 : Nat, j9 = j8 + 1 := ⟨_, rfl⟩
                have hjI : (j8 : Int) + 1 = (j9 : Int) := by omega
                have HP9 := Lib.hid (show Ps s j9 r3 from hj9 ▸ HP8.out.next)
                clear h93 h44 hj9
                have CK := Lib.hid (rskip_any hl HP9.out W8)
                go_wp2_with fail
                refine CK.out.mono ?_
                rintro e w9 ⟨j7, rfl, hp7, rfl⟩
                clear CK
                cases m with
                | zero => exact absurd HR.out ((valR_ok f).full n' r' _)
                | succ m =>
                  go_wp2
                  go_roundg (m + 1)
                  case measure => have := HG.out; omega
                  case rel => exact ⟨m, cs ++ [c6], l ++ [t], n2, skp r3, j7, .slice (some ⟨gg, 0, none⟩) (M + 1) gcap, rfl, by rw [List.length_append, HN.out]; have := HM.out; simp; omega, hn2, rfl, rfl, hp7.le, hp7.dr, HS8.out.1, HS8.out.2.1, HS8.out.2.2.1, HS8.out.2.2.2.1, by rw [snocV, List.length_append, HN.out]; exact HS8.out.2.2.2.2.1, HS8.out.2.2.2.2.2, Lib.hid ⟨skp_skp _, by rw [HE.out, elemsR_next HR.out HSK.out H44.out l]; rw [elemsR, elemsR, (valR_ok f).skp]⟩⟩
              · have e44 : ¬ (dd.toNat : Int) = 44 := by omega
                have n44 : ((dd.toNat : Int) != 44) = true := by rw [bne_iff_ne]; exact e44
                have HQ : Hid (listR (valR f) n r = .er (r3.length + 1) 2) := Lib.hid (by rw [HLR.out, HE.out, elemsR, HR.out]; simp only [HSK.out, h93, h44, if_false]; rfl)
                clear h93 h44
                have r0 := HS8.out.2.1.cell (i := 0) rfl
                have r1 := HS8.out.2.1.cell (i := 1) rfl
                have r2 := HS8.out.2.1.cell (i := 2) rfl
                have r3 := HS8.out.2.1.cell (i := 3) rfl
                have r4 := HS8.out.2.1.cell (i := 4) rfl
                have g0 := HS8.out.2.1.frozen 0
                have g1 := HS8.out.2.1.frozen 1
                have g2 := HS8.out.2.1.frozen 2
                have g3 := HS8.out.2.1.frozen 3
                have g4 := HS8.out.2.1.frozen 4
                have y0 := HS8.out.2.2.1.cell (i := 0) rfl
                have y1 := HS8.out.2.2.1.cell (i := 1) rfl
                have z0 := HS8.out.2.2.1.frozen 0
                have z1 := HS8.out.2.2.1.frozen 1
                have HF := Lib.hid (And.intro (fin_own HS8.out.2.1 HS8.out.2.2.1 (by omega) (.int .i64 0) (.int .i64 0) (.string ⟨#[]⟩) (.slice none 0 0) (.slice none 0 0) (.int .i64 (j8)) (.int .i64 (2))).1 (And.intro (fin_own HS8.out.2.1 HS8.out.2.2.1 (by omega) (.int .i64 0) (.int .i64 0) (.string ⟨#[]⟩) (.slice none 0 0) (.slice none 0 0) (.int .i64 (j8)) (.int .i64 (2))).2 (And.intro (below_put7 HS8.out.1 (Nat.le_refl _) (Nat.le_succ _) (.int .i64 0) (.int .i64 0) (.string ⟨#[]⟩) (.slice none 0 0) (.slice none 0 0) (.int .i64 (j8)) (.int .i64 (2))) (trivial))))
                go_wp2
                clear r0 r1 r2 r3 r4 g0 g1 g2 g3 g4 y0 y1 z0 z1
                change bodyPost Tryz.prog Tryz.f96 _ _ _ (put7 W8 w.heap.size (w.heap.size + 1) (.int .i64 0) (.int .i64 0) (.string ⟨#[]⟩) (.slice none 0 0) (.slice none 0 0) (.int .i64 (j8)) (.int .i64 (2)))
                generalize put7 W8 w.heap.size (w.heap.size + 1) (.int .i64 0) (.int .i64 0) (.string ⟨#[]⟩) (.slice none 0 0) (.slice none 0 0) (.int .i64 (j8)) (.int .i64 (2)) = U at *
                obtain ⟨oS, o2S, hBU, hIU⟩ := HF.out
                have c0 := oS.cell (i := 0) rfl
                have c1 := oS.cell (i := 1) rfl
                have c2 := oS.cell (i := 2) rfl
                have c3 := oS.cell (i := 3) rfl
                have c4 := oS.cell (i := 4) rfl
                have d0 := o2S.cell (i := 0) rfl
                have d1 := o2S.cell (i := 1) rfl
                exact bodyPost_ret (v := .tuple #[VC0.val, .int .i64 (0), .int .i64 (0), faultV (j8) (2)]) (by simp [results, Tryz.results96, go_sem, c0, c1, c2, c3, c4, d0, d1, VC.val, VC0, faultV]) rfl (QVr.mkEr VC0 (k := r3.length + 1) (b := 2) (j := 0) (m := 0) HQ.out hBU (by rw [show s.length - (r3.length + 1) = j8 by have := HLEN8.out; omega]))
end Go.Proofs.YtjpmnlefjmdelaaGreatDoor
namespace Go.Proofs.YtjpmnlefjmdelaaGreatDoor
open Go.RowKit Go.Sort Go.Proofs.LawFrame

def put8 (W : World) (b0 b1 : Nat) (v0 v1 v2 v3 v4 v5 y0 y1 : Value) : World := ((put6 W b0 v0 v1 v2 v3 v4 v5).setCell ⟨b1, 0, none⟩ y0).setCell ⟨b1, 1, none⟩ y1
theorem fin_own8 {W : World} {b0 b1 : Nat} {a0 a1 a2 a3 a4 a5 x0 x1 : Value} {t : TypeId} (o : Own W b0 [a0, a1, a2, a3, a4, a5] t) (o2 : Own W b1 [x0, x1] 75) (hne : b0 ≠ b1) (v0 v1 v2 v3 v4 v5 y0 y1 : Value) : Own (put8 W b0 b1 v0 v1 v2 v3 v4 v5 y0 y1) b0 [v0, v1, v2, v3, v4, v5] t ∧ Own (put8 W b0 b1 v0 v1 v2 v3 v4 v5 y0 y1) b1 [y0, y1] 75 :=
  ⟨((own_put6 o v0 v1 v2 v3 v4 v5).set_ne (b' := b1) hne 0 y0).set_ne (b' := b1) hne 1 y1,
   ((((((((o2.set_ne (b' := b0) hne.symm 0 v0).set_ne (b' := b0) hne.symm 1 v1).set_ne (b' := b0) hne.symm 2 v2).set_ne (b' := b0) hne.symm 3 v3).set_ne (b' := b0) hne.symm 4 v4).set_ne (b' := b0) hne.symm 5 v5).set 0 y0).set 1 y1)⟩
theorem below_put8 {w W : World} (h : Below w.heap.size w W) {b0 b1 : Nat} (h0 : w.heap.size ≤ b0) (h1 : w.heap.size ≤ b1) (v0 v1 v2 v3 v4 v5 y0 y1 : Value) : Below w.heap.size w (put8 W b0 b1 v0 v1 v2 v3 v4 v5 y0 y1) :=
  below_set (below_set (below_set (below_set (below_set (below_set (below_set (below_set h h0 v0) h0 v1) h0 v2) h0 v3) h0 v4) h0 v5) h1 y0) h1 y1
theorem IsA.put8 {W : World} {A : Nat → Prop} {c : VC} {t : T} {b0 b1 : Nat} (h : IsA W A c t) (h0 : ¬ A b0) (h1 : ¬ A b1) (v0 v1 v2 v3 v4 v5 y0 y1 : Value) : IsA (put8 W b0 b1 v0 v1 v2 v3 v4 v5 y0 y1) A c t :=
  ((h.put6 h0 v0 v1 v2 v3 v4 v5).set h1 0 y0).set h1 1 y1
/-- what field answers -/
structure QFr (s : Str) (w : World) (x : R ((Str × T) × Nat × Str)) (e : Ending) (w' : World) : Prop where
  below : Below w.heap.size w w'
  ok : ∀ nm t n r', x = .ok ((nm, t), n, r') → ∃ (c : VC) (j : Nat), Ps s j r' ∧ IsA w' (fun b => w.heap.size ≤ b) c t ∧ e = .returned (.tuple #[.agg #[sV nm, .int .i64 c.k, .int .i64 c.n, sV c.s, .slice c.la c.ln c.lc, .slice c.fa c.fn c.fc], .int .i64 j, .int .i64 n, faultV 0 0])
  er : ∀ k b, x = .er k b → ∃ (g : FC) (j m : Int), e = .returned (.tuple #[.agg #[sV g.x, .int .i64 g.v.k, .int .i64 g.v.n, sV g.v.s, .slice g.v.la g.v.ln g.v.lc, .slice g.v.fa g.v.fn g.v.fc], .int .i64 j, .int .i64 m, faultV ((s.length - k : Nat) : Int) b])
theorem QFr.mkOk {s : Str} {w w' : World} {x : R ((Str × T) × Nat × Str)} {e : Ending} {nm : Str} {t : T} {n : Nat} {r' : Str} {c : VC} {j : Nat} (hx : x = .ok ((nm, t), n, r')) (hb : Below w.heap.size w w') (hp : Ps s j r') (hI : IsA w' (fun b => w.heap.size ≤ b) c t) (he : e = .returned (.tuple #[.agg #[sV nm, .int .i64 c.k, .int .i64 c.n, sV c.s, .slice c.la c.ln c.lc, .slice c.fa c.fn c.fc], .int .i64 j, .int .i64 n, faultV 0 0])) : QFr s w x e w' :=
  ⟨hb, fun nm t n r h => (by rw [hx] at h; cases h; exact ⟨c, j, hp, hI, he⟩), fun k c h => (by rw [hx] at h; cases h)⟩
theorem QFr.mkEr {s : Str} {w w' : World} {x : R ((Str × T) × Nat × Str)} {e : Ending} {k : Nat} {b : Int} (g : FC) {j m : Int} (hx : x = .er k b) (hb : Below w.heap.size w w') (he : e = .returned (.tuple #[.agg #[sV g.x, .int .i64 g.v.k, .int .i64 g.v.n, sV g.v.s, .slice g.v.la g.v.ln g.v.lc, .slice g.v.fa g.v.fn g.v.fc], .int .i64 j, .int .i64 m, faultV ((s.length - k : Nat) : Int) b])) : QFr s w x e w' :=
  ⟨hb, fun nm t n r h => (by rw [hx] at h; cases h), fun k' c' h => (by rw [hx] at h; cases h; exact ⟨g, j, m, he⟩)⟩
def fieldN (pv : PV) (seen : List Str) (n k : Nat) : R (Str × Str) → R ((Str × T) × Nat × Str)
  | .er a b => .er a b
  | .ok (nm, r2) => if nm ∈ seen then .er k 8 else match byteR 58 (skp r2) with
      | .er a b => .er a b
      | .ok r3 => match pv false n r3 with
        | .er a b => .er a b
        | .ok (t, n', r4) => .ok ((nm, t), n', r4)
theorem fieldR_at {pv : PV} {m : Nat} {seen : List Str} {n : Nat} {c : UInt8} {r1 : Str} (hs : skp (c :: r1) = c :: r1) (h34 : c.toNat = 34) (hm : ¬ m = 0) : fieldR pv m seen n (c :: r1) = fieldN pv seen n (r1.length + 1) (nameR 0 r1) := by
  unfold fieldR
  rw [hs]
  simp only
  rw [if_neg (by rw [h34]; simp), if_neg hm]
  cases nameR 0 r1 with
  | er a b => rfl
  | ok p => obtain ⟨nm, r2⟩ := p; rfl

set_option maxHeartbeats 16000000 in
set_option maxRecDepth 4000 in
theorem rfield_of {s : Str} (hl : s.length ≤ 20000) {f : Nat} {d : Int} (hd1 : 1 ≤ d) (hd2 : d ≤ 12) (HVr : RVr s (valR f) (d + 1)) (n : Nat) (r : Str) (i : Nat) (w : World) (hn : n ≤ 600) (h : Ps s i r) (hsk : skp r = r) (m : Nat) (v : Value) (cs : List FC) (hm : cs.length + m = 64) (hv : Flat w v cs.length (cs.flatMap FC.cells)) :
    Calls Tryz.prog 142 #[sV s, .int .i64 i, .int .i64 d, .int .i64 n, v] w (QFr s w (fieldR (valR f) m (cs.map (·.x)) n r)) := by
  obtain ⟨ao, cp, rfl, -, -, -⟩ := hv.out
  have hbA := (below_alloc w (.cells #[.string ⟨#[]⟩, .int .i64 0, .int .i64 0, .string ⟨#[]⟩, .slice none 0 0, .slice none 0 0] 58)).alloc (by rw [size_alloc]; omega) (.cells #[.int .i64 0, .int .i64 0] 75)
  have oA := (Own.new w [.string ⟨#[]⟩, .int .i64 0, .int .i64 0, .string ⟨#[]⟩, .slice none 0 0, .slice none 0 0] 58).alloc (.cells #[.int .i64 0, .int .i64 0] 75)
  have oB : Own ((w.alloc (.cells #[.string ⟨#[]⟩, .int .i64 0, .int .i64 0, .string ⟨#[]⟩, .slice none 0 0, .slice none 0 0] 58)).alloc (.cells #[.int .i64 0, .int .i64 0] 75)) (w.heap.size + 1) [.int .i64 0, .int .i64 0] 75 := Own.new_at (by rw [size_alloc]) _ _
  have HV := Lib.hid (And.intro hbA (And.intro oA (And.intro oB (hv.all hbA))))
  have HSK := Lib.hid hsk
  generalize hN : cs.length = M at *
  have HN := Lib.hid hN
  have hM64 : M ≤ 64 := by omega
  have HM := Lib.hid hm
  clear hbA oA oB hv hsk hN hm
  cases r with
  | nil =>
    obtain rfl := h.fin
    have HQ : Hid (fieldR (valR f) m (cs.map (·.x)) n [] = .er 0 3) := Lib.hid (by unfold fieldR; rw [HSK.out])
    clear h
    go_enter Tryz.func142, Tryz.ntmps142
    go_upto_region 1 with (fail)
    change Code.wp Tryz.prog _ _ _ ((w.alloc (.cells #[.string ⟨#[]⟩, .int .i64 0, .int .i64 0, .string ⟨#[]⟩, .slice none 0 0, .slice none 0 0] 58)).alloc (.cells #[.int .i64 0, .int .i64 0] 75))
    generalize (w.alloc (.cells #[.string ⟨#[]⟩, .int .i64 0, .int .i64 0, .string ⟨#[]⟩, .slice none 0 0, .slice none 0 0] 58)).alloc (.cells #[.int .i64 0, .int .i64 0] 75) = V at *
    have rr0 := HV.out.2.1.cell (i := 0) rfl
    have rr1 := HV.out.2.1.cell (i := 1) rfl
    have rr2 := HV.out.2.1.cell (i := 2) rfl
    have rr3 := HV.out.2.1.cell (i := 3) rfl
    have rr4 := HV.out.2.1.cell (i := 4) rfl
    have rr5 := HV.out.2.1.cell (i := 5) rfl
    have g0 := HV.out.2.1.frozen 0
    have g1 := HV.out.2.1.frozen 1
    have g2 := HV.out.2.1.frozen 2
    have g3 := HV.out.2.1.frozen 3
    have g4 := HV.out.2.1.frozen 4
    have g5 := HV.out.2.1.frozen 5
    have y0 := HV.out.2.2.1.cell (i := 0) rfl
    have y1 := HV.out.2.2.1.cell (i := 1) rfl
    have z0 := HV.out.2.2.1.frozen 0
    have z1 := HV.out.2.2.1.frozen 1
    have HF := Lib.hid (And.intro (fin_own8 HV.out.2.1 HV.out.2.2.1 (by omega) (.string ⟨#[]⟩) (.int .i64 0) (.int .i64 0) (.string ⟨#[]⟩) (.slice none 0 0) (.slice none 0 0) (.int .i64 (s.length)) (.int .i64 (3))).1 (And.intro (fin_own8 HV.out.2.1 HV.out.2.2.1 (by omega) (.string ⟨#[]⟩) (.int .i64 0) (.int .i64 0) (.string ⟨#[]⟩) (.slice none 0 0) (.slice none 0 0) (.int .i64 (s.length)) (.int .i64 (3))).2 (And.intro (below_put8 HV.out.1 (Nat.le_refl _) (Nat.le_succ _) (.string ⟨#[]⟩) (.int .i64 0) (.int .i64 0) (.string ⟨#[]⟩) (.slice none 0 0) (.slice none 0 0) (.int .i64 (s.length)) (.int .i64 (3))) (trivial))))
    go_wp2
    clear rr0 rr1 rr2 rr3 rr4 rr5 g0 g1 g2 g3 g4 g5 y0 y1 z0 z1
    change bodyPost Tryz.prog Tryz.f142 _ _ _ (put8 V w.heap.size (w.heap.size + 1) (.string ⟨#[]⟩) (.int .i64 0) (.int .i64 0) (.string ⟨#[]⟩) (.slice none 0 0) (.slice none 0 0) (.int .i64 (s.length)) (.int .i64 (3)))
    generalize put8 V w.heap.size (w.heap.size + 1) (.string ⟨#[]⟩) (.int .i64 0) (.int .i64 0) (.string ⟨#[]⟩) (.slice none 0 0) (.slice none 0 0) (.int .i64 (s.length)) (.int .i64 (3)) = U at *
    obtain ⟨oS, o2S, hBU, hIU⟩ := HF.out
    have c0 := oS.cell (i := 0) rfl
    have c1 := oS.cell (i := 1) rfl
    have c2 := oS.cell (i := 2) rfl
    have c3 := oS.cell (i := 3) rfl
    have c4 := oS.cell (i := 4) rfl
    have c5 := oS.cell (i := 5) rfl
    have d0 := o2S.cell (i := 0) rfl
    have d1 := o2S.cell (i := 1) rfl
    exact bodyPost_ret (v := .tuple #[.agg #[.string ⟨#[]⟩, .int .i64 0, .int .i64 0, .string ⟨#[]⟩, .slice none 0 0, .slice none 0 0], .int .i64 (0), .int .i64 (0), faultV (s.length) (3)]) (by simp [results, Tryz.results142, go_sem, c0, c1, c2, c3, c4, c5, d0, d1, VC.val, faultV]) rfl (QFr.mkEr ⟨[], VC0⟩ (k := 0) (b := 3) (j := 0) (m := 0) HQ.out hBU (by rw [Nat.sub_zero]; rfl))
  | cons c r1 =>
    obtain ⟨hlt, hc, -, hlen⟩ := drop_byte h.dr
    have hmc : ((⟨s.toArray⟩ : ByteArray)[i]'hlt).toNat = c.toNat := by rw [← hc]; rfl
    have HLEN := Lib.hid hlen
    have HP0 := Lib.hid h
    clear hc hlen h
    go_enter Tryz.func142, Tryz.ntmps142
    go_upto_region 1 with (fail)
    change Code.wp Tryz.prog _ _ _ ((w.alloc (.cells #[.string ⟨#[]⟩, .int .i64 0, .int .i64 0, .string ⟨#[]⟩, .slice none 0 0, .slice none 0 0] 58)).alloc (.cells #[.int .i64 0, .int .i64 0] 75))
    generalize (w.alloc (.cells #[.string ⟨#[]⟩, .int .i64 0, .int .i64 0, .string ⟨#[]⟩, .slice none 0 0, .slice none 0 0] 58)).alloc (.cells #[.int .i64 0, .int .i64 0] 75) = V at *
    by_cases h34 : c.toNat = 34
    case neg =>
      have e34 : ¬ (c.toNat : Int) = 34 := by omega
      have n34 : ((c.toNat : Int) != 34) = true := by rw [bne_iff_ne]; exact e34
      have HQ : Hid (fieldR (valR f) m (cs.map (·.x)) n (c :: r1) = .er (r1.length + 1) 2) := Lib.hid (by unfold fieldR; rw [HSK.out]; simp only; rw [if_pos h34])
      clear h34
      have rr0 := HV.out.2.1.cell (i := 0) rfl
      have rr1 := HV.out.2.1.cell (i := 1) rfl
      have rr2 := HV.out.2.1.cell (i := 2) rfl
      have rr3 := HV.out.2.1.cell (i := 3) rfl
      have rr4 := HV.out.2.1.cell (i := 4) rfl
      have rr5 := HV.out.2.1.cell (i := 5) rfl
      have g0 := HV.out.2.1.frozen 0
      have g1 := HV.out.2.1.frozen 1
      have g2 := HV.out.2.1.frozen 2
      have g3 := HV.out.2.1.frozen 3
      have g4 := HV.out.2.1.frozen 4
      have g5 := HV.out.2.1.frozen 5
      have y0 := HV.out.2.2.1.cell (i := 0) rfl
      have y1 := HV.out.2.2.1.cell (i := 1) rfl
      have z0 := HV.out.2.2.1.frozen 0
      have z1 := HV.out.2.2.1.frozen 1
      have HF := Lib.hid (And.intro (fin_own8 HV.out.2.1 HV.out.2.2.1 (by omega) (.string ⟨#[]⟩) (.int .i64 0) (.int .i64 0) (.string ⟨#[]⟩) (.slice none 0 0) (.slice none 0 0) (.int .i64 (i)) (.int .i64 (2))).1 (And.intro (fin_own8 HV.out.2.1 HV.out.2.2.1 (by omega) (.string ⟨#[]⟩) (.int .i64 0) (.int .i64 0) (.string ⟨#[]⟩) (.slice none 0 0) (.slice none 0 0) (.int .i64 (i)) (.int .i64 (2))).2 (And.intro (below_put8 HV.out.1 (Nat.le_refl _) (Nat.le_succ _) (.string ⟨#[]⟩) (.int .i64 0) (.int .i64 0) (.string ⟨#[]⟩) (.slice none 0 0) (.slice none 0 0) (.int .i64 (i)) (.int .i64 (2))) (trivial))))
      go_wp2
      clear rr0 rr1 rr2 rr3 rr4 rr5 g0 g1 g2 g3 g4 g5 y0 y1 z0 z1
      change bodyPost Tryz.prog Tryz.f142 _ _ _ (put8 V w.heap.size (w.heap.size + 1) (.string ⟨#[]⟩) (.int .i64 0) (.int .i64 0) (.string ⟨#[]⟩) (.slice none 0 0) (.slice none 0 0) (.int .i64 (i)) (.int .i64 (2)))
      generalize put8 V w.heap.size (w.heap.size + 1) (.string ⟨#[]⟩) (.int .i64 0) (.int .i64 0) (.string ⟨#[]⟩) (.slice none 0 0) (.slice none 0 0) (.int .i64 (i)) (.int .i64 (2)) = U at *
      obtain ⟨oS, o2S, hBU, hIU⟩ := HF.out
      have c0 := oS.cell (i := 0) rfl
      have c1 := oS.cell (i := 1) rfl
      have c2 := oS.cell (i := 2) rfl
      have c3 := oS.cell (i := 3) rfl
      have c4 := oS.cell (i := 4) rfl
      have c5 := oS.cell (i := 5) rfl
      have d0 := o2S.cell (i := 0) rfl
      have d1 := o2S.cell (i := 1) rfl
      exact bodyPost_ret (v := .tuple #[.agg #[.string ⟨#[]⟩, .int .i64 0, .int .i64 0, .string ⟨#[]⟩, .slice none 0 0, .slice none 0 0], .int .i64 (0), .int .i64 (0), faultV (i) (2)]) (by simp [results, Tryz.results142, go_sem, c0, c1, c2, c3, c4, c5, d0, d1, VC.val, faultV]) rfl (QFr.mkEr ⟨[], VC0⟩ (k := r1.length + 1) (b := 2) (j := 0) (m := 0) HQ.out hBU (by rw [show s.length - (r1.length + 1) = i by have := HLEN.out; omega]; rfl))
    case pos =>
    have e34 : (c.toNat : Int) = 34 := by omega
    have H34 := Lib.hid h34
    clear h34
    by_cases hm0 : m = 0
    · have eM : (M : Int) = 64 := by have := HM.out; omega
      have HQ : Hid (fieldR (valR f) m (cs.map (·.x)) n (c :: r1) = .er (r1.length + 1) 4) := Lib.hid (by unfold fieldR; rw [HSK.out]; simp only; rw [if_neg (by rw [H34.out]; simp), if_pos hm0])
      clear hm0
      have rr0 := HV.out.2.1.cell (i := 0) rfl
      have rr1 := HV.out.2.1.cell (i := 1) rfl
      have rr2 := HV.out.2.1.cell (i := 2) rfl
      have rr3 := HV.out.2.1.cell (i := 3) rfl
      have rr4 := HV.out.2.1.cell (i := 4) rfl
      have rr5 := HV.out.2.1.cell (i := 5) rfl
      have g0 := HV.out.2.1.frozen 0
      have g1 := HV.out.2.1.frozen 1
      have g2 := HV.out.2.1.frozen 2
      have g3 := HV.out.2.1.frozen 3
      have g4 := HV.out.2.1.frozen 4
      have g5 := HV.out.2.1.frozen 5
      have y0 := HV.out.2.2.1.cell (i := 0) rfl
      have y1 := HV.out.2.2.1.cell (i := 1) rfl
      have z0 := HV.out.2.2.1.frozen 0
      have z1 := HV.out.2.2.1.frozen 1
      have HF := Lib.hid (And.intro (fin_own8 HV.out.2.1 HV.out.2.2.1 (by omega) (.string ⟨#[]⟩) (.int .i64 0) (.int .i64 0) (.string ⟨#[]⟩) (.slice none 0 0) (.slice none 0 0) (.int .i64 (i)) (.int .i64 (4))).1 (And.intro (fin_own8 HV.out.2.1 HV.out.2.2.1 (by omega) (.string ⟨#[]⟩) (.int .i64 0) (.int .i64 0) (.string ⟨#[]⟩) (.slice none 0 0) (.slice none 0 0) (.int .i64 (i)) (.int .i64 (4))).2 (And.intro (below_put8 HV.out.1 (Nat.le_refl _) (Nat.le_succ _) (.string ⟨#[]⟩) (.int .i64 0) (.int .i64 0) (.string ⟨#[]⟩) (.slice none 0 0) (.slice none 0 0) (.int .i64 (i)) (.int .i64 (4))) (trivial))))
      go_wp2
      clear rr0 rr1 rr2 rr3 rr4 rr5 g0 g1 g2 g3 g4 g5 y0 y1 z0 z1
      change bodyPost Tryz.prog Tryz.f142 _ _ _ (put8 V w.heap.size (w.heap.size + 1) (.string ⟨#[]⟩) (.int .i64 0) (.int .i64 0) (.string ⟨#[]⟩) (.slice none 0 0) (.slice none 0 0) (.int .i64 (i)) (.int .i64 (4)))
      generalize put8 V w.heap.size (w.heap.size + 1) (.string ⟨#[]⟩) (.int .i64 0) (.int .i64 0) (.string ⟨#[]⟩) (.slice none 0 0) (.slice none 0 0) (.int .i64 (i)) (.int .i64 (4)) = U at *
      obtain ⟨oS, o2S, hBU, hIU⟩ := HF.out
      have c0 := oS.cell (i := 0) rfl
      have c1 := oS.cell (i := 1) rfl
      have c2 := oS.cell (i := 2) rfl
      have c3 := oS.cell (i := 3) rfl
      have c4 := oS.cell (i := 4) rfl
      have c5 := oS.cell (i := 5) rfl
      have d0 := o2S.cell (i := 0) rfl
      have d1 := o2S.cell (i := 1) rfl
      exact bodyPost_ret (v := .tuple #[.agg #[.string ⟨#[]⟩, .int .i64 0, .int .i64 0, .string ⟨#[]⟩, .slice none 0 0, .slice none 0 0], .int .i64 (0), .int .i64 (0), faultV (i) (4)]) (by simp [results, Tryz.results142, go_sem, c0, c1, c2, c3, c4, c5, d0, d1, VC.val, faultV]) rfl (QFr.mkEr ⟨[], VC0⟩ (k := r1.length + 1) (b := 4) (j := 0) (m := 0) HQ.out hBU (by rw [show s.length - (r1.length + 1) = i by have := HLEN.out; omega]; rfl))
    have eM : ¬ (M : Int) = 64 := by have := HM.out; omega
    have bM : ((M : Int) == 64) = false := by rw [beq_eq_false_iff_ne]; exact eM
    have HFR : Hid (fieldR (valR f) m (cs.map (·.x)) n (c :: r1) = fieldN (valR f) (cs.map (·.x)) n (r1.length + 1) (nameR 0 r1)) := Lib.hid (fieldR_at HSK.out H34.out hm0)
    clear hm0
    have CN := Lib.hid (rname_any hl HP0.out V)
    go_wp2_with fail
    refine CN.out.mono ?_
    rintro e w1 hq
    clear CN
    have hs1 := hq.below.size
    have hVl := HV.out.2.2.1.lt
    cases hR : nameR 0 r1 with
    | er k b =>
      obtain rfl := hq.er k b hR
      have HNZ : ¬ b = 0 := by have := nz_nameR r1 0; rw [hR] at this; exact this
      have hneb : (b != 0) = true := by rw [bne_iff_ne]; exact HNZ
      have HQ : Hid (fieldR (valR f) m (cs.map (·.x)) n (c :: r1) = .er k b) := Lib.hid (by rw [HFR.out, hR]; rfl)
      have hX := below_alloc w1 (.cells #[.int .i64 ((s.length - k : Nat) : Int), .int .i64 b] 75)
      have HX := Lib.hid (And.intro (below_all (below_all HV.out.1 hq.below) hX) (And.intro ((HV.out.2.1.all hq.below).all hX) (And.intro ((HV.out.2.2.1.all hq.below).all hX) (Own.new w1 [.int .i64 ((s.length - k : Nat) : Int), .int .i64 b] 75))))
      clear hR hq hX HV
      go_upto_region 8 with (fail)
      change Code.wp Tryz.prog _ _ _ (w1.alloc (.cells #[.int .i64 ((s.length - k : Nat) : Int), .int .i64 b] 75))
      generalize w1.alloc (.cells #[.int .i64 ((s.length - k : Nat) : Int), .int .i64 b] 75) = X at *
      have t0 := HX.out.2.2.2.cell (i := 0) rfl
      have t1 := HX.out.2.2.2.cell (i := 1) rfl
      have ne1 : ¬ w1.heap.size = w.heap.size := by omega
      have ne2 : ¬ w1.heap.size = w.heap.size + 1 := by omega
      have ne3 : ¬ w.heap.size = w1.heap.size := by omega
      have ne4 : ¬ w.heap.size + 1 = w1.heap.size := by omega
      have rr0 := HX.out.2.1.cell (i := 0) rfl
      have rr1 := HX.out.2.1.cell (i := 1) rfl
      have rr2 := HX.out.2.1.cell (i := 2) rfl
      have rr3 := HX.out.2.1.cell (i := 3) rfl
      have rr4 := HX.out.2.1.cell (i := 4) rfl
      have rr5 := HX.out.2.1.cell (i := 5) rfl
      have g0 := HX.out.2.1.frozen 0
      have g1 := HX.out.2.1.frozen 1
      have g2 := HX.out.2.1.frozen 2
      have g3 := HX.out.2.1.frozen 3
      have g4 := HX.out.2.1.frozen 4
      have g5 := HX.out.2.1.frozen 5
      have y0 := HX.out.2.2.1.cell (i := 0) rfl
      have y1 := HX.out.2.2.1.cell (i := 1) rfl
      have z0 := HX.out.2.2.1.frozen 0
      have z1 := HX.out.2.2.1.frozen 1
      have HF := Lib.hid (And.intro (fin_own8 HX.out.2.1 HX.out.2.2.1 (by omega) (.string ⟨#[]⟩) (.int .i64 0) (.int .i64 0) (.string ⟨#[]⟩) (.slice none 0 0) (.slice none 0 0) (.int .i64 ((s.length - k : Nat))) (.int .i64 (b))).1 (And.intro (fin_own8 HX.out.2.1 HX.out.2.2.1 (by omega) (.string ⟨#[]⟩) (.int .i64 0) (.int .i64 0) (.string ⟨#[]⟩) (.slice none 0 0) (.slice none 0 0) (.int .i64 ((s.length - k : Nat))) (.int .i64 (b))).2 (And.intro (below_put8 HX.out.1 (Nat.le_refl _) (Nat.le_succ _) (.string ⟨#[]⟩) (.int .i64 0) (.int .i64 0) (.string ⟨#[]⟩) (.slice none 0 0) (.slice none 0 0) (.int .i64 ((s.length - k : Nat))) (.int .i64 (b))) (trivial))))
      go_upto_region 9 with (fail)
      go_region
      go_wp2
      clear t0 t1
      clear rr0 rr1 rr2 rr3 rr4 rr5 g0 g1 g2 g3 g4 g5 y0 y1 z0 z1
      change bodyPost Tryz.prog Tryz.f142 _ _ _ (put8 X w.heap.size (w.heap.size + 1) (.string ⟨#[]⟩) (.int .i64 0) (.int .i64 0) (.string ⟨#[]⟩) (.slice none 0 0) (.slice none 0 0) (.int .i64 ((s.length - k : Nat))) (.int .i64 (b))).drew
      generalize put8 X w.heap.size (w.heap.size + 1) (.string ⟨#[]⟩) (.int .i64 0) (.int .i64 0) (.string ⟨#[]⟩) (.slice none 0 0) (.slice none 0 0) (.int .i64 ((s.length - k : Nat))) (.int .i64 (b)) = U at *
      obtain ⟨oS, o2S, hBU, hIU⟩ := HF.out
      replace oS := oS.drew
      replace o2S := o2S.drew
      replace hBU := hBU.drew
      have c0 := oS.cell (i := 0) rfl
      have c1 := oS.cell (i := 1) rfl
      have c2 := oS.cell (i := 2) rfl
      have c3 := oS.cell (i := 3) rfl
      have c4 := oS.cell (i := 4) rfl
      have c5 := oS.cell (i := 5) rfl
      have d0 := o2S.cell (i := 0) rfl
      have d1 := o2S.cell (i := 1) rfl
      exact bodyPost_ret (v := .tuple #[.agg #[.string ⟨#[]⟩, .int .i64 0, .int .i64 0, .string ⟨#[]⟩, .slice none 0 0, .slice none 0 0], .int .i64 (0), .int .i64 (0), faultV ((s.length - k : Nat)) (b)]) (by simp [results, Tryz.results142, go_sem, c0, c1, c2, c3, c4, c5, d0, d1, VC.val, faultV]) rfl (QFr.mkEr ⟨[], VC0⟩ (k := k) (b := b) (j := 0) (m := 0) HQ.out hBU (rfl))
    | ok p =>
      obtain ⟨nm, r2⟩ := p
      obtain ⟨j2, hp2, rfl⟩ := hq.ok nm r2 hR
      have HP2 := Lib.hid hp2
      have HFN : Hid (fieldR (valR f) m (cs.map (·.x)) n (c :: r1) = fieldN (valR f) (cs.map (·.x)) n (r1.length + 1) (.ok (nm, r2))) := Lib.hid (by rw [HFR.out, hR])
      have hX := below_alloc w1 (.cells #[.int .i64 0, .int .i64 0] 75)
      have HX := Lib.hid (And.intro (below_all (below_all HV.out.1 hq.below) hX) (And.intro ((HV.out.2.1.all hq.below).all hX) (And.intro ((HV.out.2.2.1.all hq.below).all hX) (And.intro ((HV.out.2.2.2.all hq.below).all hX) (Own.new w1 [.int .i64 0, .int .i64 0] 75)))))
      clear hR hq hX HV hp2 HFR
      go_upto_region 8 with (fail)
      change Code.wp Tryz.prog _ _ _ (w1.alloc (.cells #[.int .i64 0, .int .i64 0] 75))
      generalize w1.alloc (.cells #[.int .i64 0, .int .i64 0] 75) = X at *
      have t1 := HX.out.2.2.2.2.cell (i := 1) rfl
      go_wp2
      clear t1
      go_loopg [17] M (fun g vk wr => ∃ k : Nat, k ≤ M ∧ g = M - k ∧ vk = .int .i64 k ∧ X = wr ∧ Hid (∀ y ∈ cs.take k, ¬ y.x = nm))
      case atStart => exact ⟨0, Nat.zero_le _, rfl, rfl, rfl, Lib.hid (by simp)⟩
      case round =>
        obtain ⟨k, hk, hg, rfl, rfl, HY⟩ := hrel
        have HG := Lib.hid hg
        clear hg
        by_cases hkl : k < M
        · have hkc : k < cs.length := by rw [HN.out]; exact hkl
          have hx := get_some hkc
          have HT : Hid (cs.take (k + 1) = cs.take k ++ [cs[k]]) := Lib.hid (List.take_succ_eq_append_getElem hkc)
          have HMEM : Hid (cs[k] ∈ cs) := Lib.hid (List.getElem_mem hkc)
          generalize cs[k] = y at hx HT HMEM
          obtain ⟨bb, off, hao, q0, -⟩ := (show Flat X (.slice ao M cp) cs.length (cs.flatMap FC.cells) by rw [HN.out]; exact HX.out.2.2.2.1).fieldAt (Below.refl _ X) hx
          subst hao
          clear hx hkc
          by_cases hy : y.x = nm
          · have hy2 : (y.x == nm) = true := by simp [hy]
            have HQ : Hid (fieldR (valR f) m (cs.map (·.x)) n (c :: r1) = .er (r1.length + 1) 8) := Lib.hid (by rw [HFN.out]; simp only [fieldN]; rw [if_pos (List.mem_map.2 ⟨y, HMEM.out, hy⟩)])
            have rr0 := HX.out.2.1.cell (i := 0) rfl
            have rr1 := HX.out.2.1.cell (i := 1) rfl
            have rr2 := HX.out.2.1.cell (i := 2) rfl
            have rr3 := HX.out.2.1.cell (i := 3) rfl
            have rr4 := HX.out.2.1.cell (i := 4) rfl
            have rr5 := HX.out.2.1.cell (i := 5) rfl
            have g0 := HX.out.2.1.frozen 0
            have g1 := HX.out.2.1.frozen 1
            have g2 := HX.out.2.1.frozen 2
            have g3 := HX.out.2.1.frozen 3
            have g4 := HX.out.2.1.frozen 4
            have g5 := HX.out.2.1.frozen 5
            have y0 := HX.out.2.2.1.cell (i := 0) rfl
            have y1 := HX.out.2.2.1.cell (i := 1) rfl
            have z0 := HX.out.2.2.1.frozen 0
            have z1 := HX.out.2.2.1.frozen 1
            have HF := Lib.hid (And.intro (fin_own8 HX.out.2.1 HX.out.2.2.1 (by omega) (.string ⟨#[]⟩) (.int .i64 0) (.int .i64 0) (.string ⟨#[]⟩) (.slice none 0 0) (.slice none 0 0) (.int .i64 (i)) (.int .i64 (8))).1 (And.intro (fin_own8 HX.out.2.1 HX.out.2.2.1 (by omega) (.string ⟨#[]⟩) (.int .i64 0) (.int .i64 0) (.string ⟨#[]⟩) (.slice none 0 0) (.slice none 0 0) (.int .i64 (i)) (.int .i64 (8))).2 (And.intro (below_put8 HX.out.1 (Nat.le_refl _) (Nat.le_succ _) (.string ⟨#[]⟩) (.int .i64 0) (.int .i64 0) (.string ⟨#[]⟩) (.slice none 0 0) (.slice none 0 0) (.int .i64 (i)) (.int .i64 (8))) (trivial))))
            go_wp2
            clear rr0 rr1 rr2 rr3 rr4 rr5 g0 g1 g2 g3 g4 g5 y0 y1 z0 z1
            change bodyPost Tryz.prog Tryz.f142 _ _ _ (put8 X w.heap.size (w.heap.size + 1) (.string ⟨#[]⟩) (.int .i64 0) (.int .i64 0) (.string ⟨#[]⟩) (.slice none 0 0) (.slice none 0 0) (.int .i64 (i)) (.int .i64 (8)))
            generalize put8 X w.heap.size (w.heap.size + 1) (.string ⟨#[]⟩) (.int .i64 0) (.int .i64 0) (.string ⟨#[]⟩) (.slice none 0 0) (.slice none 0 0) (.int .i64 (i)) (.int .i64 (8)) = U at *
            obtain ⟨oS, o2S, hBU, hIU⟩ := HF.out
            have c0 := oS.cell (i := 0) rfl
            have c1 := oS.cell (i := 1) rfl
            have c2 := oS.cell (i := 2) rfl
            have c3 := oS.cell (i := 3) rfl
            have c4 := oS.cell (i := 4) rfl
            have c5 := oS.cell (i := 5) rfl
            have d0 := o2S.cell (i := 0) rfl
            have d1 := o2S.cell (i := 1) rfl
            exact bodyPost_ret (v := .tuple #[.agg #[.string ⟨#[]⟩, .int .i64 0, .int .i64 0, .string ⟨#[]⟩, .slice none 0 0, .slice none 0 0], .int .i64 (0), .int .i64 (0), faultV (i) (8)]) (by simp [results, Tryz.results142, go_sem, c0, c1, c2, c3, c4, c5, d0, d1, VC.val, faultV]) rfl (QFr.mkEr ⟨[], VC0⟩ (k := r1.length + 1) (b := 8) (j := 0) (m := 0) HQ.out hBU (by rw [show s.length - (r1.length + 1) = i by have := HLEN.out; omega]; rfl))
          · have hy2 : (y.x == nm) = false := by rw [beq_eq_false_iff_ne]; exact hy
            have HYN : Hid (∀ z ∈ cs.take (k + 1), ¬ z.x = nm) := Lib.hid (fun z hz => by
              rw [HT.out, List.mem_append] at hz
              rcases hz with hz | hz
              · exact HY.out z hz
              · obtain rfl := List.mem_singleton.1 hz; exact hy)
            go_wp2
            go_roundg (M - (k + 1))
            case measure => have := HG.out; omega
            case rel => exact ⟨k + 1, by omega, rfl, by go_num, rfl, HYN⟩
        · have HNS : Hid (¬ nm ∈ cs.map (·.x)) := Lib.hid (fun hmem => by
            obtain ⟨y, hy1, hy2⟩ := List.mem_map.1 hmem
            have hkM : k = cs.length := by rw [HN.out]; omega
            have := HY.out y (by rw [hkM, List.take_length]; exact hy1)
            exact this hy2)
          have CK := Lib.hid (rskip_any hl HP2.out X)
          clear HY
          go_wp2_with fail
          refine CK.out.mono ?_
          rintro e w3 ⟨j3, rfl, hp3, rfl⟩
          clear CK
          obtain ⟨q3, hq3⟩ : ∃ q3, skp r2 = q3 := ⟨_, rfl⟩
          rw [hq3] at hp3
          have HFK : Hid (fieldR (valR f) m (cs.map (·.x)) n (c :: r1) = (match byteR 58 q3 with
              | .er a b => .er a b
              | .ok r3 => match valR f false n r3 with
                | .er a b => .er a b
                | .ok (t, n', r4) => .ok ((nm, t), n', r4))) := Lib.hid (by rw [HFN.out, ← hq3]; simp only [fieldN]; rw [if_neg HNS.out])
          clear hq3 HFN HNS
          cases q3 with
          | nil =>
            obtain rfl := hp3.fin
            have HQ : Hid (fieldR (valR f) m (cs.map (·.x)) n (c :: r1) = .er 0 3) := Lib.hid (by rw [HFK.out]; rfl)
            clear hp3
            have rr0 := HX.out.2.1.cell (i := 0) rfl
            have rr1 := HX.out.2.1.cell (i := 1) rfl
            have rr2 := HX.out.2.1.cell (i := 2) rfl
            have rr3 := HX.out.2.1.cell (i := 3) rfl
            have rr4 := HX.out.2.1.cell (i := 4) rfl
            have rr5 := HX.out.2.1.cell (i := 5) rfl
            have g0 := HX.out.2.1.frozen 0
            have g1 := HX.out.2.1.frozen 1
            have g2 := HX.out.2.1.frozen 2
            have g3 := HX.out.2.1.frozen 3
            have g4 := HX.out.2.1.frozen 4
            have g5 := HX.out.2.1.frozen 5
            have y0 := HX.out.2.2.1.cell (i := 0) rfl
            have y1 := HX.out.2.2.1.cell (i := 1) rfl
            have z0 := HX.out.2.2.1.frozen 0
            have z1 := HX.out.2.2.1.frozen 1
            have HF := Lib.hid (And.intro (fin_own8 HX.out.2.1 HX.out.2.2.1 (by omega) (.string ⟨#[]⟩) (.int .i64 0) (.int .i64 0) (.string ⟨#[]⟩) (.slice none 0 0) (.slice none 0 0) (.int .i64 (s.length)) (.int .i64 (3))).1 (And.intro (fin_own8 HX.out.2.1 HX.out.2.2.1 (by omega) (.string ⟨#[]⟩) (.int .i64 0) (.int .i64 0) (.string ⟨#[]⟩) (.slice none 0 0) (.slice none 0 0) (.int .i64 (s.length)) (.int .i64 (3))).2 (And.intro (below_put8 HX.out.1 (Nat.le_refl _) (Nat.le_succ _) (.string ⟨#[]⟩) (.int .i64 0) (.int .i64 0) (.string ⟨#[]⟩) (.slice none 0 0) (.slice none 0 0) (.int .i64 (s.length)) (.int .i64 (3))) (trivial))))
            go_wp2
            clear rr0 rr1 rr2 rr3 rr4 rr5 g0 g1 g2 g3 g4 g5 y0 y1 z0 z1
            change bodyPost Tryz.prog Tryz.f142 _ _ _ (put8 X w.heap.size (w.heap.size + 1) (.string ⟨#[]⟩) (.int .i64 0) (.int .i64 0) (.string ⟨#[]⟩) (.slice none 0 0) (.slice none 0 0) (.int .i64 (s.length)) (.int .i64 (3)))
            generalize put8 X w.heap.size (w.heap.size + 1) (.string ⟨#[]⟩) (.int .i64 0) (.int .i64 0) (.string ⟨#[]⟩) (.slice none 0 0) (.slice none 0 0) (.int .i64 (s.length)) (.int .i64 (3)) = U at *
            obtain ⟨oS, o2S, hBU, hIU⟩ := HF.out
            have c0 := oS.cell (i := 0) rfl
            have c1 := oS.cell (i := 1) rfl
            have c2 := oS.cell (i := 2) rfl
            have c3 := oS.cell (i := 3) rfl
            have c4 := oS.cell (i := 4) rfl
            have c5 := oS.cell (i := 5) rfl
            have d0 := o2S.cell (i := 0) rfl
            have d1 := o2S.cell (i := 1) rfl
            exact bodyPost_ret (v := .tuple #[.agg #[.string ⟨#[]⟩, .int .i64 0, .int .i64 0, .string ⟨#[]⟩, .slice none 0 0, .slice none 0 0], .int .i64 (0), .int .i64 (0), faultV (s.length) (3)]) (by simp [results, Tryz.results142, go_sem, c0, c1, c2, c3, c4, c5, d0, d1, VC.val, faultV]) rfl (QFr.mkEr ⟨[], VC0⟩ (k := 0) (b := 3) (j := 0) (m := 0) HQ.out hBU (by rw [Nat.sub_zero]; rfl))
          | cons c3 r3 =>
            obtain ⟨hlt3, hc3, -, hlen3⟩ := drop_byte hp3.dr
            have hm3 : ((⟨s.toArray⟩ : ByteArray)[j3]'hlt3).toNat = c3.toNat := by rw [← hc3]; rfl
            have HLEN3 := Lib.hid hlen3
            have HP3 := Lib.hid hp3
            clear hc3 hlen3 hp3
            by_cases h58 : c3.toNat = 58
            case neg =>
              have e58 : ¬ (c3.toNat : Int) = 58 := by omega
              have n58 : ((c3.toNat : Int) != 58) = true := by rw [bne_iff_ne]; exact e58
              have HQ : Hid (fieldR (valR f) m (cs.map (·.x)) n (c :: r1) = .er (r3.length + 1) 2) := Lib.hid (by rw [HFK.out]; simp only [byteR]; rw [if_neg (fun e => h58 (by rw [e]; rfl))])
              clear h58
              have rr0 := HX.out.2.1.cell (i := 0) rfl
              have rr1 := HX.out.2.1.cell (i := 1) rfl
              have rr2 := HX.out.2.1.cell (i := 2) rfl
              have rr3 := HX.out.2.1.cell (i := 3) rfl
              have rr4 := HX.out.2.1.cell (i := 4) rfl
              have rr5 := HX.out.2.1.cell (i := 5) rfl
              have g0 := HX.out.2.1.frozen 0
              have g1 := HX.out.2.1.frozen 1
              have g2 := HX.out.2.1.frozen 2
              have g3 := HX.out.2.1.frozen 3
              have g4 := HX.out.2.1.frozen 4
              have g5 := HX.out.2.1.frozen 5
              have y0 := HX.out.2.2.1.cell (i := 0) rfl
              have y1 := HX.out.2.2.1.cell (i := 1) rfl
              have z0 := HX.out.2.2.1.frozen 0
              have z1 := HX.out.2.2.1.frozen 1
              have HF := Lib.hid (And.intro (fin_own8 HX.out.2.1 HX.out.2.2.1 (by omega) (.string ⟨#[]⟩) (.int .i64 0) (.int .i64 0) (.string ⟨#[]⟩) (.slice none 0 0) (.slice none 0 0) (.int .i64 (j3)) (.int .i64 (2))).1 (And.intro (fin_own8 HX.out.2.1 HX.out.2.2.1 (by omega) (.string ⟨#[]⟩) (.int .i64 0) (.int .i64 0) (.string ⟨#[]⟩) (.slice none 0 0) (.slice none 0 0) (.int .i64 (j3)) (.int .i64 (2))).2 (And.intro (below_put8 HX.out.1 (Nat.le_refl _) (Nat.le_succ _) (.string ⟨#[]⟩) (.int .i64 0) (.int .i64 0) (.string ⟨#[]⟩) (.slice none 0 0) (.slice none 0 0) (.int .i64 (j3)) (.int .i64 (2))) (trivial))))
              go_wp2
              clear rr0 rr1 rr2 rr3 rr4 rr5 g0 g1 g2 g3 g4 g5 y0 y1 z0 z1
              change bodyPost Tryz.prog Tryz.f142 _ _ _ (put8 X w.heap.size (w.heap.size + 1) (.string ⟨#[]⟩) (.int .i64 0) (.int .i64 0) (.string ⟨#[]⟩) (.slice none 0 0) (.slice none 0 0) (.int .i64 (j3)) (.int .i64 (2)))
              generalize put8 X w.heap.size (w.heap.size + 1) (.string ⟨#[]⟩) (.int .i64 0) (.int .i64 0) (.string ⟨#[]⟩) (.slice none 0 0) (.slice none 0 0) (.int .i64 (j3)) (.int .i64 (2)) = U at *
              obtain ⟨oS, o2S, hBU, hIU⟩ := HF.out
              have c0 := oS.cell (i := 0) rfl
              have c1 := oS.cell (i := 1) rfl
              have c2 := oS.cell (i := 2) rfl
              have c3 := oS.cell (i := 3) rfl
              have c4 := oS.cell (i := 4) rfl
              have c5 := oS.cell (i := 5) rfl
              have d0 := o2S.cell (i := 0) rfl
              have d1 := o2S.cell (i := 1) rfl
              exact bodyPost_ret (v := .tuple #[.agg #[.string ⟨#[]⟩, .int .i64 0, .int .i64 0, .string ⟨#[]⟩, .slice none 0 0, .slice none 0 0], .int .i64 (0), .int .i64 (0), faultV (j3) (2)]) (by simp [results, Tryz.results142, go_sem, c0, c1, c2, c3, c4, c5, d0, d1, VC.val, faultV]) rfl (QFr.mkEr ⟨[], VC0⟩ (k := r3.length + 1) (b := 2) (j := 0) (m := 0) HQ.out hBU (by rw [show s.length - (r3.length + 1) = j3 by have := HLEN3.out; omega]; rfl))
            case pos =>
            have e58 : (c3.toNat : Int) = 58 := by omega
            have HFV : Hid (fieldR (valR f) m (cs.map (·.x)) n (c :: r1) = (match valR f false n r3 with
                | .er a b => .er a b
                | .ok (t, n', r4) => .ok ((nm, t), n', r4))) := Lib.hid (by rw [HFK.out]; simp only [byteR]; rw [if_pos (UInt8.toNat_inj.1 h58)])
            obtain ⟨j4, hj4⟩ : ∃ j4 : Nat, j4 = j3 + 1 := ⟨_, rfl⟩
            have hjI : (j3 : Int) + 1 = (j4 : Int) := by omega
            have HP4 := Lib.hid (show Ps s j4 r3 from hj4 ▸ HP3.out.next)
            clear h58 hj4 HFK
            have CK := Lib.hid (rskip_any hl HP4.out X)
            go_wp2_with fail
            refine CK.out.mono ?_
            rintro e w4 ⟨j5, rfl, hp5, rfl⟩
            clear CK
            have CV := HVr false n (skp r3) j5 X hn hp5 (skp_skp _)
            rw [(valR_ok f).skp] at CV
            have HCV := Lib.hid CV
            clear CV hp5
            go_wp2_with fail
            refine HCV.out.mono ?_
            rintro e w5 hq
            clear HCV
            have hs5 := hq.below.size
            have hXl := HX.out.2.2.1.lt
            cases hR : valR f false n r3 with
            | er k5 b =>
              obtain ⟨c6, j6, m6, rfl⟩ := hq.er k5 b hR
              have HQ : Hid (fieldR (valR f) m (cs.map (·.x)) n (c :: r1) = .er k5 b) := Lib.hid (by rw [HFV.out, hR])
              have hX2 : Below w5.heap.size w5 ((w5.alloc (.cells #[.int .i64 c6.k, .int .i64 c6.n, sV c6.s, .slice c6.la c6.ln c6.lc, .slice c6.fa c6.fn c6.fc] 25)).alloc (.cells #[.int .i64 ((s.length - k5 : Nat)), .int .i64 (b)] 75)) := (below_alloc w5 _).alloc (by rw [size_alloc]; omega) _
              have oSX : Own ((w5.alloc (.cells #[.int .i64 c6.k, .int .i64 c6.n, sV c6.s, .slice c6.la c6.ln c6.lc, .slice c6.fa c6.fn c6.fc] 25)).alloc (.cells #[.int .i64 ((s.length - k5 : Nat)), .int .i64 (b)] 75)) w5.heap.size [.int .i64 c6.k, .int .i64 c6.n, sV c6.s, .slice c6.la c6.ln c6.lc, .slice c6.fa c6.fn c6.fc] 25 := (Own.new w5 _ _).alloc _
              have oTX : Own ((w5.alloc (.cells #[.int .i64 c6.k, .int .i64 c6.n, sV c6.s, .slice c6.la c6.ln c6.lc, .slice c6.fa c6.fn c6.fc] 25)).alloc (.cells #[.int .i64 ((s.length - k5 : Nat)), .int .i64 (b)] 75)) (w5.heap.size + 1) [.int .i64 ((s.length - k5 : Nat)), .int .i64 (b)] 75 := Own.new_at (by rw [size_alloc]) _ _
              have HY := Lib.hid (And.intro (below_all (below_all HX.out.1 hq.below) hX2) (And.intro ((HX.out.2.1.all hq.below).all hX2) (And.intro ((HX.out.2.2.1.all hq.below).all hX2) (And.intro oSX oTX))))
              clear hR hq hX2 oSX oTX HX
              go_upto_region 21 with (fail)
              change Code.wp Tryz.prog _ _ _ ((w5.alloc (.cells #[.int .i64 c6.k, .int .i64 c6.n, sV c6.s, .slice c6.la c6.ln c6.lc, .slice c6.fa c6.fn c6.fc] 25)).alloc (.cells #[.int .i64 ((s.length - k5 : Nat)), .int .i64 (b)] 75))
              generalize (w5.alloc (.cells #[.int .i64 c6.k, .int .i64 c6.n, sV c6.s, .slice c6.la c6.ln c6.lc, .slice c6.fa c6.fn c6.fc] 25)).alloc (.cells #[.int .i64 ((s.length - k5 : Nat)), .int .i64 (b)] 75) = Y at *
              have t0 := HY.out.2.2.2.2.cell (i := 0) rfl
              have t1 := HY.out.2.2.2.2.cell (i := 1) rfl
              have s0 := HY.out.2.2.2.1.cell (i := 0) rfl
              have s1 := HY.out.2.2.2.1.cell (i := 1) rfl
              have s2 := HY.out.2.2.2.1.cell (i := 2) rfl
              have s3 := HY.out.2.2.2.1.cell (i := 3) rfl
              have s4 := HY.out.2.2.2.1.cell (i := 4) rfl
              have ne1 : ¬ w5.heap.size + 1 = w.heap.size := by omega
              have ne2 : ¬ w5.heap.size = w.heap.size := by omega
              have ne3 : ¬ w.heap.size = w5.heap.size + 1 := by omega
              have ne4 : ¬ w.heap.size = w5.heap.size := by omega
              have ne5 : ¬ w5.heap.size = w.heap.size + 1 := by omega
              have ne6 : ¬ w.heap.size + 1 = w5.heap.size := by omega
              have rr0 := HY.out.2.1.cell (i := 0) rfl
              have rr1 := HY.out.2.1.cell (i := 1) rfl
              have rr2 := HY.out.2.1.cell (i := 2) rfl
              have rr3 := HY.out.2.1.cell (i := 3) rfl
              have rr4 := HY.out.2.1.cell (i := 4) rfl
              have rr5 := HY.out.2.1.cell (i := 5) rfl
              have g0 := HY.out.2.1.frozen 0
              have g1 := HY.out.2.1.frozen 1
              have g2 := HY.out.2.1.frozen 2
              have g3 := HY.out.2.1.frozen 3
              have g4 := HY.out.2.1.frozen 4
              have g5 := HY.out.2.1.frozen 5
              have y0 := HY.out.2.2.1.cell (i := 0) rfl
              have y1 := HY.out.2.2.1.cell (i := 1) rfl
              have z0 := HY.out.2.2.1.frozen 0
              have z1 := HY.out.2.2.1.frozen 1
              have HF := Lib.hid (And.intro (fin_own8 HY.out.2.1 HY.out.2.2.1 (by omega) (sV nm) (.int .i64 c6.k) (.int .i64 c6.n) (sV c6.s) (.slice c6.la c6.ln c6.lc) (.slice c6.fa c6.fn c6.fc) (.int .i64 ((s.length - k5 : Nat))) (.int .i64 (b))).1 (And.intro (fin_own8 HY.out.2.1 HY.out.2.2.1 (by omega) (sV nm) (.int .i64 c6.k) (.int .i64 c6.n) (sV c6.s) (.slice c6.la c6.ln c6.lc) (.slice c6.fa c6.fn c6.fc) (.int .i64 ((s.length - k5 : Nat))) (.int .i64 (b))).2 (And.intro (below_put8 HY.out.1 (Nat.le_refl _) (Nat.le_succ _) (sV nm) (.int .i64 c6.k) (.int .i64 c6.n) (sV c6.s) (.slice c6.la c6.ln c6.lc) (.slice c6.fa c6.fn c6.fc) (.int .i64 ((s.length - k5 : Nat))) (.int .i64 (b))) (trivial))))
              go_region
              go_wp2
              clear t0 t1 s0 s1 s2 s3 s4
              clear rr0 rr1 rr2 rr3 rr4 rr5 g0 g1 g2 g3 g4 g5 y0 y1 z0 z1
              change bodyPost Tryz.prog Tryz.f142 _ _ _ (put8 Y w.heap.size (w.heap.size + 1) (sV nm) (.int .i64 c6.k) (.int .i64 c6.n) (sV c6.s) (.slice c6.la c6.ln c6.lc) (.slice c6.fa c6.fn c6.fc) (.int .i64 ((s.length - k5 : Nat))) (.int .i64 (b))).drew
              generalize put8 Y w.heap.size (w.heap.size + 1) (sV nm) (.int .i64 c6.k) (.int .i64 c6.n) (sV c6.s) (.slice c6.la c6.ln c6.lc) (.slice c6.fa c6.fn c6.fc) (.int .i64 ((s.length - k5 : Nat))) (.int .i64 (b)) = U at *
              obtain ⟨oS, o2S, hBU, hIU⟩ := HF.out
              replace oS := oS.drew
              replace o2S := o2S.drew
              replace hBU := hBU.drew
              have c0 := oS.cell (i := 0) rfl
              have c1 := oS.cell (i := 1) rfl
              have c2 := oS.cell (i := 2) rfl
              have c3 := oS.cell (i := 3) rfl
              have c4 := oS.cell (i := 4) rfl
              have c5 := oS.cell (i := 5) rfl
              have d0 := o2S.cell (i := 0) rfl
              have d1 := o2S.cell (i := 1) rfl
              exact bodyPost_ret (v := .tuple #[.agg #[sV nm, .int .i64 c6.k, .int .i64 c6.n, sV c6.s, .slice c6.la c6.ln c6.lc, .slice c6.fa c6.fn c6.fc], .int .i64 (j6), .int .i64 (m6), faultV ((s.length - k5 : Nat)) (b)]) (by simp [results, Tryz.results142, go_sem, c0, c1, c2, c3, c4, c5, d0, d1, VC.val, faultV]) rfl (QFr.mkEr ⟨nm, c6⟩ (k := k5) (b := b) (j := j6) (m := m6) HQ.out hBU rfl)
            | ok p =>
              obtain ⟨t, n6, r6⟩ := p
              obtain ⟨c6, j6, hp6, hI6, rfl⟩ := hq.ok t n6 r6 hR
              have HQ : Hid (fieldR (valR f) m (cs.map (·.x)) n (c :: r1) = .ok ((nm, t), n6, r6)) := Lib.hid (by rw [HFV.out, hR])
              have HP6 := Lib.hid hp6
              have HI6 := Lib.hid hI6
              clear hp6 hI6
              have hX2 : Below w5.heap.size w5 ((w5.alloc (.cells #[.int .i64 c6.k, .int .i64 c6.n, sV c6.s, .slice c6.la c6.ln c6.lc, .slice c6.fa c6.fn c6.fc] 25)).alloc (.cells #[.int .i64 (0), .int .i64 (0)] 75)) := (below_alloc w5 _).alloc (by rw [size_alloc]; omega) _
              have oSX : Own ((w5.alloc (.cells #[.int .i64 c6.k, .int .i64 c6.n, sV c6.s, .slice c6.la c6.ln c6.lc, .slice c6.fa c6.fn c6.fc] 25)).alloc (.cells #[.int .i64 (0), .int .i64 (0)] 75)) w5.heap.size [.int .i64 c6.k, .int .i64 c6.n, sV c6.s, .slice c6.la c6.ln c6.lc, .slice c6.fa c6.fn c6.fc] 25 := (Own.new w5 _ _).alloc _
              have oTX : Own ((w5.alloc (.cells #[.int .i64 c6.k, .int .i64 c6.n, sV c6.s, .slice c6.la c6.ln c6.lc, .slice c6.fa c6.fn c6.fc] 25)).alloc (.cells #[.int .i64 (0), .int .i64 (0)] 75)) (w5.heap.size + 1) [.int .i64 (0), .int .i64 (0)] 75 := Own.new_at (by rw [size_alloc]) _ _
              have HY := Lib.hid (And.intro (below_all (below_all HX.out.1 hq.below) hX2) (And.intro ((HX.out.2.1.all hq.below).all hX2) (And.intro ((HX.out.2.2.1.all hq.below).all hX2) (And.intro oSX oTX))))
              have HI7 := Lib.hid (HI6.out.all hX2)
              clear hR hq hX2 oSX oTX HX
              go_upto_region 21 with (fail)
              change Code.wp Tryz.prog _ _ _ ((w5.alloc (.cells #[.int .i64 c6.k, .int .i64 c6.n, sV c6.s, .slice c6.la c6.ln c6.lc, .slice c6.fa c6.fn c6.fc] 25)).alloc (.cells #[.int .i64 (0), .int .i64 (0)] 75))
              generalize (w5.alloc (.cells #[.int .i64 c6.k, .int .i64 c6.n, sV c6.s, .slice c6.la c6.ln c6.lc, .slice c6.fa c6.fn c6.fc] 25)).alloc (.cells #[.int .i64 (0), .int .i64 (0)] 75) = Y at *
              have t0 := HY.out.2.2.2.2.cell (i := 0) rfl
              have t1 := HY.out.2.2.2.2.cell (i := 1) rfl
              have s0 := HY.out.2.2.2.1.cell (i := 0) rfl
              have s1 := HY.out.2.2.2.1.cell (i := 1) rfl
              have s2 := HY.out.2.2.2.1.cell (i := 2) rfl
              have s3 := HY.out.2.2.2.1.cell (i := 3) rfl
              have s4 := HY.out.2.2.2.1.cell (i := 4) rfl
              have ne1 : ¬ w5.heap.size + 1 = w.heap.size := by omega
              have ne2 : ¬ w5.heap.size = w.heap.size := by omega
              have ne3 : ¬ w.heap.size = w5.heap.size + 1 := by omega
              have ne4 : ¬ w.heap.size = w5.heap.size := by omega
              have ne5 : ¬ w5.heap.size = w.heap.size + 1 := by omega
              have ne6 : ¬ w.heap.size + 1 = w5.heap.size := by omega
              have rr0 := HY.out.2.1.cell (i := 0) rfl
              have rr1 := HY.out.2.1.cell (i := 1) rfl
              have rr2 := HY.out.2.1.cell (i := 2) rfl
              have rr3 := HY.out.2.1.cell (i := 3) rfl
              have rr4 := HY.out.2.1.cell (i := 4) rfl
              have rr5 := HY.out.2.1.cell (i := 5) rfl
              have g0 := HY.out.2.1.frozen 0
              have g1 := HY.out.2.1.frozen 1
              have g2 := HY.out.2.1.frozen 2
              have g3 := HY.out.2.1.frozen 3
              have g4 := HY.out.2.1.frozen 4
              have g5 := HY.out.2.1.frozen 5
              have y0 := HY.out.2.2.1.cell (i := 0) rfl
              have y1 := HY.out.2.2.1.cell (i := 1) rfl
              have z0 := HY.out.2.2.1.frozen 0
              have z1 := HY.out.2.2.1.frozen 1
              have HF := Lib.hid (And.intro (fin_own8 HY.out.2.1 HY.out.2.2.1 (by omega) (sV nm) (.int .i64 c6.k) (.int .i64 c6.n) (sV c6.s) (.slice c6.la c6.ln c6.lc) (.slice c6.fa c6.fn c6.fc) (.int .i64 (0)) (.int .i64 (0))).1 (And.intro (fin_own8 HY.out.2.1 HY.out.2.2.1 (by omega) (sV nm) (.int .i64 c6.k) (.int .i64 c6.n) (sV c6.s) (.slice c6.la c6.ln c6.lc) (.slice c6.fa c6.fn c6.fc) (.int .i64 (0)) (.int .i64 (0))).2 (And.intro (below_put8 HY.out.1 (Nat.le_refl _) (Nat.le_succ _) (sV nm) (.int .i64 c6.k) (.int .i64 c6.n) (sV c6.s) (.slice c6.la c6.ln c6.lc) (.slice c6.fa c6.fn c6.fc) (.int .i64 (0)) (.int .i64 (0))) (HI7.out.put8 (show ¬ X.heap.size ≤ w.heap.size by omega) (show ¬ X.heap.size ≤ w.heap.size + 1 by omega) (sV nm) (.int .i64 c6.k) (.int .i64 c6.n) (sV c6.s) (.slice c6.la c6.ln c6.lc) (.slice c6.fa c6.fn c6.fc) (.int .i64 0) (.int .i64 0)))))
              go_region
              go_wp2
              clear t0 t1 s0 s1 s2 s3 s4
              clear rr0 rr1 rr2 rr3 rr4 rr5 g0 g1 g2 g3 g4 g5 y0 y1 z0 z1
              change bodyPost Tryz.prog Tryz.f142 _ _ _ (put8 Y w.heap.size (w.heap.size + 1) (sV nm) (.int .i64 c6.k) (.int .i64 c6.n) (sV c6.s) (.slice c6.la c6.ln c6.lc) (.slice c6.fa c6.fn c6.fc) (.int .i64 (0)) (.int .i64 (0))).drew
              generalize put8 Y w.heap.size (w.heap.size + 1) (sV nm) (.int .i64 c6.k) (.int .i64 c6.n) (sV c6.s) (.slice c6.la c6.ln c6.lc) (.slice c6.fa c6.fn c6.fc) (.int .i64 (0)) (.int .i64 (0)) = U at *
              obtain ⟨oS, o2S, hBU, hIU⟩ := HF.out
              replace oS := oS.drew
              replace o2S := o2S.drew
              replace hBU := hBU.drew
              have c0 := oS.cell (i := 0) rfl
              have c1 := oS.cell (i := 1) rfl
              have c2 := oS.cell (i := 2) rfl
              have c3 := oS.cell (i := 3) rfl
              have c4 := oS.cell (i := 4) rfl
              have c5 := oS.cell (i := 5) rfl
              have d0 := o2S.cell (i := 0) rfl
              have d1 := o2S.cell (i := 1) rfl
              exact bodyPost_ret (v := .tuple #[.agg #[sV nm, .int .i64 c6.k, .int .i64 c6.n, sV c6.s, .slice c6.la c6.ln c6.lc, .slice c6.fa c6.fn c6.fc], .int .i64 (j6), .int .i64 (n6), faultV (0) (0)]) (by simp [results, Tryz.results142, go_sem, c0, c1, c2, c3, c4, c5, d0, d1, VC.val, faultV]) rfl (QFr.mkOk (j := j6) HQ.out hBU HP6.out (IsA.all (hIU.mono (fun b (hb : X.heap.size ≤ b) => by omega)) (Below.refl _ U).drew) rfl)
end Go.Proofs.YtjpmnlefjmdelaaGreatDoor
namespace Go.Proofs.YtjpmnlefjmdelaaGreatDoor
open Go.RowKit Go.Sort Go.Proofs.LawFrame

def mpL : R (List (Str × T) × Nat × Str) → R (T × Nat × Str)
  | .er a b => .er a b
  | .ok (l, n, r) => .ok (.mk 5 0 [] [] (mapL l), n, r)
theorem mapR_members {pv : PV} {n : Nat} {r : Str} {c : UInt8} {q : Str} (hs : skp r = c :: q) (hc : ¬ c.toNat = 125) : mapR pv n r = mpL (membersR pv 64 [] n r) := by
  unfold mapR; rw [hs]; simp only; rw [if_neg hc]; cases membersR pv 64 [] n r <;> rfl
theorem mapR_nil {pv : PV} {n : Nat} {r : Str} (hs : skp r = []) : mapR pv n r = .er 0 3 := by unfold mapR; rw [hs]
theorem mapR_close {pv : PV} {n : Nat} {r : Str} {c : UInt8} {q : Str} (hs : skp r = c :: q) (hc : c.toNat = 125) : mapR pv n r = .ok (.mk 5 0 [] [] [], n, q) := by unfold mapR; rw [hs]; simp only; rw [if_pos hc]
theorem fieldR_skp (pv : PV) (m : Nat) (seen : List Str) (n : Nat) (r : Str) : fieldR pv m seen n (skp r) = fieldR pv m seen n r := by
  unfold fieldR; rw [skp_skp]
theorem membersR_skp (f m : Nat) (seen : List Str) (n : Nat) (r : Str) : membersR (valR f) m seen n r = membersR (valR f) m seen n (skp r) := by
  rw [membersR, membersR, fieldR_skp]

set_option maxHeartbeats 16000000 in
set_option maxRecDepth 4000 in
theorem rmembers_of {s : Str} (hl : s.length ≤ 20000) {f : Nat} {d : Int} (hd1 : 1 ≤ d) (hd2 : d ≤ 12) (HVr : RVr s (valR f) (d + 1)) : RMr s (valR f) d := by
  intro n r i w hn h
  obtain ⟨iE, hiE, hzE, hsE, hyE⟩ := info_parts info35
  have hbA := (below_alloc w (.cells #[.int .i64 0, .int .i64 0, .string ⟨#[]⟩, .slice none 0 0, .slice none 0 0] 25)).alloc (by rw [size_alloc]; omega) (.cells #[.int .i64 0, .int .i64 0] 75)
  have oA := (Own.new w [.int .i64 0, .int .i64 0, .string ⟨#[]⟩, .slice none 0 0, .slice none 0 0] 25).alloc (.cells #[.int .i64 0, .int .i64 0] 75)
  have oB : Own ((w.alloc (.cells #[.int .i64 0, .int .i64 0, .string ⟨#[]⟩, .slice none 0 0, .slice none 0 0] 25)).alloc (.cells #[.int .i64 0, .int .i64 0] 75)) (w.heap.size + 1) [.int .i64 0, .int .i64 0] 75 := Own.new_at (by rw [size_alloc]) _ _
  have HV := Lib.hid (And.intro hbA (And.intro oA oB))
  clear hbA oA oB
  have CK := fun w => Lib.hid (rskip_any hl h w)
  go_enter Tryz.func97, Tryz.ntmps97
  go_upto_region 2 with (fail)
  change Code.wp Tryz.prog _ _ _ ((w.alloc (.cells #[.int .i64 0, .int .i64 0, .string ⟨#[]⟩, .slice none 0 0, .slice none 0 0] 25)).alloc (.cells #[.int .i64 0, .int .i64 0] 75))
  generalize (w.alloc (.cells #[.int .i64 0, .int .i64 0, .string ⟨#[]⟩, .slice none 0 0, .slice none 0 0] 25)).alloc (.cells #[.int .i64 0, .int .i64 0] 75) = V at *
  have C := CK V
  clear CK
  go_wp2_with fail
  refine C.out.mono ?_
  rintro e w1 ⟨j, rfl, hp, rfl⟩
  clear C
  obtain ⟨q, hq⟩ : ∃ q, skp r = q := ⟨_, rfl⟩
  rw [hq] at hp
  have HQS := Lib.hid hq
  have HSQ : Hid (skp q = q) := Lib.hid (by rw [← hq, skp_skp])
  have HP := Lib.hid hp
  clear hq
  have hVs := HV.out.2.2.lt
  have key : (∃ c q2, q = c :: q2 ∧ c.toNat = 125) ∨ ((∀ c q2, q = c :: q2 → ¬ c.toNat = 125)) := by
    cases q with
    | nil => exact Or.inr (fun c q2 h => by cases h)
    | cons c q2 =>
      by_cases h93 : c.toNat = 125
      · exact Or.inl ⟨c, q2, rfl, h93⟩
      · exact Or.inr (fun c' q2' h => by cases h; exact h93)
  rcases key with ⟨c, q2, rfl, h93⟩ | hno
  · obtain ⟨hlt, hc, hd', hlen⟩ := drop_byte hp.dr
    have hm : ((⟨s.toArray⟩ : ByteArray)[j]'hlt).toNat = c.toNat := by rw [← hc]; rfl
    have e93 : (c.toNat : Int) = 125 := by omega
    have HR : Hid (mapR (valR f) n r = .ok (.mk 5 0 [] [] [], n, q2)) := Lib.hid (mapR_close HQS.out h93)
    have HN := Lib.hid (hp.next)
    clear hc hd' hlen hp h93
    have r0 := HV.out.2.1.cell (i := 0) rfl
    have r1 := HV.out.2.1.cell (i := 1) rfl
    have r2 := HV.out.2.1.cell (i := 2) rfl
    have r3 := HV.out.2.1.cell (i := 3) rfl
    have r4 := HV.out.2.1.cell (i := 4) rfl
    have g0 := HV.out.2.1.frozen 0
    have g1 := HV.out.2.1.frozen 1
    have g2 := HV.out.2.1.frozen 2
    have g3 := HV.out.2.1.frozen 3
    have g4 := HV.out.2.1.frozen 4
    have y0 := HV.out.2.2.cell (i := 0) rfl
    have y1 := HV.out.2.2.cell (i := 1) rfl
    have z0 := HV.out.2.2.frozen 0
    have z1 := HV.out.2.2.frozen 1
    have HF := Lib.hid (And.intro (fin_own HV.out.2.1 HV.out.2.2 (by omega) (.int .i64 5) (.int .i64 0) (.string ⟨#[]⟩) (.slice none 0 0) (.slice none 0 0) (.int .i64 (0)) (.int .i64 (0))).1 (And.intro (fin_own HV.out.2.1 HV.out.2.2 (by omega) (.int .i64 5) (.int .i64 0) (.string ⟨#[]⟩) (.slice none 0 0) (.slice none 0 0) (.int .i64 (0)) (.int .i64 (0))).2 (And.intro (below_put7 HV.out.1 (Nat.le_refl _) (Nat.le_succ _) (.int .i64 5) (.int .i64 0) (.string ⟨#[]⟩) (.slice none 0 0) (.slice none 0 0) (.int .i64 (0)) (.int .i64 (0))) (trivial))))
    go_wp2
    clear r0 r1 r2 r3 r4 g0 g1 g2 g3 g4 y0 y1 z0 z1
    change bodyPost Tryz.prog Tryz.f97 _ _ _ (put7 V w.heap.size (w.heap.size + 1) (.int .i64 5) (.int .i64 0) (.string ⟨#[]⟩) (.slice none 0 0) (.slice none 0 0) (.int .i64 (0)) (.int .i64 (0)))
    generalize put7 V w.heap.size (w.heap.size + 1) (.int .i64 5) (.int .i64 0) (.string ⟨#[]⟩) (.slice none 0 0) (.slice none 0 0) (.int .i64 (0)) (.int .i64 (0)) = U at *
    obtain ⟨oS, o2S, hBU, hIU⟩ := HF.out
    have c0 := oS.cell (i := 0) rfl
    have c1 := oS.cell (i := 1) rfl
    have c2 := oS.cell (i := 2) rfl
    have c3 := oS.cell (i := 3) rfl
    have c4 := oS.cell (i := 4) rfl
    have d0 := o2S.cell (i := 0) rfl
    have d1 := o2S.cell (i := 1) rfl
    exact bodyPost_ret (v := .tuple #[.agg #[.int .i64 5, .int .i64 0, .string ⟨#[]⟩, .slice none 0 0, .slice none 0 0], .int .i64 ((j + 1 : Nat)), .int .i64 (n), faultV (0) (0)]) (by simp [results, Tryz.results97, go_sem, c0, c1, c2, c3, c4, d0, d1, VC.val, VC0, faultV]) rfl (QVr.mkOk (c := ⟨5, 0, [], none, 0, 0, none, 0, 0⟩) (j := j + 1) HR.out hBU HN.out (isA_leaf _ _ _ _ _) rfl)
  · have hgo : ¬ (j : Int) < (s.length : Int) ∨ ∃ c q2, q = c :: q2 ∧ ¬ c.toNat = 125 := by
      cases q with
      | nil => exact Or.inl (by have := hp.fin; omega)
      | cons c q2 => exact Or.inr ⟨c, q2, rfl, hno c q2 rfl⟩
    have HLR : Hid (mapR (valR f) n r = mpL (membersR (valR f) 64 [] n r)) := Lib.hid (by
      cases q with
      | nil => rw [mapR_nil HQS.out, membersR]; unfold fieldR; rw [HQS.out]; rfl
      | cons c q2 => exact mapR_members HQS.out (hno c q2 rfl))
    clear hno
    rcases hgo with hgo | ⟨c, q2, hqc, h93⟩
    · clear hp h
      go_wp2
      go_loopg [3, 12, 13] 65 (fun g v3 v12 v13 wr => ∃ (m : Nat) (cs : List FC) (l : List (Str × T)) (n' : Nat) (r' : Str) (j' : Nat), g = m + 1 ∧ cs.length + m = 64 ∧ n' ≤ 600 ∧ v3 = .int .i64 n' ∧ v13 = .int .i64 j' ∧ j' ≤ s.length ∧ s.drop j' = r' ∧ Below w.heap.size w wr ∧ Own wr w.heap.size [.int .i64 0, .int .i64 0, .string ⟨#[]⟩, .slice none 0 0, .slice none 0 0] 25 ∧ Own wr (w.heap.size + 1) [.int .i64 0, .int .i64 0] 75 ∧ wr.ownsRow (w.heap.size + 1 + 1) 58 6 v12 cs.length (cs.flatMap FC.cells) ∧ AccF (w.heap.size + 1 + 1) v12 wr cs l ∧ Hid (skp r' = r' ∧ (∀ p ∈ l, p.2.size ≤ 600) ∧ membersR (valR f) 64 [] n r = prepL l (membersR (valR f) m (cs.map (·.x)) n' r')))
      case atStart => exact ⟨64, [], [], n, _, j, rfl, by simp, hn, rfl, rfl, HP.out.le, HP.out.dr, HV.out.1, HV.out.2.1, HV.out.2.2, own_nil _ _ _ _, AccF.nil _ _ _, Lib.hid ⟨HSQ.out, by simp, by rw [prepL_nil, ← HQS.out]; exact membersR_skp f 64 [] n r⟩⟩
      case round =>
        obtain ⟨m, cs, l, n', r', j', hg, hm, hn', rfl, rfl, hj, hd, hb, oA, oB, hown, hA, HE0⟩ := hrel
        have HE : Hid (membersR (valR f) 64 [] n r = prepL l (membersR (valR f) m (cs.map (·.x)) n' r')) := Lib.hid HE0.out.2.2
        have HSZ0 := Lib.hid HE0.out.2.1
        have HG := Lib.hid hg
        have HAL := Lib.hid hA.len
        have C := Lib.hid (rfield_of hl hd1 hd2 HVr n' r' j' wr hn' ⟨hj, hd⟩ HE0.out.1 m _ cs hm (Flat.of_own hown))
        clear hg HE0 HV HP HQS HSQ hd
        obtain ⟨ao, cap, hu, -, -, -⟩ := (Flat.of_own hown).out
        subst hu
        generalize hN : cs.length = M at *
        have HN := Lib.hid hN
        have hM64 : M ≤ 64 := by omega
        have HM := Lib.hid hm
        have hwr := oB.lt
        have HS := Lib.hid (And.intro hb (And.intro oA (And.intro oB (And.intro hown hA))))
        clear hN hm hb oA oB hown hA
        go_wp2_with fail
        refine C.out.mono ?_
        rintro e w5 hq
        clear C
        have hs5 := hq.below.size
        cases hR : fieldR (valR f) m (cs.map (·.x)) n' r' with
        | er k b =>
          obtain ⟨g6, j6, m6, rfl⟩ := hq.er k b hR
          have HNZ : ¬ b = 0 := by have := nz_fieldR (nz_valR f) m (cs.map (·.x)) n' r'; rw [hR] at this; exact this
          have HQ : Hid (mapR (valR f) n r = .er k b) := Lib.hid (by rw [HLR.out, HE.out, membersR, hR]; rfl)
          have hX2 : Below w5.heap.size w5 ((w5.alloc (.cells #[sV g6.x, .int .i64 g6.v.k, .int .i64 g6.v.n, sV g6.v.s, .slice g6.v.la g6.v.ln g6.v.lc, .slice g6.v.fa g6.v.fn g6.v.fc] 58)).alloc (.cells #[.int .i64 ((s.length - k : Nat) : Int), .int .i64 b] 75)) := (below_alloc w5 _).alloc (by rw [size_alloc]; omega) _
          have oTX : Own ((w5.alloc (.cells #[sV g6.x, .int .i64 g6.v.k, .int .i64 g6.v.n, sV g6.v.s, .slice g6.v.la g6.v.ln g6.v.lc, .slice g6.v.fa g6.v.fn g6.v.fc] 58)).alloc (.cells #[.int .i64 ((s.length - k : Nat) : Int), .int .i64 b] 75)) (w5.heap.size + 1) [.int .i64 ((s.length - k : Nat) : Int), .int .i64 b] 75 := Own.new_at (by rw [size_alloc]) _ _
          have HX := Lib.hid (And.intro (below_all (below_all HS.out.1 hq.below) hX2) (And.intro ((HS.out.2.1.all hq.below).all hX2) (And.intro ((HS.out.2.2.1.all hq.below).all hX2) oTX)))
          have hneb : (b != 0) = true := by rw [bne_iff_ne]; exact HNZ
          clear hR hq hX2 oTX HS
          go_upto_region 6 with (fail)
          change Code.wp Tryz.prog _ _ _ ((w5.alloc (.cells #[sV g6.x, .int .i64 g6.v.k, .int .i64 g6.v.n, sV g6.v.s, .slice g6.v.la g6.v.ln g6.v.lc, .slice g6.v.fa g6.v.fn g6.v.fc] 58)).alloc (.cells #[.int .i64 ((s.length - k : Nat) : Int), .int .i64 b] 75))
          generalize (w5.alloc (.cells #[sV g6.x, .int .i64 g6.v.k, .int .i64 g6.v.n, sV g6.v.s, .slice g6.v.la g6.v.ln g6.v.lc, .slice g6.v.fa g6.v.fn g6.v.fc] 58)).alloc (.cells #[.int .i64 ((s.length - k : Nat) : Int), .int .i64 b] 75) = X at *
          have t0 := HX.out.2.2.2.cell (i := 0) rfl
          have t1 := HX.out.2.2.2.cell (i := 1) rfl
          have ne1 : ¬ w5.heap.size + 1 = w.heap.size := by omega
          have ne2 : ¬ w5.heap.size + 1 = w.heap.size + 1 := by omega
          have ne3 : ¬ w.heap.size = w5.heap.size + 1 := by omega
          have ne4 : ¬ w5.heap.size = w.heap.size := by omega
          have ne5 : ¬ w.heap.size = w5.heap.size := by omega
          have r0 := HX.out.2.1.cell (i := 0) rfl
          have r1 := HX.out.2.1.cell (i := 1) rfl
          have r2 := HX.out.2.1.cell (i := 2) rfl
          have r3 := HX.out.2.1.cell (i := 3) rfl
          have r4 := HX.out.2.1.cell (i := 4) rfl
          have g0 := HX.out.2.1.frozen 0
          have g1 := HX.out.2.1.frozen 1
          have g2 := HX.out.2.1.frozen 2
          have g3 := HX.out.2.1.frozen 3
          have g4 := HX.out.2.1.frozen 4
          have y0 := HX.out.2.2.1.cell (i := 0) rfl
          have y1 := HX.out.2.2.1.cell (i := 1) rfl
          have z0 := HX.out.2.2.1.frozen 0
          have z1 := HX.out.2.2.1.frozen 1
          have HF := Lib.hid (And.intro (fin_own HX.out.2.1 HX.out.2.2.1 (by omega) (.int .i64 0) (.int .i64 0) (.string ⟨#[]⟩) (.slice none 0 0) (.slice none 0 0) (.int .i64 ((s.length - k : Nat))) (.int .i64 (b))).1 (And.intro (fin_own HX.out.2.1 HX.out.2.2.1 (by omega) (.int .i64 0) (.int .i64 0) (.string ⟨#[]⟩) (.slice none 0 0) (.slice none 0 0) (.int .i64 ((s.length - k : Nat))) (.int .i64 (b))).2 (And.intro (below_put7 HX.out.1 (Nat.le_refl _) (Nat.le_succ _) (.int .i64 0) (.int .i64 0) (.string ⟨#[]⟩) (.slice none 0 0) (.slice none 0 0) (.int .i64 ((s.length - k : Nat))) (.int .i64 (b))) (trivial))))
          go_upto_region 7 with (fail)
          go_region
          go_wp2
          clear t0 t1
          clear r0 r1 r2 r3 r4 g0 g1 g2 g3 g4 y0 y1 z0 z1
          change bodyPost Tryz.prog Tryz.f97 _ _ _ (put7 X w.heap.size (w.heap.size + 1) (.int .i64 0) (.int .i64 0) (.string ⟨#[]⟩) (.slice none 0 0) (.slice none 0 0) (.int .i64 ((s.length - k : Nat))) (.int .i64 (b))).drew
          generalize put7 X w.heap.size (w.heap.size + 1) (.int .i64 0) (.int .i64 0) (.string ⟨#[]⟩) (.slice none 0 0) (.slice none 0 0) (.int .i64 ((s.length - k : Nat))) (.int .i64 (b)) = U at *
          obtain ⟨oS, o2S, hBU, hIU⟩ := HF.out
          replace oS := oS.drew
          replace o2S := o2S.drew
          replace hBU := hBU.drew
          have c0 := oS.cell (i := 0) rfl
          have c1 := oS.cell (i := 1) rfl
          have c2 := oS.cell (i := 2) rfl
          have c3 := oS.cell (i := 3) rfl
          have c4 := oS.cell (i := 4) rfl
          have d0 := o2S.cell (i := 0) rfl
          have d1 := o2S.cell (i := 1) rfl
          exact bodyPost_ret (v := .tuple #[VC0.val, .int .i64 (0), .int .i64 (0), faultV ((s.length - k : Nat)) (b)]) (by simp [results, Tryz.results97, go_sem, c0, c1, c2, c3, c4, d0, d1, VC.val, VC0, faultV]) rfl (QVr.mkEr VC0 (k := k) (b := b) (j := 0) (m := 0) HQ.out hBU rfl)
        | ok p =>
          obtain ⟨⟨nm, t⟩, n2, r2⟩ := p
          obtain ⟨c6, j6, hp6, hI6, rfl⟩ := hq.ok nm t n2 r2 hR
          obtain ⟨hm0, hn2, hsz⟩ := fieldR_size (valR_ok f) hn' hR
          have HSZ : Hid (∀ q ∈ l ++ [(nm, t)], q.2.size ≤ 600) := Lib.hid (fun q hq => by
            rcases List.mem_append.1 hq with h | h
            · exact HSZ0.out q h
            · obtain rfl := List.mem_singleton.1 h; simp only at hsz ⊢; omega)
          have HR := Lib.hid hR
          have hb5 := below_all HS.out.1 hq.below
          have hown5 := row_but HS.out.2.2.2.1 (But.allow (b := 0) hq.below) (by omega)
          have hrlt : ∀ k, (Value.slice ao M cap).ownBlock = some k → k < wr.heap.size := fun k h => (HS.out.2.2.2.1.lt k h).2
          have hrl := own_row hown5
          have hAN := (HS.out.2.2.2.2.below hq.below).snoc (c := ⟨nm, c6⟩) (t := (nm, t)) ⟨rfl, hI6.mono (fun b hb => ⟨by have : wr.heap.size ≤ b := hb; omega, fun e => by have := hrlt b e; have : wr.heap.size ≤ b := hb; omega⟩)⟩
          have hX2 : Below w5.heap.size w5 ((w5.alloc (.cells #[sV nm, .int .i64 c6.k, .int .i64 c6.n, sV c6.s, .slice c6.la c6.ln c6.lc, .slice c6.fa c6.fn c6.fc] 58)).alloc (.cells #[.int .i64 0, .int .i64 0] 75)) := (below_alloc w5 _).alloc (by rw [size_alloc]; omega) _
          have oSX : Own ((w5.alloc (.cells #[sV nm, .int .i64 c6.k, .int .i64 c6.n, sV c6.s, .slice c6.la c6.ln c6.lc, .slice c6.fa c6.fn c6.fc] 58)).alloc (.cells #[.int .i64 0, .int .i64 0] 75)) w5.heap.size [sV nm, .int .i64 c6.k, .int .i64 c6.n, sV c6.s, .slice c6.la c6.ln c6.lc, .slice c6.fa c6.fn c6.fc] 58 := (Own.new w5 _ _).alloc _
          have oTX : Own ((w5.alloc (.cells #[sV nm, .int .i64 c6.k, .int .i64 c6.n, sV c6.s, .slice c6.la c6.ln c6.lc, .slice c6.fa c6.fn c6.fc] 58)).alloc (.cells #[.int .i64 0, .int .i64 0] 75)) (w5.heap.size + 1) [.int .i64 0, .int .i64 0] 75 := Own.new_at (by rw [size_alloc]) _ _
          have HX := Lib.hid (And.intro (below_all hb5 hX2) (And.intro ((HS.out.2.1.all hq.below).all hX2) (And.intro ((HS.out.2.2.1.all hq.below).all hX2) (And.intro (hAN.below hX2) (And.intro oSX (And.intro oTX (row_but hown5 (But.allow (b := 0) hX2) (by omega))))))))
          have HP6 := Lib.hid hp6
          clear hR hq hb5 hown5 hAN hX2 oSX oTX HS hI6 hp6 HSZ0 hsz
          go_upto_region 6 with (fail)
          change Code.wp Tryz.prog _ _ _ ((w5.alloc (.cells #[sV nm, .int .i64 c6.k, .int .i64 c6.n, sV c6.s, .slice c6.la c6.ln c6.lc, .slice c6.fa c6.fn c6.fc] 58)).alloc (.cells #[.int .i64 0, .int .i64 0] 75))
          generalize (w5.alloc (.cells #[sV nm, .int .i64 c6.k, .int .i64 c6.n, sV c6.s, .slice c6.la c6.ln c6.lc, .slice c6.fa c6.fn c6.fc] 58)).alloc (.cells #[.int .i64 0, .int .i64 0] 75) = X at *
          have t1 := HX.out.2.2.2.2.2.1.cell (i := 1) rfl
          have s0 := HX.out.2.2.2.2.1.cell (i := 0) rfl
          have s1 := HX.out.2.2.2.2.1.cell (i := 1) rfl
          have s2 := HX.out.2.2.2.2.1.cell (i := 2) rfl
          have s3 := HX.out.2.2.2.2.1.cell (i := 3) rfl
          have s4 := HX.out.2.2.2.2.1.cell (i := 4) rfl
          have s5 := HX.out.2.2.2.2.1.cell (i := 5) rfl
          have hownX := HX.out.2.2.2.2.2.2
          have hXs := HX.out.2.2.1.lt
          go_upto_region 9 with (fail)
          go_upto_region 10 with (first | (at_builtin; refine wpList_append_lies _ rfl (.tmp 53) (.tmp 55) 23 rfl (w.heap.size + 1 + 1) 58 iE (.agg #[.string ⟨#[]⟩, .int .i64 0, .int .i64 0, .string ⟨#[]⟩, .slice none 0 0, .slice none 0 0]) 6 96 Tryz.underlying23 hiE hzE hsE hyE rfl (by decide) _ _ _ rfl (hownX.alloc _) ⟨X.heap.size, 0, none⟩ 1 1 (FC.cells ⟨nm, c6⟩) rfl rfl (own_src (Own.new _ _ _)) (six_one' ⟨nm, c6⟩) (by decide) (by unfold maxLen; omega) (by omega) (by rw [size_alloc]; omega) _ rfl ?_; intro gg gcap w7 hown7 hgrow7 hlies hglt) | fail)
          have hXA := below_alloc X (.cells #[sV nm, .int .i64 c6.k, .int .i64 c6.n, sV c6.s, .slice c6.la c6.ln c6.lc, .slice c6.fa c6.fn c6.fc] 58)
          have HS8 := Lib.hid (And.intro (below_grw (below_all HX.out.1 hXA) hgrow7 (fun k h => by have := hrl k h; omega)) (And.intro (own_kept' (HX.out.2.1.all hXA) hgrow7 (fun e => by have := hrl _ e; omega)) (And.intro (own_kept' (HX.out.2.2.1.all hXA) hgrow7 (fun e => by have := hrl _ e; omega)) (And.intro hown7 ((HX.out.2.2.2.1.below hXA).grow (n := M + 1) (cap := gcap) hgrow7 (by rcases hlies with h | h; exact Or.inl h; exact Or.inr h))))))
          clear hown7 hgrow7 hlies hglt hXA t1 s0 s1 s2 s3 s4 s5 hownX HX
          have CK := Lib.hid (rskip_any hl HP6.out w7)
          go_wp2_with fail
          refine CK.out.mono ?_
          rintro e w8 ⟨j8, rfl, hp8, rfl⟩
          clear CK
          obtain ⟨q8, hq8⟩ : ∃ q8, skp r2 = q8 := ⟨_, rfl⟩
          rw [hq8] at hp8
          have HSK := Lib.hid hq8
          clear hq8
          cases q8 with
          | nil =>
            obtain rfl := hp8.fin
            have HQ : Hid (mapR (valR f) n r = .er 0 3) := Lib.hid (by rw [HLR.out, HE.out, membersR, HR.out]; simp only [HSK.out]; rfl)
            clear hp8
            have r0 := HS8.out.2.1.cell (i := 0) rfl
            have r1 := HS8.out.2.1.cell (i := 1) rfl
            have r2 := HS8.out.2.1.cell (i := 2) rfl
            have r3 := HS8.out.2.1.cell (i := 3) rfl
            have r4 := HS8.out.2.1.cell (i := 4) rfl
            have g0 := HS8.out.2.1.frozen 0
            have g1 := HS8.out.2.1.frozen 1
            have g2 := HS8.out.2.1.frozen 2
            have g3 := HS8.out.2.1.frozen 3
            have g4 := HS8.out.2.1.frozen 4
            have y0 := HS8.out.2.2.1.cell (i := 0) rfl
            have y1 := HS8.out.2.2.1.cell (i := 1) rfl
            have z0 := HS8.out.2.2.1.frozen 0
            have z1 := HS8.out.2.2.1.frozen 1
            have HF := Lib.hid (And.intro (fin_own HS8.out.2.1 HS8.out.2.2.1 (by omega) (.int .i64 0) (.int .i64 0) (.string ⟨#[]⟩) (.slice none 0 0) (.slice none 0 0) (.int .i64 (s.length)) (.int .i64 (3))).1 (And.intro (fin_own HS8.out.2.1 HS8.out.2.2.1 (by omega) (.int .i64 0) (.int .i64 0) (.string ⟨#[]⟩) (.slice none 0 0) (.slice none 0 0) (.int .i64 (s.length)) (.int .i64 (3))).2 (And.intro (below_put7 HS8.out.1 (Nat.le_refl _) (Nat.le_succ _) (.int .i64 0) (.int .i64 0) (.string ⟨#[]⟩) (.slice none 0 0) (.slice none 0 0) (.int .i64 (s.length)) (.int .i64 (3))) (trivial))))
            go_wp2
            clear r0 r1 r2 r3 r4 g0 g1 g2 g3 g4 y0 y1 z0 z1
            change bodyPost Tryz.prog Tryz.f97 _ _ _ (put7 w7 w.heap.size (w.heap.size + 1) (.int .i64 0) (.int .i64 0) (.string ⟨#[]⟩) (.slice none 0 0) (.slice none 0 0) (.int .i64 (s.length)) (.int .i64 (3)))
            generalize put7 w7 w.heap.size (w.heap.size + 1) (.int .i64 0) (.int .i64 0) (.string ⟨#[]⟩) (.slice none 0 0) (.slice none 0 0) (.int .i64 (s.length)) (.int .i64 (3)) = U at *
            obtain ⟨oS, o2S, hBU, hIU⟩ := HF.out
            have c0 := oS.cell (i := 0) rfl
            have c1 := oS.cell (i := 1) rfl
            have c2 := oS.cell (i := 2) rfl
            have c3 := oS.cell (i := 3) rfl
            have c4 := oS.cell (i := 4) rfl
            have d0 := o2S.cell (i := 0) rfl
            have d1 := o2S.cell (i := 1) rfl
            exact bodyPost_ret (v := .tuple #[VC0.val, .int .i64 (0), .int .i64 (0), faultV (s.length) (3)]) (by simp [results, Tryz.results97, go_sem, c0, c1, c2, c3, c4, d0, d1, VC.val, VC0, faultV]) rfl (QVr.mkEr VC0 (k := 0) (b := 3) (j := 0) (m := 0) HQ.out hBU (by rw [Nat.sub_zero]))
          | cons dd r3 =>
            obtain ⟨hlt8, hc8, hd8, hlen8⟩ := drop_byte hp8.dr
            have hm8 : ((⟨s.toArray⟩ : ByteArray)[j8]'hlt8).toNat = dd.toNat := by rw [← hc8]; rfl
            have HLEN8 := Lib.hid hlen8
            have HP8 := Lib.hid hp8
            clear hc8 hd8 hlen8 hp8
            by_cases h93 : dd.toNat = 125
            · have e93 : (dd.toNat : Int) = 125 := by omega
              have HQ : Hid (mapR (valR f) n r = .ok (.mk 5 0 [] [] (mapL (l ++ [(nm, t)])), n2, r3)) := Lib.hid (by rw [HLR.out, HE.out, membersR, HR.out]; simp only [HSK.out, h93, if_true, prepL, mpL])
              have HAL2 : Hid (cs.length = l.length) := Lib.hid (by rw [HN.out]; exact HAL.out)
              have C := Lib.hid (rmap_any (.slice (some ⟨gg, 0, none⟩) (M + 1) gcap) (l ++ [(nm, t)]) w7 ⟨cs ++ [⟨nm, c6⟩], by rw [List.length_append, List.length_append, HAL2.out]; rfl, by rw [List.length_append, ← HAL2.out]; exact Flat.of_own (by rw [snocF]; rw [HN.out]; exact HS8.out.2.2.2.1), fun i c t hc ht => (HS8.out.2.2.2.2.all i c t hc ht).1, fun i c t hc ht => (HS8.out.2.2.2.2.all i c t hc ht).2.is⟩ (by rw [List.length_append, ← HAL2.out, HN.out]; simp; omega) (fun q hq => by have := HSZ.out q hq; omega))
              have hw7 := HS8.out.2.2.1.lt
              clear h93
              go_wp2_with fail
              refine C.out.mono ?_
              rintro e w9 ⟨c9, Mp, rfl, hb9, hI9, hMp⟩
              obtain rfl : Mp = mapL (l ++ [(nm, t)]) := hMp.unique (mapL_of _)
              have HI := Lib.hid hI9
              have HS9 := Lib.hid (And.intro (below_all HS8.out.1 hb9) (And.intro (HS8.out.2.1.all hb9) (HS8.out.2.2.1.all hb9)))
              clear C hb9 hI9 hMp HS8
              have r0 := HS9.out.2.1.cell (i := 0) rfl
              have r1 := HS9.out.2.1.cell (i := 1) rfl
              have r2 := HS9.out.2.1.cell (i := 2) rfl
              have r3 := HS9.out.2.1.cell (i := 3) rfl
              have r4 := HS9.out.2.1.cell (i := 4) rfl
              have g0 := HS9.out.2.1.frozen 0
              have g1 := HS9.out.2.1.frozen 1
              have g2 := HS9.out.2.1.frozen 2
              have g3 := HS9.out.2.1.frozen 3
              have g4 := HS9.out.2.1.frozen 4
              have y0 := HS9.out.2.2.cell (i := 0) rfl
              have y1 := HS9.out.2.2.cell (i := 1) rfl
              have z0 := HS9.out.2.2.frozen 0
              have z1 := HS9.out.2.2.frozen 1
              have HF := Lib.hid (And.intro (fin_own HS9.out.2.1 HS9.out.2.2 (by omega) (.int .i64 c9.k) (.int .i64 c9.n) (sV c9.s) (.slice c9.la c9.ln c9.lc) (.slice c9.fa c9.fn c9.fc) (.int .i64 (0)) (.int .i64 (0))).1 (And.intro (fin_own HS9.out.2.1 HS9.out.2.2 (by omega) (.int .i64 c9.k) (.int .i64 c9.n) (sV c9.s) (.slice c9.la c9.ln c9.lc) (.slice c9.fa c9.fn c9.fc) (.int .i64 (0)) (.int .i64 (0))).2 (And.intro (below_put7 HS9.out.1 (Nat.le_refl _) (Nat.le_succ _) (.int .i64 c9.k) (.int .i64 c9.n) (sV c9.s) (.slice c9.la c9.ln c9.lc) (.slice c9.fa c9.fn c9.fc) (.int .i64 (0)) (.int .i64 (0))) (HI.out.put7 (show ¬ w7.heap.size ≤ w.heap.size by omega) (show ¬ w7.heap.size ≤ w.heap.size + 1 by omega) (.int .i64 c9.k) (.int .i64 c9.n) (sV c9.s) (.slice c9.la c9.ln c9.lc) (.slice c9.fa c9.fn c9.fc) (.int .i64 0) (.int .i64 0)))))
              go_wp2
              clear r0 r1 r2 r3 r4 g0 g1 g2 g3 g4 y0 y1 z0 z1
              change bodyPost Tryz.prog Tryz.f97 _ _ _ (put7 w9 w.heap.size (w.heap.size + 1) (.int .i64 c9.k) (.int .i64 c9.n) (sV c9.s) (.slice c9.la c9.ln c9.lc) (.slice c9.fa c9.fn c9.fc) (.int .i64 (0)) (.int .i64 (0)))
              generalize put7 w9 w.heap.size (w.heap.size + 1) (.int .i64 c9.k) (.int .i64 c9.n) (sV c9.s) (.slice c9.la c9.ln c9.lc) (.slice c9.fa c9.fn c9.fc) (.int .i64 (0)) (.int .i64 (0)) = U at *
              obtain ⟨oS, o2S, hBU, hIU⟩ := HF.out
              have c0 := oS.cell (i := 0) rfl
              have c1 := oS.cell (i := 1) rfl
              have c2 := oS.cell (i := 2) rfl
              have c3 := oS.cell (i := 3) rfl
              have c4 := oS.cell (i := 4) rfl
              have d0 := o2S.cell (i := 0) rfl
              have d1 := o2S.cell (i := 1) rfl
              exact bodyPost_ret (v := .tuple #[c9.val, .int .i64 ((j8 + 1 : Nat)), .int .i64 (n2), faultV (0) (0)]) (by simp [results, Tryz.results97, go_sem, c0, c1, c2, c3, c4, d0, d1, VC.val, VC0, faultV]) rfl (QVr.mkOk (c := c9) (j := j8 + 1) HQ.out hBU HP8.out.next (hIU.mono (fun b (hb : w7.heap.size ≤ b) => by omega)) rfl)
            · have e93 : ¬ (dd.toNat : Int) = 125 := by omega
              have b93 : ((dd.toNat : Int) == 125) = false := by rw [beq_eq_false_iff_ne]; exact e93
              by_cases h44 : dd.toNat = 44
              · have e44 : (dd.toNat : Int) = 44 := by omega
                have H44 := Lib.hid h44
                obtain ⟨j9, hj9⟩ : ∃ j9 : Nat, j9 = j8 + 1 := ⟨_, rfl⟩
                have hjI : (j8 : Int) + 1 = (j9 : Int) := by omega
                have HP9 := Lib.hid (show Ps s j9 r3 from hj9 ▸ HP8.out.next)
                clear h93 h44 hj9
                have CK := Lib.hid (rskip_any hl HP9.out w7)
                go_wp2_with fail
                refine CK.out.mono ?_
                rintro e w9 ⟨j7, rfl, hp7, rfl⟩
                clear CK
                cases m with
                | zero => exact absurd rfl hm0
                | succ m =>
                  go_wp2
                  go_roundg (m + 1)
                  case measure => have := HG.out; omega
                  case rel => exact ⟨m, cs ++ [⟨nm, c6⟩], l ++ [(nm, t)], n2, skp r3, j7, rfl, by rw [List.length_append, HN.out]; have := HM.out; simp; omega, hn2, rfl, rfl, hp7.le, hp7.dr, HS8.out.1, HS8.out.2.1, HS8.out.2.2.1, by rw [snocF, List.length_append, HN.out]; exact HS8.out.2.2.2.1, HS8.out.2.2.2.2, Lib.hid ⟨skp_skp _, HSZ.out, by rw [HE.out, membersR_next HR.out HSK.out H44.out l, membersR_skp, List.map_append]; rfl⟩⟩
              · have e44 : ¬ (dd.toNat : Int) = 44 := by omega
                have n44 : ((dd.toNat : Int) != 44) = true := by rw [bne_iff_ne]; exact e44
                have HQ : Hid (mapR (valR f) n r = .er (r3.length + 1) 2) := Lib.hid (by rw [HLR.out, HE.out, membersR, HR.out]; simp only [HSK.out, h93, h44, if_false]; rfl)
                clear h93 h44
                have r0 := HS8.out.2.1.cell (i := 0) rfl
                have r1 := HS8.out.2.1.cell (i := 1) rfl
                have r2 := HS8.out.2.1.cell (i := 2) rfl
                have r3 := HS8.out.2.1.cell (i := 3) rfl
                have r4 := HS8.out.2.1.cell (i := 4) rfl
                have g0 := HS8.out.2.1.frozen 0
                have g1 := HS8.out.2.1.frozen 1
                have g2 := HS8.out.2.1.frozen 2
                have g3 := HS8.out.2.1.frozen 3
                have g4 := HS8.out.2.1.frozen 4
                have y0 := HS8.out.2.2.1.cell (i := 0) rfl
                have y1 := HS8.out.2.2.1.cell (i := 1) rfl
                have z0 := HS8.out.2.2.1.frozen 0
                have z1 := HS8.out.2.2.1.frozen 1
                have HF := Lib.hid (And.intro (fin_own HS8.out.2.1 HS8.out.2.2.1 (by omega) (.int .i64 0) (.int .i64 0) (.string ⟨#[]⟩) (.slice none 0 0) (.slice none 0 0) (.int .i64 (j8)) (.int .i64 (2))).1 (And.intro (fin_own HS8.out.2.1 HS8.out.2.2.1 (by omega) (.int .i64 0) (.int .i64 0) (.string ⟨#[]⟩) (.slice none 0 0) (.slice none 0 0) (.int .i64 (j8)) (.int .i64 (2))).2 (And.intro (below_put7 HS8.out.1 (Nat.le_refl _) (Nat.le_succ _) (.int .i64 0) (.int .i64 0) (.string ⟨#[]⟩) (.slice none 0 0) (.slice none 0 0) (.int .i64 (j8)) (.int .i64 (2))) (trivial))))
                go_wp2
                clear r0 r1 r2 r3 r4 g0 g1 g2 g3 g4 y0 y1 z0 z1
                change bodyPost Tryz.prog Tryz.f97 _ _ _ (put7 w7 w.heap.size (w.heap.size + 1) (.int .i64 0) (.int .i64 0) (.string ⟨#[]⟩) (.slice none 0 0) (.slice none 0 0) (.int .i64 (j8)) (.int .i64 (2)))
                generalize put7 w7 w.heap.size (w.heap.size + 1) (.int .i64 0) (.int .i64 0) (.string ⟨#[]⟩) (.slice none 0 0) (.slice none 0 0) (.int .i64 (j8)) (.int .i64 (2)) = U at *
                obtain ⟨oS, o2S, hBU, hIU⟩ := HF.out
                have c0 := oS.cell (i := 0) rfl
                have c1 := oS.cell (i := 1) rfl
                have c2 := oS.cell (i := 2) rfl
                have c3 := oS.cell (i := 3) rfl
                have c4 := oS.cell (i := 4) rfl
                have d0 := o2S.cell (i := 0) rfl
                have d1 := o2S.cell (i := 1) rfl
                exact bodyPost_ret (v := .tuple #[VC0.val, .int .i64 (0), .int .i64 (0), faultV (j8) (2)]) (by simp [results, Tryz.results97, go_sem, c0, c1, c2, c3, c4, d0, d1, VC.val, VC0, faultV]) rfl (QVr.mkEr VC0 (k := r3.length + 1) (b := 2) (j := 0) (m := 0) HQ.out hBU (by rw [show s.length - (r3.length + 1) = j8 by have := HLEN8.out; omega]))
    · subst hqc
      obtain ⟨hlt, hc, hd', hlen⟩ := drop_byte hp.dr
      have hm : ((⟨s.toArray⟩ : ByteArray)[j]'hlt).toNat = c.toNat := by rw [← hc]; rfl
      have e93 : ¬ (c.toNat : Int) = 125 := by omega
      have b93 : ((c.toNat : Int) == 125) = false := by rw [beq_eq_false_iff_ne]; exact e93
      clear hc hd' hlen hp h93 h
      go_wp2
      go_loopg [3, 12, 13] 65 (fun g v3 v12 v13 wr => ∃ (m : Nat) (cs : List FC) (l : List (Str × T)) (n' : Nat) (r' : Str) (j' : Nat), g = m + 1 ∧ cs.length + m = 64 ∧ n' ≤ 600 ∧ v3 = .int .i64 n' ∧ v13 = .int .i64 j' ∧ j' ≤ s.length ∧ s.drop j' = r' ∧ Below w.heap.size w wr ∧ Own wr w.heap.size [.int .i64 0, .int .i64 0, .string ⟨#[]⟩, .slice none 0 0, .slice none 0 0] 25 ∧ Own wr (w.heap.size + 1) [.int .i64 0, .int .i64 0] 75 ∧ wr.ownsRow (w.heap.size + 1 + 1) 58 6 v12 cs.length (cs.flatMap FC.cells) ∧ AccF (w.heap.size + 1 + 1) v12 wr cs l ∧ Hid (skp r' = r' ∧ (∀ p ∈ l, p.2.size ≤ 600) ∧ membersR (valR f) 64 [] n r = prepL l (membersR (valR f) m (cs.map (·.x)) n' r')))
      case atStart => exact ⟨64, [], [], n, _, j, rfl, by simp, hn, rfl, rfl, HP.out.le, HP.out.dr, HV.out.1, HV.out.2.1, HV.out.2.2, own_nil _ _ _ _, AccF.nil _ _ _, Lib.hid ⟨HSQ.out, by simp, by rw [prepL_nil, ← HQS.out]; exact membersR_skp f 64 [] n r⟩⟩
      case round =>
        obtain ⟨m, cs, l, n', r', j', hg, hm, hn', rfl, rfl, hj, hd, hb, oA, oB, hown, hA, HE0⟩ := hrel
        have HE : Hid (membersR (valR f) 64 [] n r = prepL l (membersR (valR f) m (cs.map (·.x)) n' r')) := Lib.hid HE0.out.2.2
        have HSZ0 := Lib.hid HE0.out.2.1
        have HG := Lib.hid hg
        have HAL := Lib.hid hA.len
        have C := Lib.hid (rfield_of hl hd1 hd2 HVr n' r' j' wr hn' ⟨hj, hd⟩ HE0.out.1 m _ cs hm (Flat.of_own hown))
        clear hg HE0 HV HP HQS HSQ hd
        obtain ⟨ao, cap, hu, -, -, -⟩ := (Flat.of_own hown).out
        subst hu
        generalize hN : cs.length = M at *
        have HN := Lib.hid hN
        have hM64 : M ≤ 64 := by omega
        have HM := Lib.hid hm
        have hwr := oB.lt
        have HS := Lib.hid (And.intro hb (And.intro oA (And.intro oB (And.intro hown hA))))
        clear hN hm hb oA oB hown hA
        go_wp2_with fail
        refine C.out.mono ?_
        rintro e w5 hq
        clear C
        have hs5 := hq.below.size
        cases hR : fieldR (valR f) m (cs.map (·.x)) n' r' with
        | er k b =>
          obtain ⟨g6, j6, m6, rfl⟩ := hq.er k b hR
          have HNZ : ¬ b = 0 := by have := nz_fieldR (nz_valR f) m (cs.map (·.x)) n' r'; rw [hR] at this; exact this
          have HQ : Hid (mapR (valR f) n r = .er k b) := Lib.hid (by rw [HLR.out, HE.out, membersR, hR]; rfl)
          have hX2 : Below w5.heap.size w5 ((w5.alloc (.cells #[sV g6.x, .int .i64 g6.v.k, .int .i64 g6.v.n, sV g6.v.s, .slice g6.v.la g6.v.ln g6.v.lc, .slice g6.v.fa g6.v.fn g6.v.fc] 58)).alloc (.cells #[.int .i64 ((s.length - k : Nat) : Int), .int .i64 b] 75)) := (below_alloc w5 _).alloc (by rw [size_alloc]; omega) _
          have oTX : Own ((w5.alloc (.cells #[sV g6.x, .int .i64 g6.v.k, .int .i64 g6.v.n, sV g6.v.s, .slice g6.v.la g6.v.ln g6.v.lc, .slice g6.v.fa g6.v.fn g6.v.fc] 58)).alloc (.cells #[.int .i64 ((s.length - k : Nat) : Int), .int .i64 b] 75)) (w5.heap.size + 1) [.int .i64 ((s.length - k : Nat) : Int), .int .i64 b] 75 := Own.new_at (by rw [size_alloc]) _ _
          have HX := Lib.hid (And.intro (below_all (below_all HS.out.1 hq.below) hX2) (And.intro ((HS.out.2.1.all hq.below).all hX2) (And.intro ((HS.out.2.2.1.all hq.below).all hX2) oTX)))
          have hneb : (b != 0) = true := by rw [bne_iff_ne]; exact HNZ
          clear hR hq hX2 oTX HS
          go_upto_region 6 with (fail)
          change Code.wp Tryz.prog _ _ _ ((w5.alloc (.cells #[sV g6.x, .int .i64 g6.v.k, .int .i64 g6.v.n, sV g6.v.s, .slice g6.v.la g6.v.ln g6.v.lc, .slice g6.v.fa g6.v.fn g6.v.fc] 58)).alloc (.cells #[.int .i64 ((s.length - k : Nat) : Int), .int .i64 b] 75))
          generalize (w5.alloc (.cells #[sV g6.x, .int .i64 g6.v.k, .int .i64 g6.v.n, sV g6.v.s, .slice g6.v.la g6.v.ln g6.v.lc, .slice g6.v.fa g6.v.fn g6.v.fc] 58)).alloc (.cells #[.int .i64 ((s.length - k : Nat) : Int), .int .i64 b] 75) = X at *
          have t0 := HX.out.2.2.2.cell (i := 0) rfl
          have t1 := HX.out.2.2.2.cell (i := 1) rfl
          have ne1 : ¬ w5.heap.size + 1 = w.heap.size := by omega
          have ne2 : ¬ w5.heap.size + 1 = w.heap.size + 1 := by omega
          have ne3 : ¬ w.heap.size = w5.heap.size + 1 := by omega
          have ne4 : ¬ w5.heap.size = w.heap.size := by omega
          have ne5 : ¬ w.heap.size = w5.heap.size := by omega
          have r0 := HX.out.2.1.cell (i := 0) rfl
          have r1 := HX.out.2.1.cell (i := 1) rfl
          have r2 := HX.out.2.1.cell (i := 2) rfl
          have r3 := HX.out.2.1.cell (i := 3) rfl
          have r4 := HX.out.2.1.cell (i := 4) rfl
          have g0 := HX.out.2.1.frozen 0
          have g1 := HX.out.2.1.frozen 1
          have g2 := HX.out.2.1.frozen 2
          have g3 := HX.out.2.1.frozen 3
          have g4 := HX.out.2.1.frozen 4
          have y0 := HX.out.2.2.1.cell (i := 0) rfl
          have y1 := HX.out.2.2.1.cell (i := 1) rfl
          have z0 := HX.out.2.2.1.frozen 0
          have z1 := HX.out.2.2.1.frozen 1
          have HF := Lib.hid (And.intro (fin_own HX.out.2.1 HX.out.2.2.1 (by omega) (.int .i64 0) (.int .i64 0) (.string ⟨#[]⟩) (.slice none 0 0) (.slice none 0 0) (.int .i64 ((s.length - k : Nat))) (.int .i64 (b))).1 (And.intro (fin_own HX.out.2.1 HX.out.2.2.1 (by omega) (.int .i64 0) (.int .i64 0) (.string ⟨#[]⟩) (.slice none 0 0) (.slice none 0 0) (.int .i64 ((s.length - k : Nat))) (.int .i64 (b))).2 (And.intro (below_put7 HX.out.1 (Nat.le_refl _) (Nat.le_succ _) (.int .i64 0) (.int .i64 0) (.string ⟨#[]⟩) (.slice none 0 0) (.slice none 0 0) (.int .i64 ((s.length - k : Nat))) (.int .i64 (b))) (trivial))))
          go_upto_region 7 with (fail)
          go_region
          go_wp2
          clear t0 t1
          clear r0 r1 r2 r3 r4 g0 g1 g2 g3 g4 y0 y1 z0 z1
          change bodyPost Tryz.prog Tryz.f97 _ _ _ (put7 X w.heap.size (w.heap.size + 1) (.int .i64 0) (.int .i64 0) (.string ⟨#[]⟩) (.slice none 0 0) (.slice none 0 0) (.int .i64 ((s.length - k : Nat))) (.int .i64 (b))).drew
          generalize put7 X w.heap.size (w.heap.size + 1) (.int .i64 0) (.int .i64 0) (.string ⟨#[]⟩) (.slice none 0 0) (.slice none 0 0) (.int .i64 ((s.length - k : Nat))) (.int .i64 (b)) = U at *
          obtain ⟨oS, o2S, hBU, hIU⟩ := HF.out
          replace oS := oS.drew
          replace o2S := o2S.drew
          replace hBU := hBU.drew
          have c0 := oS.cell (i := 0) rfl
          have c1 := oS.cell (i := 1) rfl
          have c2 := oS.cell (i := 2) rfl
          have c3 := oS.cell (i := 3) rfl
          have c4 := oS.cell (i := 4) rfl
          have d0 := o2S.cell (i := 0) rfl
          have d1 := o2S.cell (i := 1) rfl
          exact bodyPost_ret (v := .tuple #[VC0.val, .int .i64 (0), .int .i64 (0), faultV ((s.length - k : Nat)) (b)]) (by simp [results, Tryz.results97, go_sem, c0, c1, c2, c3, c4, d0, d1, VC.val, VC0, faultV]) rfl (QVr.mkEr VC0 (k := k) (b := b) (j := 0) (m := 0) HQ.out hBU rfl)
        | ok p =>
          obtain ⟨⟨nm, t⟩, n2, r2⟩ := p
          obtain ⟨c6, j6, hp6, hI6, rfl⟩ := hq.ok nm t n2 r2 hR
          obtain ⟨hm0, hn2, hsz⟩ := fieldR_size (valR_ok f) hn' hR
          have HSZ : Hid (∀ q ∈ l ++ [(nm, t)], q.2.size ≤ 600) := Lib.hid (fun q hq => by
            rcases List.mem_append.1 hq with h | h
            · exact HSZ0.out q h
            · obtain rfl := List.mem_singleton.1 h; simp only at hsz ⊢; omega)
          have HR := Lib.hid hR
          have hb5 := below_all HS.out.1 hq.below
          have hown5 := row_but HS.out.2.2.2.1 (But.allow (b := 0) hq.below) (by omega)
          have hrlt : ∀ k, (Value.slice ao M cap).ownBlock = some k → k < wr.heap.size := fun k h => (HS.out.2.2.2.1.lt k h).2
          have hrl := own_row hown5
          have hAN := (HS.out.2.2.2.2.below hq.below).snoc (c := ⟨nm, c6⟩) (t := (nm, t)) ⟨rfl, hI6.mono (fun b hb => ⟨by have : wr.heap.size ≤ b := hb; omega, fun e => by have := hrlt b e; have : wr.heap.size ≤ b := hb; omega⟩)⟩
          have hX2 : Below w5.heap.size w5 ((w5.alloc (.cells #[sV nm, .int .i64 c6.k, .int .i64 c6.n, sV c6.s, .slice c6.la c6.ln c6.lc, .slice c6.fa c6.fn c6.fc] 58)).alloc (.cells #[.int .i64 0, .int .i64 0] 75)) := (below_alloc w5 _).alloc (by rw [size_alloc]; omega) _
          have oSX : Own ((w5.alloc (.cells #[sV nm, .int .i64 c6.k, .int .i64 c6.n, sV c6.s, .slice c6.la c6.ln c6.lc, .slice c6.fa c6.fn c6.fc] 58)).alloc (.cells #[.int .i64 0, .int .i64 0] 75)) w5.heap.size [sV nm, .int .i64 c6.k, .int .i64 c6.n, sV c6.s, .slice c6.la c6.ln c6.lc, .slice c6.fa c6.fn c6.fc] 58 := (Own.new w5 _ _).alloc _
          have oTX : Own ((w5.alloc (.cells #[sV nm, .int .i64 c6.k, .int .i64 c6.n, sV c6.s, .slice c6.la c6.ln c6.lc, .slice c6.fa c6.fn c6.fc] 58)).alloc (.cells #[.int .i64 0, .int .i64 0] 75)) (w5.heap.size + 1) [.int .i64 0, .int .i64 0] 75 := Own.new_at (by rw [size_alloc]) _ _
          have HX := Lib.hid (And.intro (below_all hb5 hX2) (And.intro ((HS.out.2.1.all hq.below).all hX2) (And.intro ((HS.out.2.2.1.all hq.below).all hX2) (And.intro (hAN.below hX2) (And.intro oSX (And.intro oTX (row_but hown5 (But.allow (b := 0) hX2) (by omega))))))))
          have HP6 := Lib.hid hp6
          clear hR hq hb5 hown5 hAN hX2 oSX oTX HS hI6 hp6 HSZ0 hsz
          go_upto_region 6 with (fail)
          change Code.wp Tryz.prog _ _ _ ((w5.alloc (.cells #[sV nm, .int .i64 c6.k, .int .i64 c6.n, sV c6.s, .slice c6.la c6.ln c6.lc, .slice c6.fa c6.fn c6.fc] 58)).alloc (.cells #[.int .i64 0, .int .i64 0] 75))
          generalize (w5.alloc (.cells #[sV nm, .int .i64 c6.k, .int .i64 c6.n, sV c6.s, .slice c6.la c6.ln c6.lc, .slice c6.fa c6.fn c6.fc] 58)).alloc (.cells #[.int .i64 0, .int .i64 0] 75) = X at *
          have t1 := HX.out.2.2.2.2.2.1.cell (i := 1) rfl
          have s0 := HX.out.2.2.2.2.1.cell (i := 0) rfl
          have s1 := HX.out.2.2.2.2.1.cell (i := 1) rfl
          have s2 := HX.out.2.2.2.2.1.cell (i := 2) rfl
          have s3 := HX.out.2.2.2.2.1.cell (i := 3) rfl
          have s4 := HX.out.2.2.2.2.1.cell (i := 4) rfl
          have s5 := HX.out.2.2.2.2.1.cell (i := 5) rfl
          have hownX := HX.out.2.2.2.2.2.2
          have hXs := HX.out.2.2.1.lt
          go_upto_region 9 with (fail)
          go_upto_region 10 with (first | (at_builtin; refine wpList_append_lies _ rfl (.tmp 53) (.tmp 55) 23 rfl (w.heap.size + 1 + 1) 58 iE (.agg #[.string ⟨#[]⟩, .int .i64 0, .int .i64 0, .string ⟨#[]⟩, .slice none 0 0, .slice none 0 0]) 6 96 Tryz.underlying23 hiE hzE hsE hyE rfl (by decide) _ _ _ rfl (hownX.alloc _) ⟨X.heap.size, 0, none⟩ 1 1 (FC.cells ⟨nm, c6⟩) rfl rfl (own_src (Own.new _ _ _)) (six_one' ⟨nm, c6⟩) (by decide) (by unfold maxLen; omega) (by omega) (by rw [size_alloc]; omega) _ rfl ?_; intro gg gcap w7 hown7 hgrow7 hlies hglt) | fail)
          have hXA := below_alloc X (.cells #[sV nm, .int .i64 c6.k, .int .i64 c6.n, sV c6.s, .slice c6.la c6.ln c6.lc, .slice c6.fa c6.fn c6.fc] 58)
          have HS8 := Lib.hid (And.intro (below_grw (below_all HX.out.1 hXA) hgrow7 (fun k h => by have := hrl k h; omega)) (And.intro (own_kept' (HX.out.2.1.all hXA) hgrow7 (fun e => by have := hrl _ e; omega)) (And.intro (own_kept' (HX.out.2.2.1.all hXA) hgrow7 (fun e => by have := hrl _ e; omega)) (And.intro hown7 ((HX.out.2.2.2.1.below hXA).grow (n := M + 1) (cap := gcap) hgrow7 (by rcases hlies with h | h; exact Or.inl h; exact Or.inr h))))))
          clear hown7 hgrow7 hlies hglt hXA t1 s0 s1 s2 s3 s4 s5 hownX HX
          have CK := Lib.hid (rskip_any hl HP6.out w7)
          go_wp2_with fail
          refine CK.out.mono ?_
          rintro e w8 ⟨j8, rfl, hp8, rfl⟩
          clear CK
          obtain ⟨q8, hq8⟩ : ∃ q8, skp r2 = q8 := ⟨_, rfl⟩
          rw [hq8] at hp8
          have HSK := Lib.hid hq8
          clear hq8
          cases q8 with
          | nil =>
            obtain rfl := hp8.fin
            have HQ : Hid (mapR (valR f) n r = .er 0 3) := Lib.hid (by rw [HLR.out, HE.out, membersR, HR.out]; simp only [HSK.out]; rfl)
            clear hp8
            have r0 := HS8.out.2.1.cell (i := 0) rfl
            have r1 := HS8.out.2.1.cell (i := 1) rfl
            have r2 := HS8.out.2.1.cell (i := 2) rfl
            have r3 := HS8.out.2.1.cell (i := 3) rfl
            have r4 := HS8.out.2.1.cell (i := 4) rfl
            have g0 := HS8.out.2.1.frozen 0
            have g1 := HS8.out.2.1.frozen 1
            have g2 := HS8.out.2.1.frozen 2
            have g3 := HS8.out.2.1.frozen 3
            have g4 := HS8.out.2.1.frozen 4
            have y0 := HS8.out.2.2.1.cell (i := 0) rfl
            have y1 := HS8.out.2.2.1.cell (i := 1) rfl
            have z0 := HS8.out.2.2.1.frozen 0
            have z1 := HS8.out.2.2.1.frozen 1
            have HF := Lib.hid (And.intro (fin_own HS8.out.2.1 HS8.out.2.2.1 (by omega) (.int .i64 0) (.int .i64 0) (.string ⟨#[]⟩) (.slice none 0 0) (.slice none 0 0) (.int .i64 (s.length)) (.int .i64 (3))).1 (And.intro (fin_own HS8.out.2.1 HS8.out.2.2.1 (by omega) (.int .i64 0) (.int .i64 0) (.string ⟨#[]⟩) (.slice none 0 0) (.slice none 0 0) (.int .i64 (s.length)) (.int .i64 (3))).2 (And.intro (below_put7 HS8.out.1 (Nat.le_refl _) (Nat.le_succ _) (.int .i64 0) (.int .i64 0) (.string ⟨#[]⟩) (.slice none 0 0) (.slice none 0 0) (.int .i64 (s.length)) (.int .i64 (3))) (trivial))))
            go_wp2
            clear r0 r1 r2 r3 r4 g0 g1 g2 g3 g4 y0 y1 z0 z1
            change bodyPost Tryz.prog Tryz.f97 _ _ _ (put7 w7 w.heap.size (w.heap.size + 1) (.int .i64 0) (.int .i64 0) (.string ⟨#[]⟩) (.slice none 0 0) (.slice none 0 0) (.int .i64 (s.length)) (.int .i64 (3)))
            generalize put7 w7 w.heap.size (w.heap.size + 1) (.int .i64 0) (.int .i64 0) (.string ⟨#[]⟩) (.slice none 0 0) (.slice none 0 0) (.int .i64 (s.length)) (.int .i64 (3)) = U at *
            obtain ⟨oS, o2S, hBU, hIU⟩ := HF.out
            have c0 := oS.cell (i := 0) rfl
            have c1 := oS.cell (i := 1) rfl
            have c2 := oS.cell (i := 2) rfl
            have c3 := oS.cell (i := 3) rfl
            have c4 := oS.cell (i := 4) rfl
            have d0 := o2S.cell (i := 0) rfl
            have d1 := o2S.cell (i := 1) rfl
            exact bodyPost_ret (v := .tuple #[VC0.val, .int .i64 (0), .int .i64 (0), faultV (s.length) (3)]) (by simp [results, Tryz.results97, go_sem, c0, c1, c2, c3, c4, d0, d1, VC.val, VC0, faultV]) rfl (QVr.mkEr VC0 (k := 0) (b := 3) (j := 0) (m := 0) HQ.out hBU (by rw [Nat.sub_zero]))
          | cons dd r3 =>
            obtain ⟨hlt8, hc8, hd8, hlen8⟩ := drop_byte hp8.dr
            have hm8 : ((⟨s.toArray⟩ : ByteArray)[j8]'hlt8).toNat = dd.toNat := by rw [← hc8]; rfl
            have HLEN8 := Lib.hid hlen8
            have HP8 := Lib.hid hp8
            clear hc8 hd8 hlen8 hp8
            by_cases h93 : dd.toNat = 125
            · have e93 : (dd.toNat : Int) = 125 := by omega
              have HQ : Hid (mapR (valR f) n r = .ok (.mk 5 0 [] [] (mapL (l ++ [(nm, t)])), n2, r3)) := Lib.hid (by rw [HLR.out, HE.out, membersR, HR.out]; simp only [HSK.out, h93, if_true, prepL, mpL])
              have HAL2 : Hid (cs.length = l.length) := Lib.hid (by rw [HN.out]; exact HAL.out)
              have C := Lib.hid (rmap_any (.slice (some ⟨gg, 0, none⟩) (M + 1) gcap) (l ++ [(nm, t)]) w7 ⟨cs ++ [⟨nm, c6⟩], by rw [List.length_append, List.length_append, HAL2.out]; rfl, by rw [List.length_append, ← HAL2.out]; exact Flat.of_own (by rw [snocF]; rw [HN.out]; exact HS8.out.2.2.2.1), fun i c t hc ht => (HS8.out.2.2.2.2.all i c t hc ht).1, fun i c t hc ht => (HS8.out.2.2.2.2.all i c t hc ht).2.is⟩ (by rw [List.length_append, ← HAL2.out, HN.out]; simp; omega) (fun q hq => by have := HSZ.out q hq; omega))
              have hw7 := HS8.out.2.2.1.lt
              clear h93
              go_wp2_with fail
              refine C.out.mono ?_
              rintro e w9 ⟨c9, Mp, rfl, hb9, hI9, hMp⟩
              obtain rfl : Mp = mapL (l ++ [(nm, t)]) := hMp.unique (mapL_of _)
              have HI := Lib.hid hI9
              have HS9 := Lib.hid (And.intro (below_all HS8.out.1 hb9) (And.intro (HS8.out.2.1.all hb9) (HS8.out.2.2.1.all hb9)))
              clear C hb9 hI9 hMp HS8
              have r0 := HS9.out.2.1.cell (i := 0) rfl
              have r1 := HS9.out.2.1.cell (i := 1) rfl
              have r2 := HS9.out.2.1.cell (i := 2) rfl
              have r3 := HS9.out.2.1.cell (i := 3) rfl
              have r4 := HS9.out.2.1.cell (i := 4) rfl
              have g0 := HS9.out.2.1.frozen 0
              have g1 := HS9.out.2.1.frozen 1
              have g2 := HS9.out.2.1.frozen 2
              have g3 := HS9.out.2.1.frozen 3
              have g4 := HS9.out.2.1.frozen 4
              have y0 := HS9.out.2.2.cell (i := 0) rfl
              have y1 := HS9.out.2.2.cell (i := 1) rfl
              have z0 := HS9.out.2.2.frozen 0
              have z1 := HS9.out.2.2.frozen 1
              have HF := Lib.hid (And.intro (fin_own HS9.out.2.1 HS9.out.2.2 (by omega) (.int .i64 c9.k) (.int .i64 c9.n) (sV c9.s) (.slice c9.la c9.ln c9.lc) (.slice c9.fa c9.fn c9.fc) (.int .i64 (0)) (.int .i64 (0))).1 (And.intro (fin_own HS9.out.2.1 HS9.out.2.2 (by omega) (.int .i64 c9.k) (.int .i64 c9.n) (sV c9.s) (.slice c9.la c9.ln c9.lc) (.slice c9.fa c9.fn c9.fc) (.int .i64 (0)) (.int .i64 (0))).2 (And.intro (below_put7 HS9.out.1 (Nat.le_refl _) (Nat.le_succ _) (.int .i64 c9.k) (.int .i64 c9.n) (sV c9.s) (.slice c9.la c9.ln c9.lc) (.slice c9.fa c9.fn c9.fc) (.int .i64 (0)) (.int .i64 (0))) (HI.out.put7 (show ¬ w7.heap.size ≤ w.heap.size by omega) (show ¬ w7.heap.size ≤ w.heap.size + 1 by omega) (.int .i64 c9.k) (.int .i64 c9.n) (sV c9.s) (.slice c9.la c9.ln c9.lc) (.slice c9.fa c9.fn c9.fc) (.int .i64 0) (.int .i64 0)))))
              go_wp2
              clear r0 r1 r2 r3 r4 g0 g1 g2 g3 g4 y0 y1 z0 z1
              change bodyPost Tryz.prog Tryz.f97 _ _ _ (put7 w9 w.heap.size (w.heap.size + 1) (.int .i64 c9.k) (.int .i64 c9.n) (sV c9.s) (.slice c9.la c9.ln c9.lc) (.slice c9.fa c9.fn c9.fc) (.int .i64 (0)) (.int .i64 (0)))
              generalize put7 w9 w.heap.size (w.heap.size + 1) (.int .i64 c9.k) (.int .i64 c9.n) (sV c9.s) (.slice c9.la c9.ln c9.lc) (.slice c9.fa c9.fn c9.fc) (.int .i64 (0)) (.int .i64 (0)) = U at *
              obtain ⟨oS, o2S, hBU, hIU⟩ := HF.out
              have c0 := oS.cell (i := 0) rfl
              have c1 := oS.cell (i := 1) rfl
              have c2 := oS.cell (i := 2) rfl
              have c3 := oS.cell (i := 3) rfl
              have c4 := oS.cell (i := 4) rfl
              have d0 := o2S.cell (i := 0) rfl
              have d1 := o2S.cell (i := 1) rfl
              exact bodyPost_ret (v := .tuple #[c9.val, .int .i64 ((j8 + 1 : Nat)), .int .i64 (n2), faultV (0) (0)]) (by simp [results, Tryz.results97, go_sem, c0, c1, c2, c3, c4, d0, d1, VC.val, VC0, faultV]) rfl (QVr.mkOk (c := c9) (j := j8 + 1) HQ.out hBU HP8.out.next (hIU.mono (fun b (hb : w7.heap.size ≤ b) => by omega)) rfl)
            · have e93 : ¬ (dd.toNat : Int) = 125 := by omega
              have b93 : ((dd.toNat : Int) == 125) = false := by rw [beq_eq_false_iff_ne]; exact e93
              by_cases h44 : dd.toNat = 44
              · have e44 : (dd.toNat : Int) = 44 := by omega
                have H44 := Lib.hid h44
                obtain ⟨j9, hj9⟩ : ∃ j9 : Nat, j9 = j8 + 1 := ⟨_, rfl⟩
                have hjI : (j8 : Int) + 1 = (j9 : Int) := by omega
                have HP9 := Lib.hid (show Ps s j9 r3 from hj9 ▸ HP8.out.next)
                clear h93 h44 hj9
                have CK := Lib.hid (rskip_any hl HP9.out w7)
                go_wp2_with fail
                refine CK.out.mono ?_
                rintro e w9 ⟨j7, rfl, hp7, rfl⟩
                clear CK
                cases m with
                | zero => exact absurd rfl hm0
                | succ m =>
                  go_wp2
                  go_roundg (m + 1)
                  case measure => have := HG.out; omega
                  case rel => exact ⟨m, cs ++ [⟨nm, c6⟩], l ++ [(nm, t)], n2, skp r3, j7, rfl, by rw [List.length_append, HN.out]; have := HM.out; simp; omega, hn2, rfl, rfl, hp7.le, hp7.dr, HS8.out.1, HS8.out.2.1, HS8.out.2.2.1, by rw [snocF, List.length_append, HN.out]; exact HS8.out.2.2.2.1, HS8.out.2.2.2.2, Lib.hid ⟨skp_skp _, HSZ.out, by rw [HE.out, membersR_next HR.out HSK.out H44.out l, membersR_skp, List.map_append]; rfl⟩⟩
              · have e44 : ¬ (dd.toNat : Int) = 44 := by omega
                have n44 : ((dd.toNat : Int) != 44) = true := by rw [bne_iff_ne]; exact e44
                have HQ : Hid (mapR (valR f) n r = .er (r3.length + 1) 2) := Lib.hid (by rw [HLR.out, HE.out, membersR, HR.out]; simp only [HSK.out, h93, h44, if_false]; rfl)
                clear h93 h44
                have r0 := HS8.out.2.1.cell (i := 0) rfl
                have r1 := HS8.out.2.1.cell (i := 1) rfl
                have r2 := HS8.out.2.1.cell (i := 2) rfl
                have r3 := HS8.out.2.1.cell (i := 3) rfl
                have r4 := HS8.out.2.1.cell (i := 4) rfl
                have g0 := HS8.out.2.1.frozen 0
                have g1 := HS8.out.2.1.frozen 1
                have g2 := HS8.out.2.1.frozen 2
                have g3 := HS8.out.2.1.frozen 3
                have g4 := HS8.out.2.1.frozen 4
                have y0 := HS8.out.2.2.1.cell (i := 0) rfl
                have y1 := HS8.out.2.2.1.cell (i := 1) rfl
                have z0 := HS8.out.2.2.1.frozen 0
                have z1 := HS8.out.2.2.1.frozen 1
                have HF := Lib.hid (And.intro (fin_own HS8.out.2.1 HS8.out.2.2.1 (by omega) (.int .i64 0) (.int .i64 0) (.string ⟨#[]⟩) (.slice none 0 0) (.slice none 0 0) (.int .i64 (j8)) (.int .i64 (2))).1 (And.intro (fin_own HS8.out.2.1 HS8.out.2.2.1 (by omega) (.int .i64 0) (.int .i64 0) (.string ⟨#[]⟩) (.slice none 0 0) (.slice none 0 0) (.int .i64 (j8)) (.int .i64 (2))).2 (And.intro (below_put7 HS8.out.1 (Nat.le_refl _) (Nat.le_succ _) (.int .i64 0) (.int .i64 0) (.string ⟨#[]⟩) (.slice none 0 0) (.slice none 0 0) (.int .i64 (j8)) (.int .i64 (2))) (trivial))))
                go_wp2
                clear r0 r1 r2 r3 r4 g0 g1 g2 g3 g4 y0 y1 z0 z1
                change bodyPost Tryz.prog Tryz.f97 _ _ _ (put7 w7 w.heap.size (w.heap.size + 1) (.int .i64 0) (.int .i64 0) (.string ⟨#[]⟩) (.slice none 0 0) (.slice none 0 0) (.int .i64 (j8)) (.int .i64 (2)))
                generalize put7 w7 w.heap.size (w.heap.size + 1) (.int .i64 0) (.int .i64 0) (.string ⟨#[]⟩) (.slice none 0 0) (.slice none 0 0) (.int .i64 (j8)) (.int .i64 (2)) = U at *
                obtain ⟨oS, o2S, hBU, hIU⟩ := HF.out
                have c0 := oS.cell (i := 0) rfl
                have c1 := oS.cell (i := 1) rfl
                have c2 := oS.cell (i := 2) rfl
                have c3 := oS.cell (i := 3) rfl
                have c4 := oS.cell (i := 4) rfl
                have d0 := o2S.cell (i := 0) rfl
                have d1 := o2S.cell (i := 1) rfl
                exact bodyPost_ret (v := .tuple #[VC0.val, .int .i64 (0), .int .i64 (0), faultV (j8) (2)]) (by simp [results, Tryz.results97, go_sem, c0, c1, c2, c3, c4, d0, d1, VC.val, VC0, faultV]) rfl (QVr.mkEr VC0 (k := r3.length + 1) (b := 2) (j := 0) (m := 0) HQ.out hBU (by rw [show s.length - (r3.length + 1) = j8 by have := HLEN8.out; omega]))
end Go.Proofs.YtjpmnlefjmdelaaGreatDoor
namespace Go.Proofs.YtjpmnlefjmdelaaGreatDoor
open Go.RowKit Go.Sort Go.Proofs.LawFrame

theorem rvalue_any {s : Str} (hl : s.length ≤ 20000) : ∀ f : Nat, f ≤ 12 → RVr s (valR f) (13 - (f : Int)) := by
  intro f
  induction f with
  | zero =>
    intro _ full n r i w hn h hsk
    refine rvalue_fail hl (valR 0) _ full n r i w h (by omega) (by omega) ?_ hn
    cases r with
    | nil => exact Or.inl ⟨rfl, valR_nil 0 full n hsk⟩
    | cons c r1 =>
      refine Or.inr ⟨c, r1, rfl, ?_⟩
      cases hb : bgn c
      · exact Or.inl ⟨rfl, by rw [valR_zero, hsk]; simp only; rw [if_pos hb]⟩
      · exact Or.inr ⟨rfl, Or.inr (Or.inl (by omega)), by rw [valR_zero, hsk]; simp only; rw [if_neg (by rw [hb]; simp)]⟩
  | succ f ih =>
    intro hf full n r i w hn h hsk
    have HV := ih (by omega)
    obtain ⟨d, hd⟩ : ∃ d : Int, d = 12 - (f : Int) := ⟨_, rfl⟩
    rw [show (13 - (f : Int)) = d + 1 by omega] at HV
    rw [show (13 - ((f + 1 : Nat) : Int)) = d by omega]
    have hd1 : 1 ≤ d := by omega
    have hd2 : d ≤ 12 := by omega
    clear hd
    cases r with
    | nil => exact rvalue_fail hl (valR (f + 1)) d full n [] i w h hd1 (by omega) (Or.inl ⟨rfl, valR_nil _ full n hsk⟩) hn
    | cons c r1 =>
      cases hb : bgn c
      · exact rvalue_fail hl (valR (f + 1)) d full n (c :: r1) i w h hd1 (by omega) (Or.inr ⟨c, r1, rfl, Or.inl ⟨hb, by rw [valR_succ, hsk]; simp only; rw [if_pos hb]⟩⟩) hn
      · by_cases hfull : full = true ∨ n = 600
        · exact rvalue_fail hl (valR (f + 1)) d full n (c :: r1) i w h hd1 (by omega) (Or.inr ⟨c, r1, rfl, Or.inr ⟨hb, (by rcases hfull with h | h; exact Or.inl h; exact Or.inr (Or.inr (by omega))), by rw [valR_succ, hsk]; simp only; rw [if_neg (by rw [hb]; simp), if_pos hfull]⟩⟩) hn
        · have e : valR (f + 1) full n (c :: r1) = bodyR (valR f) (n + 1) c r1 := by rw [valR_succ, hsk]; simp only; rw [if_neg (by rw [hb]; simp), if_neg hfull]
          rw [e]
          obtain rfl : full = false := by cases full with | true => exact absurd (Or.inl rfl) hfull | false => rfl
          have hn' : n < 600 := by
            by_cases h6 : n = 600
            · exact absurd (Or.inr h6) hfull
            · omega
          by_cases h91 : c.toNat = 91
          · exact rvalue_list hl hd1 hd2 (relements_of hl hd1 hd2 HV) n hn' c r1 i w h hb h91
          by_cases h123 : c.toNat = 123
          · exact rvalue_map hl hd1 hd2 (rmembers_of hl hd1 hd2 HV) n hn' c r1 i w h hb h123
          by_cases h34 : c.toNat = 34
          · exact rvalue_str hl hd1 hd2 n hn' c r1 i w h hb h34
          by_cases h110 : c.toNat = 110
          · exact rvalue_null hl hd1 hd2 n hn' c r1 i w h hb h110
          by_cases h116 : c.toNat = 116
          · exact rvalue_true hl hd1 hd2 n hn' c r1 i w h hb h116
          by_cases h102 : c.toNat = 102
          · exact rvalue_false hl hd1 hd2 n hn' c r1 i w h hb h102
          · exact rvalue_num hl hd1 hd2 n hn' c r1 i w h hb ⟨h110, h116, h102, h34, h91, h123⟩
theorem below_put5 {w W : World} (h : Below w.heap.size w W) {b0 : Nat} (h0 : w.heap.size ≤ b0) (v0 v1 v2 v3 v4 : Value) : Below w.heap.size w (put5 W b0 v0 v1 v2 v3 v4) :=
  below_set (below_set (below_set (below_set (below_set h h0 v0) h0 v1) h0 v2) h0 v3) h0 v4
/-- what the reference's Parse answers -/
def QPr2 (w : World) (p : T × Int × Int) (e : Ending) (w' : World) : Prop := ∃ c : VC, e = .returned (.tuple #[c.val, .int .i64 p.2.1, .int .i64 p.2.2]) ∧ Below w.heap.size w w' ∧ Is w' c p.1
set_option maxHeartbeats 8000000 in
set_option maxRecDepth 4000 in
theorem rparse_any (s : Str) (w : World) (hlen : s.length ≤ 21000) : Calls Tryz.prog 19 #[sV s] w (QPr2 w (parseR s)) := by
  have hbA := below_alloc w (.cells #[.int .i64 0, .int .i64 0, .string ⟨#[]⟩, .slice none 0 0, .slice none 0 0] 25)
  have oA := Own.new w [.int .i64 0, .int .i64 0, .string ⟨#[]⟩, .slice none 0 0, .slice none 0 0] 25
  have HV := Lib.hid (And.intro hbA oA)
  clear hbA oA
  go_enter Tryz.func19, Tryz.ntmps19
  go_upto_region 1 with (fail)
  change Code.wp Tryz.prog _ _ _ (w.alloc (.cells #[.int .i64 0, .int .i64 0, .string ⟨#[]⟩, .slice none 0 0, .slice none 0 0] 25))
  generalize w.alloc (.cells #[.int .i64 0, .int .i64 0, .string ⟨#[]⟩, .slice none 0 0, .slice none 0 0] 25) = V at *
  by_cases hbig : 20000 < s.length
  · have HQ : Hid (parseR s = (.mk 0 0 [] [] [], 20000, 4)) := Lib.hid (by unfold parseR; rw [if_pos hbig])
    have rr0 := HV.out.2.cell (i := 0) rfl
    have rr1 := HV.out.2.cell (i := 1) rfl
    have rr2 := HV.out.2.cell (i := 2) rfl
    have rr3 := HV.out.2.cell (i := 3) rfl
    have rr4 := HV.out.2.cell (i := 4) rfl
    have g0 := HV.out.2.frozen 0
    have g1 := HV.out.2.frozen 1
    have g2 := HV.out.2.frozen 2
    have g3 := HV.out.2.frozen 3
    have g4 := HV.out.2.frozen 4
    have HF := Lib.hid (And.intro (own_put5 HV.out.2 (.int .i64 0) (.int .i64 0) (.string ⟨#[]⟩) (.slice none 0 0) (.slice none 0 0)) (And.intro (below_put5 HV.out.1 (Nat.le_refl _) (.int .i64 0) (.int .i64 0) (.string ⟨#[]⟩) (.slice none 0 0) (.slice none 0 0)) (trivial)))
    go_wp2
    clear rr0 rr1 rr2 rr3 rr4 g0 g1 g2 g3 g4
    change bodyPost Tryz.prog Tryz.f19 _ _ _ (put5 V w.heap.size (.int .i64 0) (.int .i64 0) (.string ⟨#[]⟩) (.slice none 0 0) (.slice none 0 0))
    generalize put5 V w.heap.size (.int .i64 0) (.int .i64 0) (.string ⟨#[]⟩) (.slice none 0 0) (.slice none 0 0) = U at *
    obtain ⟨oS, hBU, hIU⟩ := HF.out
    have c0 := oS.cell (i := 0) rfl
    have c1 := oS.cell (i := 1) rfl
    have c2 := oS.cell (i := 2) rfl
    have c3 := oS.cell (i := 3) rfl
    have c4 := oS.cell (i := 4) rfl
    exact bodyPost_ret (v := .tuple #[VC0.val, .int .i64 (20000), .int .i64 (4)]) (by simp [results, Tryz.results19, go_sem, c0, c1, c2, c3, c4, VC.val, VC0]) rfl (by rw [HQ.out]; exact ⟨VC0, rfl, hBU, (isA_leaf U (fun _ => True) 0 0 []).is⟩)
  · have hl : s.length ≤ 20000 := by omega
    have HPA : Hid (parseR s = (match textR s with | .ok t => (t, 0, 0) | .er k c => (.mk 0 0 [] [] [], ((s.length - k : Nat) : Int), c))) := Lib.hid (by unfold parseR; rw [if_neg hbig]; cases textR s <;> rfl)
    have hVl := HV.out.2.lt
    have CK : Hid (Calls Tryz.prog 55 #[sV s, .int .i64 0] V fun e w' => ∃ j : Nat, e = .returned (.int .i64 j) ∧ Ps s j (skp s) ∧ V = w') := Lib.hid (rskip_any hl (i := 0) (r := s) ⟨Nat.zero_le _, rfl⟩ V)
    go_wp2_with fail
    refine CK.out.mono ?_
    rintro e w1 ⟨j, rfl, hp, rfl⟩
    clear CK
    have CV : Hid (Calls Tryz.prog 54 #[sV s, .int .i64 j, .int .i64 1, .int .i64 0, .bool false] V (QVr s V (valR 12 false 0 s))) := Lib.hid (by
      have := rvalue_any hl 12 (Nat.le_refl _) false 0 (skp s) j V (by omega) hp (skp_skp _)
      rw [(valR_ok 12).skp] at this
      exact this)
    clear hp
    go_wp2_with fail
    refine CV.out.mono ?_
    rintro e w5 hq
    clear CV
    have hs5 := hq.below.size
    cases hR : valR 12 false 0 s with
    | er k b =>
      obtain ⟨c6, j6, m6, rfl⟩ := hq.er k b hR
      have HNZ : ¬ b = 0 := by have := nz_valR 12 false 0 s; rw [hR] at this; exact this
      have hneb : (b != 0) = true := by rw [bne_iff_ne]; exact HNZ
      have HQ : Hid (parseR s = (.mk 0 0 [] [] [], ((s.length - k : Nat) : Int), b)) := Lib.hid (by rw [HPA.out]; unfold textR; rw [hR])
      have hX2 : Below w5.heap.size w5 ((w5.alloc (.cells #[.int .i64 c6.k, .int .i64 c6.n, sV c6.s, .slice c6.la c6.ln c6.lc, .slice c6.fa c6.fn c6.fc] 25)).alloc (.cells #[.int .i64 ((s.length - k : Nat) : Int), .int .i64 b] 75)) := (below_alloc w5 _).alloc (by rw [size_alloc]; omega) _
      have oTX : Own ((w5.alloc (.cells #[.int .i64 c6.k, .int .i64 c6.n, sV c6.s, .slice c6.la c6.ln c6.lc, .slice c6.fa c6.fn c6.fc] 25)).alloc (.cells #[.int .i64 ((s.length - k : Nat) : Int), .int .i64 b] 75)) (w5.heap.size + 1) [.int .i64 ((s.length - k : Nat) : Int), .int .i64 b] 75 := Own.new_at (by rw [size_alloc]) _ _
      have HX := Lib.hid (And.intro (below_all (below_all HV.out.1 hq.below) hX2) (And.intro ((HV.out.2.all hq.below).all hX2) oTX))
      clear hR hq hX2 oTX HV HPA
      go_upto_region 4 with (fail)
      change Code.wp Tryz.prog _ _ _ ((w5.alloc (.cells #[.int .i64 c6.k, .int .i64 c6.n, sV c6.s, .slice c6.la c6.ln c6.lc, .slice c6.fa c6.fn c6.fc] 25)).alloc (.cells #[.int .i64 ((s.length - k : Nat) : Int), .int .i64 b] 75))
      generalize (w5.alloc (.cells #[.int .i64 c6.k, .int .i64 c6.n, sV c6.s, .slice c6.la c6.ln c6.lc, .slice c6.fa c6.fn c6.fc] 25)).alloc (.cells #[.int .i64 ((s.length - k : Nat) : Int), .int .i64 b] 75) = X at *
      have t0 := HX.out.2.2.cell (i := 0) rfl
      have t1 := HX.out.2.2.cell (i := 1) rfl
      have ne1 : ¬ w5.heap.size + 1 = w.heap.size := by omega
      have ne3 : ¬ w.heap.size = w5.heap.size + 1 := by omega
      have rr0 := HX.out.2.1.cell (i := 0) rfl
      have rr1 := HX.out.2.1.cell (i := 1) rfl
      have rr2 := HX.out.2.1.cell (i := 2) rfl
      have rr3 := HX.out.2.1.cell (i := 3) rfl
      have rr4 := HX.out.2.1.cell (i := 4) rfl
      have g0 := HX.out.2.1.frozen 0
      have g1 := HX.out.2.1.frozen 1
      have g2 := HX.out.2.1.frozen 2
      have g3 := HX.out.2.1.frozen 3
      have g4 := HX.out.2.1.frozen 4
      have HF := Lib.hid (And.intro (own_put5 HX.out.2.1 (.int .i64 0) (.int .i64 0) (.string ⟨#[]⟩) (.slice none 0 0) (.slice none 0 0)) (And.intro (below_put5 HX.out.1 (Nat.le_refl _) (.int .i64 0) (.int .i64 0) (.string ⟨#[]⟩) (.slice none 0 0) (.slice none 0 0)) (trivial)))
      go_upto_region 5 with (fail)
      go_region
      go_wp2
      clear t0 t1
      clear rr0 rr1 rr2 rr3 rr4 g0 g1 g2 g3 g4
      change bodyPost Tryz.prog Tryz.f19 _ _ _ (put5 X w.heap.size (.int .i64 0) (.int .i64 0) (.string ⟨#[]⟩) (.slice none 0 0) (.slice none 0 0)).drew
      generalize put5 X w.heap.size (.int .i64 0) (.int .i64 0) (.string ⟨#[]⟩) (.slice none 0 0) (.slice none 0 0) = U at *
      obtain ⟨oS, hBU, hIU⟩ := HF.out
      replace oS := oS.drew
      replace hBU := hBU.drew
      have c0 := oS.cell (i := 0) rfl
      have c1 := oS.cell (i := 1) rfl
      have c2 := oS.cell (i := 2) rfl
      have c3 := oS.cell (i := 3) rfl
      have c4 := oS.cell (i := 4) rfl
      exact bodyPost_ret (v := .tuple #[VC0.val, .int .i64 ((s.length - k : Nat)), .int .i64 (b)]) (by simp [results, Tryz.results19, go_sem, c0, c1, c2, c3, c4, VC.val, VC0]) rfl (by rw [HQ.out]; exact ⟨VC0, rfl, hBU, (isA_leaf _ (fun _ => True) 0 0 []).is⟩)
    | ok p =>
      obtain ⟨t, n6, r6⟩ := p
      obtain ⟨c6, j6, hp6, hI6, rfl⟩ := hq.ok t n6 r6 hR
      have HTX : Hid (textR s = (match skp r6 with | [] => .ok t | _ :: r' => .er (r'.length + 1) 2)) := Lib.hid (by unfold textR; rw [hR]; rfl)
      have hX2 : Below w5.heap.size w5 ((w5.alloc (.cells #[.int .i64 c6.k, .int .i64 c6.n, sV c6.s, .slice c6.la c6.ln c6.lc, .slice c6.fa c6.fn c6.fc] 25)).alloc (.cells #[.int .i64 0, .int .i64 0] 75)) := (below_alloc w5 _).alloc (by rw [size_alloc]; omega) _
      have oSX : Own ((w5.alloc (.cells #[.int .i64 c6.k, .int .i64 c6.n, sV c6.s, .slice c6.la c6.ln c6.lc, .slice c6.fa c6.fn c6.fc] 25)).alloc (.cells #[.int .i64 0, .int .i64 0] 75)) w5.heap.size [.int .i64 c6.k, .int .i64 c6.n, sV c6.s, .slice c6.la c6.ln c6.lc, .slice c6.fa c6.fn c6.fc] 25 := (Own.new w5 _ _).alloc _
      have oTX : Own ((w5.alloc (.cells #[.int .i64 c6.k, .int .i64 c6.n, sV c6.s, .slice c6.la c6.ln c6.lc, .slice c6.fa c6.fn c6.fc] 25)).alloc (.cells #[.int .i64 0, .int .i64 0] 75)) (w5.heap.size + 1) [.int .i64 0, .int .i64 0] 75 := Own.new_at (by rw [size_alloc]) _ _
      have HX := Lib.hid (And.intro (below_all (below_all HV.out.1 hq.below) hX2) (And.intro ((HV.out.2.all hq.below).all hX2) (And.intro oSX (And.intro oTX (hI6.all hX2)))))
      have CK := fun w => Lib.hid (rskip_any hl hp6 w)
      clear hR hq hX2 oSX oTX HV hI6 hp6
      go_upto_region 4 with (fail)
      change Code.wp Tryz.prog _ _ _ ((w5.alloc (.cells #[.int .i64 c6.k, .int .i64 c6.n, sV c6.s, .slice c6.la c6.ln c6.lc, .slice c6.fa c6.fn c6.fc] 25)).alloc (.cells #[.int .i64 0, .int .i64 0] 75))
      generalize (w5.alloc (.cells #[.int .i64 c6.k, .int .i64 c6.n, sV c6.s, .slice c6.la c6.ln c6.lc, .slice c6.fa c6.fn c6.fc] 25)).alloc (.cells #[.int .i64 0, .int .i64 0] 75) = X at *
      have t1 := HX.out.2.2.2.1.cell (i := 1) rfl
      have C := CK X
      clear CK
      go_wp2_with fail
      refine C.out.mono ?_
      rintro e w8 ⟨j8, rfl, hp8, rfl⟩
      clear C t1
      obtain ⟨q8, hq8⟩ : ∃ q8, skp r6 = q8 := ⟨_, rfl⟩
      rw [hq8] at hp8
      cases q8 with
      | nil =>
        obtain rfl := hp8.fin
        have HQ : Hid (parseR s = (t, 0, 0)) := Lib.hid (by rw [HPA.out, HTX.out, hq8])
        clear hq8 hp8 HTX HPA
        have s0 := HX.out.2.2.1.cell (i := 0) rfl
        have s1 := HX.out.2.2.1.cell (i := 1) rfl
        have s2 := HX.out.2.2.1.cell (i := 2) rfl
        have s3 := HX.out.2.2.1.cell (i := 3) rfl
        have s4 := HX.out.2.2.1.cell (i := 4) rfl
        have rr0 := HX.out.2.1.cell (i := 0) rfl
        have rr1 := HX.out.2.1.cell (i := 1) rfl
        have rr2 := HX.out.2.1.cell (i := 2) rfl
        have rr3 := HX.out.2.1.cell (i := 3) rfl
        have rr4 := HX.out.2.1.cell (i := 4) rfl
        have g0 := HX.out.2.1.frozen 0
        have g1 := HX.out.2.1.frozen 1
        have g2 := HX.out.2.1.frozen 2
        have g3 := HX.out.2.1.frozen 3
        have g4 := HX.out.2.1.frozen 4
        have HF := Lib.hid (And.intro (own_put5 HX.out.2.1 (.int .i64 c6.k) (.int .i64 c6.n) (sV c6.s) (.slice c6.la c6.ln c6.lc) (.slice c6.fa c6.fn c6.fc)) (And.intro (below_put5 HX.out.1 (Nat.le_refl _) (.int .i64 c6.k) (.int .i64 c6.n) (sV c6.s) (.slice c6.la c6.ln c6.lc) (.slice c6.fa c6.fn c6.fc)) (HX.out.2.2.2.2.put5 (show ¬ V.heap.size ≤ w.heap.size by omega) (.int .i64 c6.k) (.int .i64 c6.n) (sV c6.s) (.slice c6.la c6.ln c6.lc) (.slice c6.fa c6.fn c6.fc))))
        go_wp2
        clear rr0 rr1 rr2 rr3 rr4 g0 g1 g2 g3 g4
        change bodyPost Tryz.prog Tryz.f19 _ _ _ (put5 X w.heap.size (.int .i64 c6.k) (.int .i64 c6.n) (sV c6.s) (.slice c6.la c6.ln c6.lc) (.slice c6.fa c6.fn c6.fc))
        generalize put5 X w.heap.size (.int .i64 c6.k) (.int .i64 c6.n) (sV c6.s) (.slice c6.la c6.ln c6.lc) (.slice c6.fa c6.fn c6.fc) = U at *
        obtain ⟨oS, hBU, hIU⟩ := HF.out
        have c0 := oS.cell (i := 0) rfl
        have c1 := oS.cell (i := 1) rfl
        have c2 := oS.cell (i := 2) rfl
        have c3 := oS.cell (i := 3) rfl
        have c4 := oS.cell (i := 4) rfl
        exact bodyPost_ret (v := .tuple #[c6.val, .int .i64 (0), .int .i64 (0)]) (by simp [results, Tryz.results19, go_sem, c0, c1, c2, c3, c4, VC.val, VC0]) rfl (by rw [HQ.out]; exact ⟨c6, rfl, hBU, hIU.is⟩)
      | cons c8 r8 =>
        have hlt8 := (drop_byte hp8.dr).1
        have hlen8 := hp8.len
        have HQ : Hid (parseR s = (.mk 0 0 [] [] [], (j8 : Int), 2)) := Lib.hid (by
          rw [HPA.out, HTX.out, hq8]
          simp only
          rw [show s.length - (r8.length + 1) = j8 by simp at hlen8; omega])
        clear hq8 hp8 HTX HPA hlen8
        have rr0 := HX.out.2.1.cell (i := 0) rfl
        have rr1 := HX.out.2.1.cell (i := 1) rfl
        have rr2 := HX.out.2.1.cell (i := 2) rfl
        have rr3 := HX.out.2.1.cell (i := 3) rfl
        have rr4 := HX.out.2.1.cell (i := 4) rfl
        have g0 := HX.out.2.1.frozen 0
        have g1 := HX.out.2.1.frozen 1
        have g2 := HX.out.2.1.frozen 2
        have g3 := HX.out.2.1.frozen 3
        have g4 := HX.out.2.1.frozen 4
        have HF := Lib.hid (And.intro (own_put5 HX.out.2.1 (.int .i64 0) (.int .i64 0) (.string ⟨#[]⟩) (.slice none 0 0) (.slice none 0 0)) (And.intro (below_put5 HX.out.1 (Nat.le_refl _) (.int .i64 0) (.int .i64 0) (.string ⟨#[]⟩) (.slice none 0 0) (.slice none 0 0)) (trivial)))
        go_wp2
        clear rr0 rr1 rr2 rr3 rr4 g0 g1 g2 g3 g4
        change bodyPost Tryz.prog Tryz.f19 _ _ _ (put5 X w.heap.size (.int .i64 0) (.int .i64 0) (.string ⟨#[]⟩) (.slice none 0 0) (.slice none 0 0))
        generalize put5 X w.heap.size (.int .i64 0) (.int .i64 0) (.string ⟨#[]⟩) (.slice none 0 0) (.slice none 0 0) = U at *
        obtain ⟨oS, hBU, hIU⟩ := HF.out
        have c0 := oS.cell (i := 0) rfl
        have c1 := oS.cell (i := 1) rfl
        have c2 := oS.cell (i := 2) rfl
        have c3 := oS.cell (i := 3) rfl
        have c4 := oS.cell (i := 4) rfl
        exact bodyPost_ret (v := .tuple #[VC0.val, .int .i64 (j8), .int .i64 (2)]) (by simp [results, Tryz.results19, go_sem, c0, c1, c2, c3, c4, VC.val, VC0]) rfl (by rw [HQ.out]; exact ⟨VC0, rfl, hBU, (isA_leaf U (fun _ => True) 0 0 []).is⟩)

set_option maxHeartbeats 8000000 in
set_option maxRecDepth 4000 in
theorem parses_walk (s : Str) (w : World) (ht : Tab w) :
    Calls Tryz.prog 4 #[sV s] w fun e w' => e = .returned (.bool true) ∧ Below w.heap.size w w' := by
  have HT := Lib.hid ht
  clear ht
  go_enter Tryz.func4, Tryz.ntmps4
  by_cases hs : 21000 < s.length
  · have CL := Lib.hid (jlives_any w HT.out)
    go_wp2_with fail
    refine CL.out.mono ?_
    rintro e w1 ⟨rfl, hb1⟩
    go_wp2
    go_ret
    exact ⟨rfl, hb1⟩
  · have CR := fun w => rparse_any s w (by omega)
    obtain ⟨⟨t, a, b⟩, hpe⟩ : ∃ p, parseR s = p := ⟨_, rfl⟩
    rw [hpe] at CR
    have CQ := Lib.hid (parse_is hpe w)
    replace CR := fun w => Lib.hid (CR w)
    clear hpe
    go_wp2_with fail
    refine CQ.out.mono ?_
    rintro e w1 ⟨c, rfl, hb1, hI1⟩
    have hA1 := below_alloc w1 (.cells #[.int .i64 c.k, .int .i64 c.n, sV c.s, .slice c.la c.ln c.lc, .slice c.fa c.fn c.fc] 25)
    have o1 := Own.new w1 [.int .i64 c.k, .int .i64 c.n, sV c.s, .slice c.la c.ln c.lc, .slice c.fa c.fn c.fc] 25
    have HS1 := Lib.hid (And.intro (below_all hb1 hA1) (And.intro o1 (hI1.all hA1)))
    clear hb1 hI1 hA1 o1 CQ
    go_upto_region 4 with (fail)
    change Code.wp Tryz.prog _ _ _ (w1.alloc (.cells #[.int .i64 c.k, .int .i64 c.n, sV c.s, .slice c.la c.ln c.lc, .slice c.fa c.fn c.fc] 25))
    generalize w1.alloc (.cells #[.int .i64 c.k, .int .i64 c.n, sV c.s, .slice c.la c.ln c.lc, .slice c.fa c.fn c.fc] 25) = V1 at *
    have C2 := CR V1
    clear CR
    go_wp2_with fail
    refine C2.out.mono ?_
    rintro e w2 ⟨c2, rfl, hb2, hI2⟩
    have hA2 := below_alloc w2 (.cells #[.int .i64 c2.k, .int .i64 c2.n, sV c2.s, .slice c2.la c2.ln c2.lc, .slice c2.fa c2.fn c2.fc] 25)
    have o2 := Own.new w2 [.int .i64 c2.k, .int .i64 c2.n, sV c2.s, .slice c2.la c2.ln c2.lc, .slice c2.fa c2.fn c2.fc] 25
    have HS2 := Lib.hid (And.intro (below_all (below_all HS1.out.1 hb2) hA2) (And.intro ((HS1.out.2.1.all hb2).all hA2) (And.intro ((HS1.out.2.2.all hb2).all hA2) (And.intro o2 (hI2.all hA2)))))
    clear hb2 hI2 hA2 o2 C2 HS1
    go_upto_region 5 with (fail)
    change Code.wp Tryz.prog _ _ _ (w2.alloc (.cells #[.int .i64 c2.k, .int .i64 c2.n, sV c2.s, .slice c2.la c2.ln c2.lc, .slice c2.fa c2.fn c2.fc] 25))
    generalize w2.alloc (.cells #[.int .i64 c2.k, .int .i64 c2.n, sV c2.s, .slice c2.la c2.ln c2.lc, .slice c2.fa c2.fn c2.fc] 25) = V2 at *
    have CL := Lib.hid (jlives_any V2 (HT.out.below HS2.out.1))
    go_wp2_with fail
    refine CL.out.mono ?_
    rintro e w3 ⟨rfl, hb3⟩
    have HS3 := Lib.hid (And.intro (below_all HS2.out.1 hb3) (And.intro (HS2.out.2.1.all hb3) (And.intro (HS2.out.2.2.1.all hb3) (And.intro (HS2.out.2.2.2.1.all hb3) (HS2.out.2.2.2.2.all hb3)))))
    clear hb3 CL HS2
    have a0 := HS3.out.2.1.cell (i := 0) rfl
    have b0 := HS3.out.2.2.2.1.cell (i := 0) rfl
    have a1 := HS3.out.2.1.cell (i := 1) rfl
    have b1 := HS3.out.2.2.2.1.cell (i := 1) rfl
    have a2 := HS3.out.2.1.cell (i := 2) rfl
    have b2 := HS3.out.2.2.2.1.cell (i := 2) rfl
    have a3 := HS3.out.2.1.cell (i := 3) rfl
    have b3 := HS3.out.2.2.2.1.cell (i := 3) rfl
    have a4 := HS3.out.2.1.cell (i := 4) rfl
    have b4 := HS3.out.2.2.2.1.cell (i := 4) rfl
    have C := Lib.hid (eqv_true rfl HS3.out.2.2.1 HS3.out.2.2.2.2)
    go_wp2_with fail
    clear a0 a1 a2 a3 a4 b0 b1 b2 b3 b4
    refine C.out.mono ?_
    rintro e w4 ⟨rfl, hb4⟩
    have HB := Lib.hid (below_all HS3.out.1 hb4)
    clear hb4 C HS3
    go_wp2
    go_ret
    exact ⟨rfl, HB.out⟩
end Go.Proofs.YtjpmnlefjmdelaaGreatDoor
