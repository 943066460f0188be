/- The reference's Alike of any two values. -/
import Derived.Test.YtinenbgdkchghaaGp
set_option linter.unusedSimpArgs false
set_option linter.unusedVariables false
namespace Go.Proofs.Ytinenbgdkchghaa
open Go.RowKit Go.Sort Go.Proofs.LawFrame

theorem al_no {t u : T} (h : ¬ t = u) : decide (cmpT t u = 0) = false := by rw [decide_eq_false_iff_not]; exact fun e => h (cmpT_eq e)
theorem al_yes {t u : T} (h : t = u) : decide (cmpT t u = 0) = true := by rw [decide_eq_true_eq, h]; exact cmpT_refl u
theorem take_get {α : Type} {l l2 : List α} {k : Nat} {x y : α} (h : l.take k = l2.take k) (hx : l[k]? = some x) (hy : l2[k]? = some y) (e : x = y) : l.take (k + 1) = l2.take (k + 1) := by
  rw [take_snoc hx, take_snoc hy, h, e]
set_option maxHeartbeats 16000000 in
set_option maxRecDepth 4000 in
theorem alikeB_any : ∀ (N : Nat) (t u : T), SizeOf.sizeOf t ≤ N → ∀ (c d : VC) (w : World), Is w c t → Is w d u →
    Calls Try.prog 12 #[c.val, d.val] w fun e w' => e = .returned (.bool (decide (cmpT t u = 0))) ∧ Below w.heap.size w w' := by
  intro N
  induction N with
  | zero => rintro ⟨k, n, s, l, f⟩ u h; simp at h
  | succ N ih =>
    rintro ⟨ak, an, sa, l, f⟩ ⟨bk, bn, sb, l2, f2⟩ hN ⟨k', n', s', ala, aln, alc, afa, afn, afc⟩ ⟨k2', n2', s2', bla, bln, blc, bfa, bfn, bfc⟩ w hI hJ
    obtain ⟨rfl, rfl, rfl⟩ : ak = k' ∧ an = n' ∧ sa = s' := ⟨hI.same.1.symm, hI.same.2.1.symm, hI.same.2.2.symm⟩
    obtain ⟨rfl, rfl, rfl⟩ : bk = k2' ∧ bn = n2' ∧ sb = s2' := ⟨hJ.same.1.symm, hJ.same.2.1.symm, hJ.same.2.2.symm⟩
    have hl := hI.vals
    have hf := hI.flds
    have hl2 := hJ.vals
    have hf2 := hJ.flds
    clear hI hJ
    obtain ⟨rfl, hlc, hlm⟩ := hl.slice
    obtain ⟨rfl, hfc, hfm⟩ := hf.slice
    obtain ⟨hln2, hlc2, hlm2⟩ := hl2.slice
    obtain ⟨hfn2, hfc2, hfm2⟩ := hf2.slice
    simp only at hln2 hfn2 hl2 hf2
    have HLE := Lib.hid (And.intro hln2 hfn2)
    have hlc3 : bln ≤ blc := by rw [hln2]; exact hlc2
    have hfc3 : bfn ≤ bfc := by rw [hfn2]; exact hfc2
    clear hln2 hfn2 hlc2 hfc2
    unfold maxLen at hlm hfm hlm2 hfm2
    have HL := Lib.hid (And.intro hl (And.intro hf (And.intro hl2 hf2)))
    have IH := Lib.hid ih
    have HNN := Lib.hid hN
    clear hl hf hl2 hf2 ih hN
    have hw0 : Below w.heap.size w ((w.alloc (.cells #[.int .i64 ak, .int .i64 an, sV sa, .slice ala l.length alc, .slice afa f.length afc] 25)).alloc (.cells #[.int .i64 bk, .int .i64 bn, sV sb, .slice bla bln blc, .slice bfa bfn bfc] 25)) := ((Below.refl _ _).alloc (Nat.le_refl _) _).alloc (by simp) _
    have HO := Lib.hid (show Below w.heap.size w ((w.alloc (.cells #[.int .i64 ak, .int .i64 an, sV sa, .slice ala l.length alc, .slice afa f.length afc] 25)).alloc (.cells #[.int .i64 bk, .int .i64 bn, sV sb, .slice bla bln blc, .slice bfa bfn bfc] 25)) ∧ Own ((w.alloc (.cells #[.int .i64 ak, .int .i64 an, sV sa, .slice ala l.length alc, .slice afa f.length afc] 25)).alloc (.cells #[.int .i64 bk, .int .i64 bn, sV sb, .slice bla bln blc, .slice bfa bfn bfc] 25)) w.heap.size [.int .i64 ak, .int .i64 an, sV sa, .slice ala l.length alc, .slice afa f.length afc] 25 ∧ Own ((w.alloc (.cells #[.int .i64 ak, .int .i64 an, sV sa, .slice ala l.length alc, .slice afa f.length afc] 25)).alloc (.cells #[.int .i64 bk, .int .i64 bn, sV sb, .slice bla bln blc, .slice bfa bfn bfc] 25)) (w.heap.size + 1) [.int .i64 bk, .int .i64 bn, sV sb, .slice bla bln blc, .slice bfa bfn bfc] 25 from ⟨hw0, (Own.new _ _ _).alloc _, Own.new_at (by rw [size_alloc]) _ _⟩)
    clear hw0
    show Calls Try.prog 12 #[.agg #[.int .i64 ak, .int .i64 an, sV sa, .slice ala l.length alc, .slice afa f.length afc], .agg #[.int .i64 bk, .int .i64 bn, sV sb, .slice bla bln blc, .slice bfa bfn bfc]] w _
    go_enter Try.func12, Try.ntmps12
    go_upto_region 1 with (fail)
    change Code.wp Try.prog _ _ _ ((w.alloc (.cells #[.int .i64 ak, .int .i64 an, sV sa, .slice ala l.length alc, .slice afa f.length afc] 25)).alloc (.cells #[.int .i64 bk, .int .i64 bn, sV sb, .slice bla bln blc, .slice bfa bfn bfc] 25))
    generalize ((w.alloc (.cells #[.int .i64 ak, .int .i64 an, sV sa, .slice ala l.length alc, .slice afa f.length afc] 25)).alloc (.cells #[.int .i64 bk, .int .i64 bn, sV sb, .slice bla bln blc, .slice bfa bfn bfc] 25)) = V0 at *
    have a0 := HO.out.2.1.cell (i := 0) rfl
    have a1 := HO.out.2.1.cell (i := 1) rfl
    have a2 := HO.out.2.1.cell (i := 2) rfl
    have a3 := HO.out.2.1.cell (i := 3) rfl
    have a4 := HO.out.2.1.cell (i := 4) rfl
    have b0 := HO.out.2.2.cell (i := 0) rfl
    have b1 := HO.out.2.2.cell (i := 1) rfl
    have b2 := HO.out.2.2.cell (i := 2) rfl
    have b3 := HO.out.2.2.cell (i := 3) rfl
    have b4 := HO.out.2.2.cell (i := 4) rfl
    by_cases e1 : ak = bk
    case neg =>
      have g1 : (ak != bk) = true := by rw [bne_iff_ne]; exact e1
      have HF : Hid (decide (cmpT (.mk ak an sa l f) (.mk bk bn sb l2 f2) = 0) = false) := Lib.hid (al_no (fun e => e1 (T.mk.inj e).1))
      go_wp2
      go_ret
      exact ⟨ret_bool (by rw [HF.out]), HO.out.1⟩
    subst e1
    by_cases e2 : an = bn
    case neg =>
      have g2 : (an != bn) = true := by rw [bne_iff_ne]; exact e2
      have HF : Hid (decide (cmpT (.mk ak an sa l f) (.mk ak bn sb l2 f2) = 0) = false) := Lib.hid (al_no (fun e => e2 (T.mk.inj e).2.1))
      go_wp2
      go_ret
      exact ⟨ret_bool (by rw [HF.out]), HO.out.1⟩
    subst e2
    by_cases e3 : sa = sb
    case neg =>
      have g3 : (sa == sb) = false := by simpa using e3
      have HF : Hid (decide (cmpT (.mk ak an sa l f) (.mk ak an sb l2 f2) = 0) = false) := Lib.hid (al_no (fun e => e3 (T.mk.inj e).2.2.1))
      go_wp2
      go_ret
      exact ⟨ret_bool (by rw [HF.out]), HO.out.1⟩
    subst e3
    by_cases e4 : bln = l.length
    case neg =>
      have g4 : ((l.length : Int) != (bln : Int)) = true := by rw [bne_iff_ne]; omega
      have HF : Hid (decide (cmpT (.mk ak an sa l f) (.mk ak an sa l2 f2) = 0) = false) := Lib.hid (al_no (fun e => e4 (by rw [HLE.out.1, (T.mk.inj e).2.2.2.1])))
      go_wp2
      go_ret
      exact ⟨ret_bool (by rw [HF.out]), HO.out.1⟩
    subst e4
    by_cases e5 : bfn = f.length
    case neg =>
      have g5 : ((f.length : Int) != (bfn : Int)) = true := by rw [bne_iff_ne]; omega
      have HF : Hid (decide (cmpT (.mk ak an sa l f) (.mk ak an sa l2 f2) = 0) = false) := Lib.hid (al_no (fun e => e5 (by rw [HLE.out.2, (T.mk.inj e).2.2.2.2])))
      go_wp2
      go_ret
      exact ⟨ret_bool (by rw [HF.out]), HO.out.1⟩
    subst e5
    go_wp2
    clear a0 a1 a2 a3 a4 b0 b1 b2 b3 b4
    go_loopg [5] l.length (fun g i wr => ∃ k : Nat, k ≤ l.length ∧ g = l.length - k ∧ i = .int .i64 k ∧ (Below w.heap.size w wr ∧ Own wr w.heap.size [.int .i64 ak, .int .i64 an, sV sa, .slice ala l.length alc, .slice afa f.length afc] 25 ∧ Own wr (w.heap.size + 1) [.int .i64 ak, .int .i64 an, sV sa, .slice bla l.length blc, .slice bfa f.length bfc] 25) ∧ Hid (l.take k = l2.take k))
    case atStart => exact ⟨0, Nat.zero_le _, rfl, rfl, HO.out, Lib.hid rfl⟩
    case round =>
      obtain ⟨k, hk, hg, rfl, hst, HE⟩ := hrel
      have HH := Lib.hid hst
      have HG := Lib.hid hg
      clear hg HO hst
      have p3 := HH.out.2.1.cell (i := 3) rfl
      have q3 := HH.out.2.2.cell (i := 3) rfl
      by_cases hlt : k < l.length
      · have hx := get_some hlt
        have hy : l2[k]? = some (l2[k]'(by have := HLE.out.1; omega)) := get_some (by have := HLE.out.1; omega)
        generalize l[k] = x at hx
        generalize l2[k]'(by have := HLE.out.1; omega) = y at hy
        obtain ⟨b, off, c, rfl, hbl, hIx, x0, x1, x2, x3, x4⟩ := HL.out.1.at HH.out.1 hx
        obtain ⟨b', off', d, rfl, hbl', hIy, y0, y1, y2, y3, y4⟩ := HL.out.2.2.1.at HH.out.1 hy
        have hsz : SizeOf.sizeOf x ≤ N := by have := sizeOf_l (k := ak) (n := an) (s := sa) (f := f) (List.mem_of_getElem? hx); have := HNN.out; omega
        obtain ⟨B, hB⟩ : ∃ B, decide (cmpT x y = 0) = B := ⟨_, rfl⟩
        have cC : ∀ dd os, Calls Try.prog 12 #[c.val, d.val] (grow (redrawn wr dd) os) fun e w'' => e = .returned (.bool B) ∧ ∃ p : Regrown, w'' = grow (redrawn wr p.d) p.os := fun dd os => Calls.regrown_of (by rw [← hB]; exact IH.out x y hsz c d _ (hIx.all (below_regrown wr dd os)) (hIy.all (below_regrown wr dd os)))
        have HX := Lib.hid (And.intro hx (And.intro hy hB))
        clear hx hy hB hIx hIy hsz
        have gp3 := cell_regrown p3
        have gq3 := cell_regrown q3
        have gx0 := cell_regrown x0
        have gx1 := cell_regrown x1
        have gx2 := cell_regrown x2
        have gx3 := cell_regrown x3
        have gx4 := cell_regrown x4
        have gy0 := cell_regrown y0
        have gy1 := cell_regrown y1
        have gy2 := cell_regrown y2
        have gy3 := cell_regrown y3
        have gy4 := cell_regrown y4
        go_upto_region 6 with (fail)
        refine wp_region_quiet_below (by kernel_rfl) (by kernel_rfl) ?_
        repeat (first | go_big_quiet_step ((with_reducible exact cC _ _)) | quiet_step ((with_reducible exact cC _ _)))
        refine wpQuiet_nil ?_
        intro _ hw'
        obtain ⟨⟨dq, osq⟩, hw''⟩ := hw'
        subst hw''
        have hbq := below_regrown wr dq osq
        have HQ := Lib.hid (And.intro (below_all HH.out.1 hbq) (And.intro (HH.out.2.1.all hbq) (HH.out.2.2.all hbq)))
        clear cC p3 q3 x0 x1 x2 x3 x4 y0 y1 y2 y3 y4 gp3 gq3 gx0 gx1 gx2 gx3 gx4 gy0 gy1 gy2 gy3 gy4 HH hbq
        generalize grow (redrawn wr dq) osq = W3 at *
        cases B with
        | true =>
          have HE2 := Lib.hid (take_get HE.out HX.out.1 HX.out.2.1 (cmpT_eq (of_decide_eq_true HX.out.2.2)))
          go_wp2
          go_roundg (l.length - (k + 1))
          case measure => have := HG.out; omega
          case rel => exact ⟨k + 1, by omega, rfl, by go_num, HQ.out, HE2⟩
        | false =>
          have HF : Hid (decide (cmpT (.mk ak an sa l f) (.mk ak an sa l2 f2) = 0) = false) := Lib.hid (al_no (fun e => by
            have e2 : l = l2 := (T.mk.inj e).2.2.2.1
            have h1 := HX.out.1; rw [e2, HX.out.2.1] at h1
            have h2 := HX.out.2.2; rw [decide_eq_false_iff_not] at h2
            exact h2 (by rw [Option.some.inj h1]; exact cmpT_refl _)))
          go_wp2
          go_ret
          exact ⟨ret_bool (by rw [HF.out]), HQ.out.1⟩
      · obtain rfl : k = l.length := by omega
        have p4 := HH.out.2.1.cell (i := 4) rfl
        have HLL : Hid (l = l2) := Lib.hid (by have h := HE.out; rw [List.take_length, HLE.out.1, List.take_length] at h; exact h)
        go_wp2
        clear p3 p4 q3 HE HG hlt hk
        go_loopg [6] f.length (fun g i wr => ∃ k : Nat, k ≤ f.length ∧ g = f.length - k ∧ i = .int .i64 k ∧ (Below w.heap.size w wr ∧ Own wr w.heap.size [.int .i64 ak, .int .i64 an, sV sa, .slice ala l.length alc, .slice afa f.length afc] 25 ∧ Own wr (w.heap.size + 1) [.int .i64 ak, .int .i64 an, sV sa, .slice bla l.length blc, .slice bfa f.length bfc] 25) ∧ Hid (f.take k = f2.take k))
        case atStart => exact ⟨0, Nat.zero_le _, rfl, rfl, HH.out, Lib.hid rfl⟩
        case round =>
          obtain ⟨k, hk, hg, rfl, hst, HE⟩ := hrel
          clear HH
          have HH := Lib.hid hst
          have HG := Lib.hid hg
          clear hg hst
          have p4 := HH.out.2.1.cell (i := 4) rfl
          by_cases hlt : k < f.length
          · have q4 := HH.out.2.2.cell (i := 4) rfl
            have hx := get_some hlt
            have hy : f2[k]? = some (f2[k]'(by have := HLE.out.2; omega)) := get_some (by have := HLE.out.2; omega)
            generalize f[k] = x at hx
            generalize f2[k]'(by have := HLE.out.2; omega) = y at hy
            obtain ⟨b, off, c, rfl, hbl, hIx, xx, x0, x1, x2, x3, x4⟩ := HL.out.2.1.at HH.out.1 hx
            obtain ⟨b', off', d, rfl, hbl', hIy, yy, y0, y1, y2, y3, y4⟩ := HL.out.2.2.2.at HH.out.1 hy
            have hsz : SizeOf.sizeOf x.2 ≤ N := by have := sizeOf_f (k := ak) (n := an) (s := sa) (l := l) (List.mem_of_getElem? hx); have := HNN.out; omega
            obtain ⟨B, hB⟩ : ∃ B, decide (cmpT x.2 y.2 = 0) = B := ⟨_, rfl⟩
            have cC : ∀ dd os, Calls Try.prog 12 #[c.val, d.val] (grow (redrawn wr dd) os) fun e w'' => e = .returned (.bool B) ∧ ∃ p : Regrown, w'' = grow (redrawn wr p.d) p.os := fun dd os => Calls.regrown_of (by rw [← hB]; exact IH.out x.2 y.2 hsz c d _ (hIx.all (below_regrown wr dd os)) (hIy.all (below_regrown wr dd os)))
            have HX := Lib.hid (And.intro hx (And.intro hy hB))
            clear hx hy hB hIx hIy hsz
            obtain ⟨xn, xt⟩ := x
            obtain ⟨yn, yt⟩ := y
            simp only at xx yy
            have gp4 := cell_regrown p4
            have gq4 := cell_regrown q4
            have gxx := cell_regrown xx
            have gyy := cell_regrown yy
            have gx0 := cell_regrown x0
            have gx1 := cell_regrown x1
            have gx2 := cell_regrown x2
            have gx3 := cell_regrown x3
            have gx4 := cell_regrown x4
            have gy0 := cell_regrown y0
            have gy1 := cell_regrown y1
            have gy2 := cell_regrown y2
            have gy3 := cell_regrown y3
            have gy4 := cell_regrown y4
            by_cases hn : xn = yn
            case neg =>
              have hnb : (xn == yn) = false := by simpa using hn
              have HF : Hid (decide (cmpT (.mk ak an sa l f) (.mk ak an sa l2 f2) = 0) = false) := Lib.hid (al_no (fun e => by
                have e2 : f = f2 := (T.mk.inj e).2.2.2.2
                have h1 := HX.out.1; rw [e2, HX.out.2.1] at h1
                exact hn (by have := Option.some.inj h1; simp at this; exact this.1.symm)))
              clear hn
              go_upto_region 11 with (fail)
              refine wp_region_quiet_below (by kernel_rfl) (by kernel_rfl) ?_
              repeat (first | go_big_quiet_step (fail) | quiet_step (fail))
              refine wpQuiet_nil ?_
              intro _ hw'
              obtain ⟨⟨dq, osq⟩, hw''⟩ := hw'
              subst hw''
              have hbq := below_regrown wr dq osq
              have HQ := Lib.hid (And.intro (below_all HH.out.1 hbq) (And.intro (HH.out.2.1.all hbq) (HH.out.2.2.all hbq)))
              clear cC HH hbq p4 q4 xx yy x0 x1 x2 x3 x4 y0 y1 y2 y3 y4 gp4 gq4 gxx gyy gx0 gx1 gx2 gx3 gx4 gy0 gy1 gy2 gy3 gy4
              generalize grow (redrawn wr dq) osq = W3 at *
              go_wp2
              go_ret
              exact ⟨ret_bool (by rw [HF.out]), HQ.out.1⟩
            subst hn
            go_upto_region 11 with (fail)
            refine wp_region_quiet_below (by kernel_rfl) (by kernel_rfl) ?_
            repeat (first | go_big_quiet_step ((with_reducible exact cC _ _)) | quiet_step ((with_reducible exact cC _ _)))
            refine wpQuiet_nil ?_
            intro _ hw'
            obtain ⟨⟨dq, osq⟩, hw''⟩ := hw'
            subst hw''
            have hbq := below_regrown wr dq osq
            have HQ := Lib.hid (And.intro (below_all HH.out.1 hbq) (And.intro (HH.out.2.1.all hbq) (HH.out.2.2.all hbq)))
            clear cC HH hbq p4 q4 xx yy x0 x1 x2 x3 x4 y0 y1 y2 y3 y4 gp4 gq4 gxx gyy gx0 gx1 gx2 gx3 gx4 gy0 gy1 gy2 gy3 gy4
            generalize grow (redrawn wr dq) osq = W3 at *
            cases B with
            | true =>
              have HE2 := Lib.hid (take_get HE.out HX.out.1 HX.out.2.1 (by rw [show xt = yt from cmpT_eq (of_decide_eq_true HX.out.2.2)]))
              go_wp2
              go_roundg (f.length - (k + 1))
              case measure => have := HG.out; omega
              case rel => exact ⟨k + 1, by omega, rfl, by go_num, HQ.out, HE2⟩
            | false =>
              have HF : Hid (decide (cmpT (.mk ak an sa l f) (.mk ak an sa l2 f2) = 0) = false) := Lib.hid (al_no (fun e => by
                have e2 : f = f2 := (T.mk.inj e).2.2.2.2
                have h1 := HX.out.1; rw [e2, HX.out.2.1] at h1
                have h2 := HX.out.2.2; rw [decide_eq_false_iff_not] at h2
                have h3 := Option.some.inj h1
                simp at h3
                exact h2 (by simp only; rw [h3]; exact cmpT_refl _)))
              go_wp2
              go_ret
              exact ⟨ret_bool (by rw [HF.out]), HQ.out.1⟩
          · obtain rfl : k = f.length := by omega
            have HF : Hid (decide (cmpT (.mk ak an sa l f) (.mk ak an sa l2 f2) = 0) = true) := Lib.hid (al_yes (by
              have h := HE.out
              rw [List.take_length, HLE.out.2, List.take_length] at h
              rw [HLL.out, h]))
            go_wp2
            go_ret
            exact ⟨ret_bool (by rw [HF.out]), HH.out.1⟩
end Go.Proofs.Ytinenbgdkchghaa
