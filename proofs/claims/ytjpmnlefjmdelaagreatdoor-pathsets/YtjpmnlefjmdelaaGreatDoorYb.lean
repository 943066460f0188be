/- The chapter's example of paths (lives). -/
import Derived.Test.YtjpmnlefjmdelaaGreatDoorYa
import Derived.Test.YtjpmnlefjmdelaaGreatDoorXiJ
import Derived.Test.YtjpmnlefjmdelaaGreatDoorXeJ
import Derived.Deep.RegionWith
import Derived.Deep.DeepCutAuto
import Derived.Deep.CutBlock
set_option linter.unusedSimpArgs false
set_option linter.unusedVariables false
namespace Go.Proofs.YtjpmnlefjmdelaaGreatDoor
open Go.RowKit Go.Sort Go.Proofs.LawFrame

/-- the world behind the example's two values -/
def eW (w1 : World) : World := (((((w1.alloc (.cells #[.string ⟨#[110]⟩, .int .i64 2, .int .i64 1, .string ⟨#[]⟩, .slice none 0 0, .slice none 0 0, .string ⟨#[110, 97, 109, 101]⟩, .int .i64 3, .int .i64 0, sV [120], .slice none 0 0, .slice none 0 0] 58)).alloc
  (.cells #[.int .i64 5, .int .i64 0, .string ⟨#[]⟩, .slice none 0 0, .slice (some ⟨w1.heap.size, 0, none⟩) 2 2] 25)).alloc
  (.cells #[.int .i64 5, .int .i64 0, .string ⟨#[]⟩, .slice none 0 0, .slice (some ⟨w1.heap.size, 0, none⟩) 2 2] 25)).alloc
  (.cells #[.string ⟨#[99]⟩, .int .i64 4, .int .i64 0, .string ⟨#[]⟩, .slice (some ⟨w1.heap.size + 1 + 1, 0, none⟩) 1 1, .slice none 0 0] 58)).alloc
  (.cells #[.int .i64 5, .int .i64 0, .string ⟨#[]⟩, .slice none 0 0, .slice (some ⟨w1.heap.size + 1 + 1 + 1, 0, none⟩) 1 1] 25))
theorem e_world (w1 : World) : Below w1.heap.size w1 (eW w1) ∧ Own (eW w1) (w1.heap.size + 1 + 1 + 1 + 1) [.int .i64 5, .int .i64 0, .string ⟨#[]⟩, .slice none 0 0, .slice (some ⟨w1.heap.size + 1 + 1 + 1, 0, none⟩) 1 1] 25 ∧
    Is (eW w1) ⟨5, 0, [], none, 0, 0, some ⟨w1.heap.size + 1 + 1 + 1, 0, none⟩, 1, 1⟩ eT := by
  have oA : Own (eW w1) w1.heap.size (FC.cells ⟨[110], ⟨2, 1, [], none, 0, 0, none, 0, 0⟩⟩ ++ FC.cells ⟨[110, 97, 109, 101], ⟨3, 0, [120], none, 0, 0, none, 0, 0⟩⟩) 58 := ((((Own.new _ _ _).alloc _).alloc _).alloc _).alloc _
  have oC : Own (eW w1) (w1.heap.size + 1 + 1) (VC.cells ⟨5, 0, [], none, 0, 0, some ⟨w1.heap.size, 0, none⟩, 2, 2⟩) 25 := ((Own.new_at (by rw [size_alloc, size_alloc]) _ _).alloc _).alloc _
  have oD : Own (eW w1) (w1.heap.size + 1 + 1 + 1) (FC.cells ⟨[99], ⟨4, 0, [], some ⟨w1.heap.size + 1 + 1, 0, none⟩, 1, 1, none, 0, 0⟩⟩) 58 := (Own.new_at (by rw [size_alloc, size_alloc, size_alloc]) _ _).alloc _
  refine ⟨?_, Own.new_at (by rw [size_alloc, size_alloc, size_alloc, size_alloc]) _ _, ?_⟩
  · unfold eW
    exact (((((Below.refl _ _).alloc (Nat.le_refl _) _).alloc (by simp) _).alloc (by simp; omega) _).alloc (by simp; omega) _).alloc (by simp; omega) _
  · exact is_mapP (flds_oneP oD (is_listP (vals_oneP oC (is_mapP (flds_twoP oA (is_leafP _ 2 1 []) (is_leafP _ 3 0 [120]))))))
theorem Is.parts {w : World} {c : VC} {k n : Int} {s : Str} {l : List T} {f : List (Str × T)} (h : Is w c (.mk k n s l f)) : c.k = k ∧ c.n = n ∧ c.s = s := by
  generalize ht : T.mk k n s l f = t at h
  cases h with
  | mk cs fs _ _ _ _ _ _ _ => cases ht; exact ⟨rfl, rfl, rfl⟩

set_option maxHeartbeats 8000000 in
set_option maxRecDepth 4000 in
theorem plives_any (w : World) : Calls Tryz.prog 23 #[] w fun e w' => e = .returned (.bool true) ∧ Below w.heap.size w w' := by
  go_enter Tryz.func23, Tryz.ntmps23
  go_wp2_with fail
  refine (text59_any [120] w).mono ?_
  rintro e w1 ⟨rfl, hb1⟩
  have HB1 := Lib.hid hb1
  clear hb1
  go_upto_region 3 with (fail)
  change Code.wp Tryz.prog _ _ _ (eW w1)
  obtain ⟨g1, g2, g3⟩ := e_world w1
  have HS := Lib.hid (And.intro (below_all HB1.out g1) (And.intro g2 g3))
  clear g1 g2 g3 HB1
  generalize eW w1 = V at *
  generalize w1.heap.size + 1 + 1 + 1 + 1 = bb at *
  generalize w1.heap.size + 1 + 1 + 1 = bf at *
  have C := Lib.hid (parsePath_any eS V (by decide))
  go_wp2_with fail
  refine C.out.mono ?_
  rintro e w2 hq
  clear C
  obtain ⟨v, he, hSt⟩ := hq.out
  rw [e_parse] at he hSt
  subst he
  have hb2 := hq.below
  obtain ⟨ao, cp, hv, hc, hm⟩ := Stps.form hSt
  have hv : v = .slice ao 3 cp := hv
  subst hv
  have hc : 3 ≤ cp := hc
  unfold maxLen at hm
  have HS2 := Lib.hid (And.intro (below_all HS.out.1 hb2) (And.intro (HS.out.2.1.all hb2) (And.intro (HS.out.2.2.all hb2) hSt)))
  clear HS hb2 hSt hq
  have C := Lib.hid (printPath_any _ eP w2 HS2.out.2.2.2 (by decide))
  rw [e_print] at C
  go_wp2_with fail
  refine C.out.mono ?_
  rintro e w3 ⟨rfl, hb3⟩
  clear C
  have HS3 := Lib.hid (And.intro (below_all HS2.out.1 hb3) (And.intro (HS2.out.2.1.all hb3) (And.intro (HS2.out.2.2.1.all hb3) (Flat.all HS2.out.2.2.2 hb3))))
  clear HS2 hb3
  have a0 := HS3.out.2.1.cell (i := 0) rfl
  have a1 := HS3.out.2.1.cell (i := 1) rfl
  have a2 := HS3.out.2.1.cell (i := 2) rfl
  have a3 := HS3.out.2.1.cell (i := 3) rfl
  have a4 := HS3.out.2.1.cell (i := 4) rfl
  have C := Lib.hid (pathGet_any ⟨5, 0, [], none, 0, 0, some ⟨bf, 0, none⟩, 1, 1⟩ eT _ eP w3 HS3.out.2.2.1 (by simp [eT, eI, T.size, sizeL, sizeF]) HS3.out.2.2.2 (by decide))
  go_wp2_with fail
  refine C.out.mono ?_
  rintro e w4 hg
  clear C a0 a1 a2 a3 a4
  obtain ⟨⟨ck, cn, cs, la, ln, lc, fa, fn, fc⟩, hi, rfl, -, -, hI⟩ := hg.ok e_ok _ e_get
  obtain ⟨-, rfl, -⟩ := Is.parts hI.is
  have hb4 := hg.below
  have hbA := below_alloc w4 (.cells #[.int .i64 ck, .int .i64 1, sV cs, .slice la ln lc, .slice fa fn fc] 25)
  have oA := Own.new w4 [.int .i64 ck, .int .i64 1, sV cs, .slice la ln lc, .slice fa fn fc] 25
  have hbB := below_all hb4 hbA
  have HS4 := Lib.hid (And.intro (below_all HS3.out.1 hbB) (And.intro (HS3.out.2.1.all hbB) (And.intro (HS3.out.2.2.1.all hbB) (And.intro (Flat.all HS3.out.2.2.2 hbB) oA))))
  clear HS3 hb4 hbA oA hbB hI hg
  go_upto_region 6 with (fail)
  change Code.wp Tryz.prog _ _ _ (w4.alloc (.cells #[.int .i64 ck, .int .i64 1, sV cs, .slice la ln lc, .slice fa fn fc] 25))
  generalize w4.alloc (.cells #[.int .i64 ck, .int .i64 1, sV cs, .slice la ln lc, .slice fa fn fc] 25) = W at *
  generalize w4.heap.size = gb at *
  have a0 := HS4.out.2.1.cell (i := 0) rfl
  have a1 := HS4.out.2.1.cell (i := 1) rfl
  have a2 := HS4.out.2.1.cell (i := 2) rfl
  have a3 := HS4.out.2.1.cell (i := 3) rfl
  have a4 := HS4.out.2.1.cell (i := 4) rfl
  have hdr : Below W.heap.size W W.drew := (Below.refl _ _).drew
  have oD := HS4.out.2.1.all (below_all hdr (below_alloc W.drew (.cells #[.int .i64 0, .int .i64 0, .string ⟨#[]⟩, .slice none 0 0, .slice none 0 0] 25)))
  have d0 := oD.cell (i := 0) rfl
  have d1 := oD.cell (i := 1) rfl
  have d2 := oD.cell (i := 2) rfl
  have d3 := oD.cell (i := 3) rfl
  have d4 := oD.cell (i := 4) rfl
  clear oD
  have hlb : bb < W.heap.size := HS4.out.2.1.lt
  have hlb2 : ¬ bb = W.heap.size := by omega
  have hlb3 : ¬ W.heap.size = bb := by omega
  go_cut [9, 10] (fun s9 s10 wx => ∃ (b : Nat) (c' : VC), s9 = .pointer (some ⟨b, 0, none⟩) ∧ s10 = .int .i64 0 ∧ Below W.heap.size W wx ∧ Own wx b c'.cells 25 ∧ Is wx c' eT2)
  case first =>
    go_region_with (first
      | (refine (text59_any [121] _).mono ?_
         rintro _ wt ⟨rfl, hbt⟩
         have oE : Own wt bb _ 25 := HS4.out.2.1.all (by first | exact below_all hdr hbt | exact below_all (below_all hdr (below_alloc _ _)) hbt)
         have oF := oE.alloc (.cells #[.int .i64 0, .int .i64 0, .string ⟨#[]⟩, .slice none 0 0, .slice none 0 0] 25)
         have e0 := oE.cell (i := 0) rfl; have e1 := oE.cell (i := 1) rfl; have e2 := oE.cell (i := 2) rfl; have e3 := oE.cell (i := 3) rfl; have e4 := oE.cell (i := 4) rfl; have h0 := oF.cell (i := 0) rfl; have h1 := oF.cell (i := 1) rfl; have h2 := oF.cell (i := 2) rfl; have h3 := oF.cell (i := 3) rfl; have h4 := oF.cell (i := 4) rfl
         have hle := oE.lt
         have hle2 : ¬ bb = wt.heap.size := by omega
         have hle3 : ¬ wt.heap.size = bb := by omega
         clear oE oF)
      | (refine (pathSet_any eP _ _ (Flat.all HS4.out.2.2.2.1 (by first | exact below_all hdr hbt | exact below_all (below_all hdr (below_alloc _ _)) hbt | exact below_all (below_all hdr hbt) (below_alloc _ _))) (by decide) ⟨5, 0, [], none, 0, 0, some ⟨bf, 0, none⟩, 1, 1⟩ ⟨3, 0, [121], none, 0, 0, none, 0, 0⟩ eT (.mk 3 0 [121] [] []) (HS4.out.2.2.1.all (by first | exact below_all hdr hbt | exact below_all (below_all hdr (below_alloc _ _)) hbt | exact below_all (below_all hdr hbt) (below_alloc _ _))) (is_leafP _ 3 0 [121])).mono ?_
         rintro _ ws hst
         obtain ⟨⟨rk, rn, rs, rla, rln, rlc, rfa, rfn, rfc⟩, he, hIs⟩ := hst.out
         rw [e_set2] at he hIs
         subst he
         have hbs := hst.below
         have HIS := Lib.hid hIs
         clear hIs hst
         first
           | (have oN0 : Own wt W.heap.size [.int .i64 0, .int .i64 0, .string ⟨#[]⟩, .slice none 0 0, .slice none 0 0] 25 := (Own.new W.drew [.int .i64 0, .int .i64 0, .string ⟨#[]⟩, .slice none 0 0, .slice none 0 0] 25).all hbt
              have oN : Own ws W.heap.size [.int .i64 0, .int .i64 0, .string ⟨#[]⟩, .slice none 0 0, .slice none 0 0] 25 := oN0.all hbs
              have q0 := oN.cell (i := 0) rfl; have q1 := oN.cell (i := 1) rfl; have q2 := oN.cell (i := 2) rfl; have q3 := oN.cell (i := 3) rfl; have q4 := oN.cell (i := 4) rfl; have f0 := oN.frozen 0; have f1 := oN.frozen 1; have f2 := oN.frozen 2; have f3 := oN.frozen 3; have f4 := oN.frozen 4
              have HFN := Lib.hid (And.intro (own_put5 oN (.int .i64 rk) (.int .i64 rn) (sV rs) (.slice rla rln rlc) (.slice rfa rfn rfc)) (And.intro (below_put5 (b := W.heap.size) (below_all (below_all (below_all hdr (below_alloc _ _)) hbt) hbs) (Nat.le_refl _) (.int .i64 rk) (.int .i64 rn) (sV rs) (.slice rla rln rlc) (.slice rfa rfn rfc)) (HIS.out.put5 (b := W.heap.size) (by have := oN0.lt; omega) (.int .i64 rk) (.int .i64 rn) (sV rs) (.slice rla rln rlc) (.slice rfa rfn rfc))))
              clear oN0 oN)
           | (have oN0 : Own (wt.alloc (.cells #[.int .i64 0, .int .i64 0, .string ⟨#[]⟩, .slice none 0 0, .slice none 0 0] 25)) wt.heap.size [.int .i64 0, .int .i64 0, .string ⟨#[]⟩, .slice none 0 0, .slice none 0 0] 25 := Own.new wt [.int .i64 0, .int .i64 0, .string ⟨#[]⟩, .slice none 0 0, .slice none 0 0] 25
              have oN : Own ws wt.heap.size [.int .i64 0, .int .i64 0, .string ⟨#[]⟩, .slice none 0 0, .slice none 0 0] 25 := oN0.all hbs
              have q0 := oN.cell (i := 0) rfl; have q1 := oN.cell (i := 1) rfl; have q2 := oN.cell (i := 2) rfl; have q3 := oN.cell (i := 3) rfl; have q4 := oN.cell (i := 4) rfl; have f0 := oN.frozen 0; have f1 := oN.frozen 1; have f2 := oN.frozen 2; have f3 := oN.frozen 3; have f4 := oN.frozen 4
              have HFN := Lib.hid (And.intro (own_put5 oN (.int .i64 rk) (.int .i64 rn) (sV rs) (.slice rla rln rlc) (.slice rfa rfn rfc)) (And.intro (below_put5 (b := wt.heap.size) (below_all (below_all (below_all hdr hbt) (below_alloc _ _)) hbs) (below_all hdr hbt).size (.int .i64 rk) (.int .i64 rn) (sV rs) (.slice rla rln rlc) (.slice rfa rfn rfc)) (HIS.out.put5 (b := wt.heap.size) (by have := oN0.lt; omega) (.int .i64 rk) (.int .i64 rn) (sV rs) (.slice rla rln rlc) (.slice rfa rfn rfc))))
              clear oN0 oN)
           | skip))
    all_goals (try go_wp2_with fail)
    all_goals (try go_meet)
    all_goals first
      | exact ⟨_, ⟨rk, rn, rs, rla, rln, rlc, rfa, rfn, rfc⟩, rfl, rfl, HFN.out.2.1, HFN.out.1, HFN.out.2.2.is⟩
      | exact ⟨_, ⟨rk, rn, rs, rla, rln, rlc, rfa, rfn, rfc⟩, rfl, rfl, below_all (below_all (below_all hdr hbt) hbs) (below_alloc _ _), Own.new _ _ _, HIS.out.is.all (below_alloc _ _)⟩
  case rest =>
    obtain ⟨b9, ⟨rk, rn, rs, rla, rln, rlc, rfa, rfn, rfc⟩, rfl, rfl, hbw, o9, hI9⟩ := hcut
    have HS6 := Lib.hid (And.intro (below_all HS4.out.1 hbw) (And.intro (HS4.out.2.1.all hbw) (And.intro (HS4.out.2.2.1.all hbw) (And.intro (Flat.all HS4.out.2.2.2.1 hbw) (And.intro (HS4.out.2.2.2.2.all hbw) (And.intro o9 hI9))))))
    clear HS4 hbw o9 hI9 a0 a1 a2 a3 a4 d0 d1 d2 d3 d4 hdr hlb hlb2 hlb3
    have r0 := HS6.out.2.2.2.2.2.1.cell (i := 0) rfl
    have r1 := HS6.out.2.2.2.2.2.1.cell (i := 1) rfl
    have r2 := HS6.out.2.2.2.2.2.1.cell (i := 2) rfl
    have r3 := HS6.out.2.2.2.2.2.1.cell (i := 3) rfl
    have r4 := HS6.out.2.2.2.2.2.1.cell (i := 4) rfl
    have C := Lib.hid (pathGet_any ⟨rk, rn, rs, rla, rln, rlc, rfa, rfn, rfc⟩ eT2 _ eP wc HS6.out.2.2.2.2.2.2 (by simp [eT2, eI2, T.size, sizeL, sizeF]) HS6.out.2.2.2.1 (by decide))
    go_wp2_with fail
    refine C.out.mono ?_
    rintro e w7 hg
    clear C r0 r1 r2 r3 r4
    obtain ⟨⟨yk, yn, ys, yla, yln, ylc, yfa, yfn, yfc⟩, hi, rfl, -, -, hI⟩ := hg.ok e_ok _ e_get2
    obtain ⟨-, -, rfl⟩ := Is.parts hI.is
    have hb7 := hg.below
    have hbA := below_alloc w7 (.cells #[.int .i64 yk, .int .i64 yn, sV [121], .slice yla yln ylc, .slice yfa yfn yfc] 25)
    have oA := Own.new w7 [.int .i64 yk, .int .i64 yn, sV [121], .slice yla yln ylc, .slice yfa yfn yfc] 25
    have hbB := below_all hb7 hbA
    have HS7 := Lib.hid (And.intro (below_all HS6.out.1 hbB) (And.intro (HS6.out.2.1.all hbB) (And.intro (HS6.out.2.2.1.all hbB) (And.intro (Flat.all HS6.out.2.2.2.1 hbB) (And.intro (HS6.out.2.2.2.2.1.all hbB) oA)))))
    clear HS6 hb7 hbA oA hbB hI hg
    go_upto_region 8 with (fail)
    change Code.wp Tryz.prog _ _ _ (w7.alloc (.cells #[.int .i64 yk, .int .i64 yn, sV [121], .slice yla yln ylc, .slice yfa yfn yfc] 25))
    generalize w7.alloc (.cells #[.int .i64 yk, .int .i64 yn, sV [121], .slice yla yln ylc, .slice yfa yfn yfc] 25) = V7 at *
    generalize w7.heap.size = yb at *
    have a0 := HS7.out.2.1.cell (i := 0) rfl
    have a1 := HS7.out.2.1.cell (i := 1) rfl
    have a2 := HS7.out.2.1.cell (i := 2) rfl
    have a3 := HS7.out.2.1.cell (i := 3) rfl
    have a4 := HS7.out.2.1.cell (i := 4) rfl
    have C := Lib.hid (pathRemove_any ⟨5, 0, [], none, 0, 0, some ⟨bf, 0, none⟩, 1, 1⟩ eT _ eP V7 HS7.out.2.2.1 (by simp [eT, eI, T.size, sizeL, sizeF]) HS7.out.2.2.2.1 (by decide))
    go_wp2_with fail
    refine C.out.mono ?_
    rintro e w8 hg
    clear C a0 a1 a2 a3 a4
    obtain ⟨⟨zk, zn, zs, zla, zln, zlc, zfa, zfn, zfc⟩, rfl, -⟩ := hg.ok ⟨by simp [eP], e_ok⟩ _ e_rem
    have hb8 := hg.below
    have hbA := below_alloc w8 (.cells #[.int .i64 zk, .int .i64 zn, sV zs, .slice zla zln zlc, .slice zfa zfn zfc] 25)
    have hbB := below_all hb8 hbA
    have HS8 := Lib.hid (And.intro (below_all HS7.out.1 hbB) (And.intro (Flat.all HS7.out.2.2.2.1 hbB) (And.intro (HS7.out.2.2.2.2.1.all hbB) (HS7.out.2.2.2.2.2.all hbB))))
    clear HS7 hb8 hbA hbB hg
    go_upto_region 9 with (fail)
    change Code.wp Tryz.prog _ _ _ (w8.alloc (.cells #[.int .i64 zk, .int .i64 zn, sV zs, .slice zla zln zlc, .slice zfa zfn zfc] 25))
    generalize w8.alloc (.cells #[.int .i64 zk, .int .i64 zn, sV zs, .slice zla zln zlc, .slice zfa zfn zfc] 25) = V8 at *
    generalize w8.heap.size = zb at *
    have C := Lib.hid (pathValid_any _ eP V8 HS8.out.2.1 (by decide))
    rw [e_ok] at C
    go_wp2_with fail
    refine C.out.mono ?_
    rintro e w9 ⟨rfl, hb9⟩
    clear C
    have HS9 := Lib.hid (And.intro (below_all HS8.out.1 hb9) (And.intro (Flat.all HS8.out.2.1 hb9) (And.intro (HS8.out.2.2.1.all hb9) (HS8.out.2.2.2.all hb9))))
    clear HS8 hb9
    have hc2 : 2 ≤ cp := by omega
    have C := Lib.hid (hasPrefix_any _ _ eP (eP.take 2) w9 HS9.out.2.1 (flatS_take HS9.out.2.1 (by decide)) (by decide) (by decide))
    rw [e_pre] at C
    go_wp2_with fail
    refine C.out.mono ?_
    rintro e w10 ⟨rfl, hb10⟩
    clear C
    have HS10 := Lib.hid (And.intro (below_all HS9.out.1 hb10) (And.intro (HS9.out.2.2.1.all hb10) (HS9.out.2.2.2.all hb10)))
    clear HS9 hb10
    have g1 := HS10.out.2.1.cell (i := 1) rfl
    have y2 := HS10.out.2.2.cell (i := 2) rfl
    go_wp2
    go_ret
    exact ⟨rfl, HS10.out.1⟩
end Go.Proofs.YtjpmnlefjmdelaaGreatDoor
