/- The reference's Compatible. -/
import Derived.Test.YtinenbgdkchghaaId
import Derived.Test.YtinenbgdkchghaaEe
import Derived.Deep.RegionWith
import Derived.Deep.DeepCutAuto
set_option linter.unusedSimpArgs false
set_option linter.unusedVariables false
namespace Go.Proofs.Ytinenbgdkchghaa
open Go.RowKit Go.Sort Go.Proofs.LawFrame

def T.n : T → Int | .mk _ n _ _ _ => n
def T.s : T → Str | .mk _ _ s _ _ => s
def T.l : T → List T | .mk _ _ _ l _ => l
theorem cptT_leaf {t p : T} (h : ¬ kd t = 5) : cptT t p = true := by
  obtain ⟨k, n, s, l, f⟩ := t
  rw [cptT, if_neg (show ¬ k = 5 from h)]
theorem cptF_iff {A : List (Str × T)} : ∀ {f : List (Str × T)}, cptF f A = true ↔ ∀ e ∈ f, ∀ u, look e.1 A = some u → cptT e.2 u = true
  | [] => by rw [cptF]; simp
  | (x, t) :: r => by
    rw [cptF, Bool.and_eq_true, cptF_iff]
    constructor
    · rintro ⟨h1, h2⟩ e he u hu
      rcases List.mem_cons.1 he with rfl | he
      · rw [hu] at h1; exact h1
      · exact h2 e he u hu
    · intro h
      refine ⟨?_, fun e he => h e (List.mem_cons_of_mem _ he)⟩
      cases hu : look x A with
      | none => rfl
      | some u => exact h (x, t) (List.mem_cons_self) u hu
set_option maxHeartbeats 32000000 in
set_option maxRecDepth 4000 in
theorem compat_any : ∀ (N : Nat) (p v : T), SizeOf.sizeOf p ≤ N → v.size ≤ 4000 → ∀ (c d : VC) (w : World), Is w c v → Is w d p →
    Calls Try.prog 19 #[c.val, d.val] w fun e w' => e = .returned (.bool (cptT p v)) ∧ Below w.heap.size w w' := by
  intro N
  induction N with
  | zero => intro p v h; cases p; simp at h
  | succ N ih =>
    rintro p v hN hvz ⟨ck, cn, cs, cla, cln, clc, cfa, cfn, cfc⟩ ⟨dk, dn, ds, dla, dln, dlc, dfa, dfn, dfc⟩ w hI hJ
    have IH := Lib.hid ih
    have HS := Lib.hid (And.intro hN hvz)
    have HI0 := Lib.hid (And.intro hI hJ)
    have HDK := Lib.hid (show ck = kd v ∧ dk = kd p from ⟨is_kd hI, is_kd hJ⟩)
    clear ih hN hvz hI hJ
    have HO := Lib.hid (show Below w.heap.size w ((w.alloc (.cells #[.int .i64 ck, .int .i64 cn, sV cs, .slice cla cln clc, .slice cfa cfn cfc] 25)).alloc (.cells #[.int .i64 dk, .int .i64 dn, sV ds, .slice dla dln dlc, .slice dfa dfn dfc] 25)) ∧ Own ((w.alloc (.cells #[.int .i64 ck, .int .i64 cn, sV cs, .slice cla cln clc, .slice cfa cfn cfc] 25)).alloc (.cells #[.int .i64 dk, .int .i64 dn, sV ds, .slice dla dln dlc, .slice dfa dfn dfc] 25)) w.heap.size [.int .i64 ck, .int .i64 cn, sV cs, .slice cla cln clc, .slice cfa cfn cfc] 25 ∧ Own ((w.alloc (.cells #[.int .i64 ck, .int .i64 cn, sV cs, .slice cla cln clc, .slice cfa cfn cfc] 25)).alloc (.cells #[.int .i64 dk, .int .i64 dn, sV ds, .slice dla dln dlc, .slice dfa dfn dfc] 25)) (w.heap.size + 1) [.int .i64 dk, .int .i64 dn, sV ds, .slice dla dln dlc, .slice dfa dfn dfc] 25 from ⟨((Below.refl _ _).alloc (Nat.le_refl _) _).alloc (by simp) _, (Own.new _ _ _).alloc _, Own.new_at (by rw [size_alloc]) _ _⟩)
    show Calls Try.prog 19 #[.agg #[.int .i64 ck, .int .i64 cn, sV cs, .slice cla cln clc, .slice cfa cfn cfc], .agg #[.int .i64 dk, .int .i64 dn, sV ds, .slice dla dln dlc, .slice dfa dfn dfc]] w _
    go_enter Try.func19, Try.ntmps19
    go_upto_region 1 with (fail)
    change Code.wp Try.prog _ _ _ ((w.alloc (.cells #[.int .i64 ck, .int .i64 cn, sV cs, .slice cla cln clc, .slice cfa cfn cfc] 25)).alloc (.cells #[.int .i64 dk, .int .i64 dn, sV ds, .slice dla dln dlc, .slice dfa dfn dfc] 25))
    generalize ((w.alloc (.cells #[.int .i64 ck, .int .i64 cn, sV cs, .slice cla cln clc, .slice cfa cfn cfc] 25)).alloc (.cells #[.int .i64 dk, .int .i64 dn, sV ds, .slice dla dln dlc, .slice dfa dfn dfc] 25)) = V at *
    have y0 := HO.out.2.2.cell (i := 0) rfl
    by_cases h5 : kd p = 5
    case neg =>
      have e5 : (dk != 5) = true := by rw [bne_iff_ne, HDK.out.2]; exact h5
      have HF : Hid (cptT p v = true) := Lib.hid (cptT_leaf h5)
      clear h5
      go_wp2
      go_ret
      exact ⟨by rw [HF.out]; rfl, HO.out.1⟩
    have e5 : dk = 5 := by rw [HDK.out.2]; exact h5
    subst e5
    have x0 := HO.out.2.1.cell (i := 0) rfl
    have HT1 := Lib.hid (cptT_map (p := v) h5)
    by_cases hv5 : kd v = 5
    case neg =>
      have ec : (ck != 5) = true := by rw [bne_iff_ne, HDK.out.1]; exact hv5
      have HF : Hid (cptT p v = false) := Lib.hid (by rw [HT1.out, if_neg hv5])
      clear h5 hv5
      go_wp2
      go_ret
      exact ⟨by rw [HF.out]; rfl, HO.out.1⟩
    have ec : ck = 5 := by rw [HDK.out.1]; exact hv5
    subst ec
    obtain ⟨f, hfl⟩ : ∃ f, fls p = f := ⟨_, rfl⟩
    have HF : Hid (cptT p v = cptF f (fls v)) := Lib.hid (by rw [HT1.out, if_pos hv5, hfl])
    have hff : Flds w (.slice dfa dfn dfc) f := by have h := fvl_flds HI0.out.2; unfold fvl at h; rw [if_pos rfl, hfl] at h; exact h
    obtain rfl : dfn = f.length := hff.slice.1
    have hle := hff.slice.2.1
    have hcap := hff.slice.2.2
    unfold maxLen at hcap
    have HFF := Lib.hid hff
    have HPK := Lib.hid (show ∀ e ∈ f, SizeOf.sizeOf e.2 ≤ N from fun e he => by have h1 := kid_lt (t := p) (s := e.1) (u := e.2) (by rw [hfl]; exact he); have h2 := HS.out.1; omega)
    have HVM := Lib.hid (show v = .mk 5 v.n v.s v.l (fls v) from by obtain ⟨k', n', s', l', f'⟩ := v; rw [fls_is (show k' = 5 from hv5)]; simp only [T.n, T.s, T.l]; rw [show k' = 5 from hv5])
    clear hff hfl h5 hv5 HT1
    go_upto_region 5 with (fail)
    clear y0 x0
    go_upto_region 6 with (fail)
    go_loopg [5] f.length (fun g i wr => ∃ q : Nat, q ≤ f.length ∧ g = f.length - q ∧ i = .int .i64 q ∧ Below V.heap.size V wr ∧ Hid (∀ (j : Nat) (e : Str × T) (u : T), j < q → f[j]? = some e → look e.1 (fls v) = some u → cptT e.2 u = true))
    case atStart => exact ⟨0, Nat.zero_le _, rfl, rfl, Below.refl _ _, Lib.hid (fun j e u h => absurd h (by omega))⟩
    case round =>
      obtain ⟨q, hq, hg, rfl, hb, HM⟩ := hrel
      have HG := Lib.hid hg
      clear hg
      have hB := below_all HO.out.1 hb
      have oc := HO.out.2.1.all hb
      have od := HO.out.2.2.all hb
      have y4 := od.cell (i := 4) rfl
      by_cases hlt : q < f.length
      case neg =>
        obtain rfl : q = f.length := by omega
        have HT : Hid (cptT p v = true) := Lib.hid (by
          rw [HF.out, cptF_iff]
          intro e he u hu
          obtain ⟨j, hj⟩ := List.getElem?_of_mem he
          exact HM.out j e u (List.getElem?_eq_some_iff.1 hj).1 hj hu)
        clear oc od
        go_wp2
        go_ret
        exact ⟨by rw [HT.out]; rfl, hB⟩
      have hx := List.getElem?_eq_getElem hlt
      generalize f[q] = e at hx
      obtain ⟨b, off, z, hao, hbl, hz, y5, y0, y1, y2, y3, yy4⟩ := HFF.out.at (Below.refl _ _) hx
      subst hao
      have z5 := (hB.cell (p := ⟨b, off + q * 6, none⟩) hbl).trans y5
      have HZC := Lib.hid (show ∀ X, Below w.heap.size w X → X.cell? ⟨b, off + q * 6 + 1, none⟩ = some (.int .i64 z.k) ∧ X.cell? ⟨b, off + q * 6 + 2, none⟩ = some (.int .i64 z.n) ∧ X.cell? ⟨b, off + q * 6 + 3, none⟩ = some (sV z.s) ∧ X.cell? ⟨b, off + q * 6 + 4, none⟩ = some (.slice z.la z.ln z.lc) ∧ X.cell? ⟨b, off + q * 6 + 5, none⟩ = some (.slice z.fa z.fn z.fc) from fun X hX => ⟨(hX.cell (p := ⟨b, off + q * 6 + 1, none⟩) hbl).trans y0, (hX.cell (p := ⟨b, off + q * 6 + 2, none⟩) hbl).trans y1, (hX.cell (p := ⟨b, off + q * 6 + 3, none⟩) hbl).trans y2, (hX.cell (p := ⟨b, off + q * 6 + 4, none⟩) hbl).trans y3, (hX.cell (p := ⟨b, off + q * 6 + 5, none⟩) hbl).trans yy4⟩)
      replace hz := hz.all hB
      clear y5 y0 y1 y2 y3 yy4
      obtain ⟨pn, pt⟩ := e
      have HX := Lib.hid (And.intro hx (HPK.out _ (List.mem_of_getElem? hx)))
      obtain ⟨lu, hlu⟩ : ∃ lu, look pn (fls v) = lu := ⟨_, rfl⟩
      obtain ⟨B, hBl⟩ : ∃ B, lu.isSome = B := ⟨_, rfl⟩
      have HBL := Lib.hid (And.intro hlu hBl)
      have HC := Lib.hid (show ∀ X, Below w.heap.size w X → Calls Try.prog 21 #[.agg #[.int .i64 5, .int .i64 cn, sV cs, .slice cla cln clc, .slice cfa cfn cfc], sV pn] X fun e w' => ∃ c' : VC, e = .returned (.tuple #[c'.val, .bool B]) ∧ Below X.heap.size X w' ∧ IsA w' (fun b => X.heap.size ≤ b) c' (lu.getD T0) from fun X hX => by
        have h2 := HI0.out.1.all hX
        rw [HVM.out] at h2
        have h := rget_any _ 5 v.n v.s v.l (fls v) pn X h2 (fun z hz => by have h1 := kid_sz hz; have h2 := HS.out.2; omega)
        rw [show getK 5 pn (fls v) = lu from by rw [← hlu]; exact if_pos rfl, hBl] at h
        exact h)
      clear hlu hBl hx
      go_upto_region 8 with (fail)
      clear y4
      generalize wr = W at *
      have HW := Lib.hid (show Below w.heap.size w W ∧ Below V.heap.size V W ∧ Own W w.heap.size [.int .i64 5, .int .i64 cn, sV cs, .slice cla cln clc, .slice cfa cfn cfc] 25 ∧ Own W (w.heap.size + 1) [.int .i64 5, .int .i64 dn, sV ds, .slice dla dln dlc, .slice (some ⟨b, off, none⟩) f.length dfc] 25 ∧ Is W z pt from ⟨hB, hb, oc, od, hz⟩)
      clear hB hb oc od hz
      have hdr : Below W.heap.size W W.drew := (Below.refl _ _).drew
      have hal : Below W.heap.size W (W.alloc (.cells #[.int .i64 0, .int .i64 0, .string ⟨#[]⟩, .slice none 0 0, .slice none 0 0] 25)) := below_alloc W _
      have hal2 : Below W.heap.size W (W.alloc (.cells #[.int .i64 0, .int .i64 0, .string ⟨#[]⟩, .slice none 0 0, .slice none 0 0] 25)).drew := (below_alloc W _).drew
      have a0 := HW.out.2.2.1.cell (i := 0) rfl
      have a1 := HW.out.2.2.1.cell (i := 1) rfl
      have a2 := HW.out.2.2.1.cell (i := 2) rfl
      have a3 := HW.out.2.2.1.cell (i := 3) rfl
      have a4 := HW.out.2.2.1.cell (i := 4) rfl
      have y4 := HW.out.2.2.2.1.cell (i := 4) rfl
      have oD := HW.out.2.2.1.all hal
      have oY := HW.out.2.2.2.1.all hal
      have b0 := oD.cell (i := 0) rfl
      have b1 := oD.cell (i := 1) rfl
      have b2 := oD.cell (i := 2) rfl
      have b3 := oD.cell (i := 3) rfl
      have b4 := oD.cell (i := 4) rfl
      have b5 := oY.cell (i := 4) rfl
      have zd5 : (W.alloc (.cells #[.int .i64 0, .int .i64 0, .string ⟨#[]⟩, .slice none 0 0, .slice none 0 0] 25)).cell? ⟨b, off + q * 6, none⟩ = some (sV pn) := by
        obtain ⟨b2, off2, z2, e1, e2, e3, e4, -⟩ := HFF.out.at (below_all HW.out.1 hal) HX.out.1
        cases e1
        exact e4
      clear oD oY
      have hlb : w.heap.size < W.heap.size := HW.out.2.2.1.lt
      have hlb1 : ¬ w.heap.size = W.heap.size := by omega
      have hlb2 : ¬ W.heap.size = w.heap.size := by omega
      have hlc : w.heap.size + 1 < W.heap.size := HW.out.2.2.2.1.lt
      have hlc1 : ¬ w.heap.size + 1 = W.heap.size := by omega
      have hlc2 : ¬ W.heap.size = w.heap.size + 1 := by omega
      have hle1 : ¬ b = W.heap.size := by have := HW.out.1.size; omega
      have hle2 : ¬ W.heap.size = b := by have := HW.out.1.size; omega
      go_cut [6, 7] (fun s6 s7 wx => ∃ (bx : Nat) (c' : VC), s6 = .pointer (some ⟨bx, 0, none⟩) ∧ s7 = .bool B ∧ Below W.heap.size W wx ∧ Own wx bx c'.cells 25 ∧ Is wx c' (lu.getD T0))
      case first =>
        go_region_with (first
          | (refine (HC.out _ (by first | exact below_all HW.out.1 hdr | exact below_all HW.out.1 hal2)).mono ?_
             rintro _ ws ⟨⟨rk, rn, rs, rla, rln, rlc, rfa, rfn, rfc⟩, rfl, hbs, hIs⟩
             have HIS := Lib.hid hIs
             clear hIs
             first
               | (have oN0 : Own (W.alloc (.cells #[.int .i64 0, .int .i64 0, .string ⟨#[]⟩, .slice none 0 0, .slice none 0 0] 25)).drew W.heap.size [.int .i64 0, .int .i64 0, .string ⟨#[]⟩, .slice none 0 0, .slice none 0 0] 25 := (Own.new W [.int .i64 0, .int .i64 0, .string ⟨#[]⟩, .slice none 0 0, .slice none 0 0] 25).drew
                  have oN : Own ws W.heap.size [.int .i64 0, .int .i64 0, .string ⟨#[]⟩, .slice none 0 0, .slice none 0 0] 25 := oN0.all hbs
                  have q0 := oN.cell (i := 0) rfl; have q1 := oN.cell (i := 1) rfl; have q2 := oN.cell (i := 2) rfl; have q3 := oN.cell (i := 3) rfl; have q4 := oN.cell (i := 4) rfl; have f0 := oN.frozen 0; have f1 := oN.frozen 1; have f2 := oN.frozen 2; have f3 := oN.frozen 3; have f4 := oN.frozen 4
                  have HFN := Lib.hid (And.intro (own_put5 oN (.int .i64 rk) (.int .i64 rn) (sV rs) (.slice rla rln rlc) (.slice rfa rfn rfc)) (And.intro (below_put5 (b := W.heap.size) (below_all hal2 hbs) (Nat.le_refl _) (.int .i64 rk) (.int .i64 rn) (sV rs) (.slice rla rln rlc) (.slice rfa rfn rfc)) (HIS.out.put5 (b := W.heap.size) (by have := oN0.lt; omega) (.int .i64 rk) (.int .i64 rn) (sV rs) (.slice rla rln rlc) (.slice rfa rfn rfc))))
                  clear oN0 oN)
               | skip))
        all_goals (try go_wp2_with fail)
        all_goals (try go_meet)
        all_goals first
          | exact ⟨_, ⟨rk, rn, rs, rla, rln, rlc, rfa, rfn, rfc⟩, rfl, rfl, HFN.out.2.1, HFN.out.1, HFN.out.2.2.is⟩
          | exact ⟨_, ⟨rk, rn, rs, rla, rln, rlc, rfa, rfn, rfc⟩, rfl, rfl, below_all (below_all hdr hbs) (below_alloc _ _), Own.new _ _ _, HIS.out.is.all (below_alloc _ _)⟩
      case rest =>
      obtain ⟨bx, ⟨rk, rn, rs, rla, rln, rlc, rfa, rfn, rfc⟩, rfl, rfl, hbw, o9, hI9⟩ := hcut
      have HW2 := Lib.hid (show Below w.heap.size w wc ∧ Below V.heap.size V wc ∧ Own wc (w.heap.size + 1) [.int .i64 5, .int .i64 dn, sV ds, .slice dla dln dlc, .slice (some ⟨b, off, none⟩) f.length dfc] 25 ∧ Is wc z pt ∧ Own wc bx [.int .i64 rk, .int .i64 rn, sV rs, .slice rla rln rlc, .slice rfa rfn rfc] 25 ∧ Is wc ⟨rk, rn, rs, rla, rln, rlc, rfa, rfn, rfc⟩ (lu.getD T0) from ⟨below_all HW.out.1 hbw, below_all HW.out.2.1 hbw, HW.out.2.2.2.1.all hbw, HW.out.2.2.2.2.all hbw, o9, hI9⟩)
      clear HW hbw o9 hI9 hdr hal hal2 a0 a1 a2 a3 a4 y4 b0 b1 b2 b3 b4 b5 zd5 hlb hlb1 hlb2 hlc hlc1 hlc2 hle1 hle2 z5 HC
      cases lu with
      | none =>
        obtain rfl : B = false := HBL.out.2.symm
        have HNX := Lib.hid (show ∀ (j : Nat) (e : Str × T) (u : T), j < q + 1 → f[j]? = some e → look e.1 (fls v) = some u → cptT e.2 u = true from fun j e u hj he hu => by
          by_cases ej : j = q
          · subst ej; rw [HX.out.1] at he; cases he; rw [HBL.out.1] at hu; cases hu
          · exact HM.out j e u (by omega) he hu)
        go_upto_region 9 with (fail)
        have s0 := cell_regrown (HW2.out.2.2.2.2.1.cell (i := 0) rfl)
        have s1 := cell_regrown (HW2.out.2.2.2.2.1.cell (i := 1) rfl)
        have s2 := cell_regrown (HW2.out.2.2.2.2.1.cell (i := 2) rfl)
        have s3 := cell_regrown (HW2.out.2.2.2.2.1.cell (i := 3) rfl)
        have s4 := cell_regrown (HW2.out.2.2.2.2.1.cell (i := 4) rfl)
        have y4 := cell_regrown (HW2.out.2.2.1.cell (i := 4) rfl)
        obtain ⟨zz0, zz1, zz2, zz3, zz4⟩ : wc.cell? ⟨b, off + q * 6 + 1, none⟩ = some (.int .i64 z.k) ∧ wc.cell? ⟨b, off + q * 6 + 2, none⟩ = some (.int .i64 z.n) ∧ wc.cell? ⟨b, off + q * 6 + 3, none⟩ = some (sV z.s) ∧ wc.cell? ⟨b, off + q * 6 + 4, none⟩ = some (.slice z.la z.ln z.lc) ∧ wc.cell? ⟨b, off + q * 6 + 5, none⟩ = some (.slice z.fa z.fn z.fc) := HZC.out wc HW2.out.1
        have e0 := cell_regrown zz0
        have e1 := cell_regrown zz1
        have e2 := cell_regrown zz2
        have e3 := cell_regrown zz3
        have e4 := cell_regrown zz4
        clear zz0 zz1 zz2 zz3 zz4
        refine Dep.wp_region_multi 11 (fun i => i == 9) (fun ii _ uu ww => VV [] ii uu ww) (VS [] []) (fun i => []) (by kernel_rfl) (by kernel_rfl) (by kernel_rfl)
          (fun i xs u w1 w2 h hb => VV.up h hb) (VS.some _ _) ?_
        simp only [List.take_succ_cons, List.take_zero, List.drop_succ_cons, List.drop_zero]
        refine Dep.wpM_stretch 9 rfl rfl rfl rfl ?_
        simp only [List.take_succ_cons, List.take_zero, List.drop_succ_cons, List.drop_zero]
        repeat (first | go_big_quiet_step (fail) | quiet_step (fail))
        refine wpQuiet_nil ?_
        refine Dep.wpM_skip rfl rfl ?_
        refine Dep.wpM_stretch 1 rfl rfl rfl rfl ?_
        simp only [List.take_succ_cons, List.take_zero, List.drop_succ_cons, List.drop_zero]
        repeat (first | go_big_quiet_step (fail) | quiet_step (fail))
        refine wpQuiet_nil ?_
        refine Dep.wpM_end ?_
        rintro U hbU -
        have HU := Lib.hid (below_all HW2.out.2.1 hbU)
        have HBU := Lib.hid (below_all HW2.out.1 hbU)
        clear hbU
        clear s0 s1 s2 s3 s4 y4 e0 e1 e2 e3 e4
        go_wp2
        go_roundg (f.length - (q + 1))
        case measure => have := HG.out; omega
        case rel => exact ⟨q + 1, by omega, rfl, by go_num, HU.out, HNX⟩
      | some ot =>
        obtain rfl : B = true := HBL.out.2.symm
        obtain ⟨B2, hB2⟩ : ∃ B2, cptT pt ot = B2 := ⟨_, rfl⟩
        have HOT := Lib.hid (show ot.size ≤ 4000 from by have h1 := kid_szn (look_mem HBL.out.1); have h2 := HS.out.2; omega)
        go_upto_region 9 with (fail)
        have s0 := cell_regrown (HW2.out.2.2.2.2.1.cell (i := 0) rfl)
        have s1 := cell_regrown (HW2.out.2.2.2.2.1.cell (i := 1) rfl)
        have s2 := cell_regrown (HW2.out.2.2.2.2.1.cell (i := 2) rfl)
        have s3 := cell_regrown (HW2.out.2.2.2.2.1.cell (i := 3) rfl)
        have s4 := cell_regrown (HW2.out.2.2.2.2.1.cell (i := 4) rfl)
        have y4 := cell_regrown (HW2.out.2.2.1.cell (i := 4) rfl)
        obtain ⟨zz0, zz1, zz2, zz3, zz4⟩ : wc.cell? ⟨b, off + q * 6 + 1, none⟩ = some (.int .i64 z.k) ∧ wc.cell? ⟨b, off + q * 6 + 2, none⟩ = some (.int .i64 z.n) ∧ wc.cell? ⟨b, off + q * 6 + 3, none⟩ = some (sV z.s) ∧ wc.cell? ⟨b, off + q * 6 + 4, none⟩ = some (.slice z.la z.ln z.lc) ∧ wc.cell? ⟨b, off + q * 6 + 5, none⟩ = some (.slice z.fa z.fn z.fc) := HZC.out wc HW2.out.1
        have e0 := cell_regrown zz0
        have e1 := cell_regrown zz1
        have e2 := cell_regrown zz2
        have e3 := cell_regrown zz3
        have e4 := cell_regrown zz4
        clear zz0 zz1 zz2 zz3 zz4
        refine Dep.wp_region_multi 11 (fun i => i == 9) (fun ii _ uu ww => VV [] ii uu ww) (VS [] [(9, B2)]) (fun i => []) (by kernel_rfl) (by kernel_rfl) (by kernel_rfl)
          (fun i xs u w1 w2 h hb => VV.up h hb) (VS.some _ _) ?_
        simp only [List.take_succ_cons, List.take_zero, List.drop_succ_cons, List.drop_zero]
        refine Dep.wpM_stretch 9 rfl rfl rfl rfl ?_
        simp only [List.take_succ_cons, List.take_zero, List.drop_succ_cons, List.drop_zero]
        repeat (first | go_big_quiet_step (fail) | quiet_step (fail))
        refine wpQuiet_nil ?_
        refine Dep.wpM_dem rfl rfl rfl ?_ ?_
        · rintro _ ⟨pp, rfl⟩ hd
          go_simp
          simp only [demUpon]
          have hc := IH.out pt ot HX.out.2 HOT.out ⟨rk, rn, rs, rla, rln, rlc, rfa, rfn, rfc⟩ z _ (HW2.out.2.2.2.2.2.all (below_regrown wc pp.d pp.os)) (HW2.out.2.2.2.1.all (below_regrown wc pp.d pp.os))
          rw [hB2] at hc
          refine ⟨trivial, hc.mono ?_⟩
          rintro e wA ⟨rfl, hbA⟩
          exact ⟨_, rfl, rfl, hbA, trivial⟩
        rintro vv hvv
        obtain rfl : vv = .bool B2 := hvv
        try clear hvv
        refine Dep.wpM_stretch 1 rfl rfl rfl rfl ?_
        simp only [List.take_succ_cons, List.take_zero, List.drop_succ_cons, List.drop_zero]
        repeat (first | go_big_quiet_step (fail) | quiet_step (fail))
        refine wpQuiet_nil ?_
        refine Dep.wpM_end ?_
        rintro U hbU -
        have HU := Lib.hid (below_all HW2.out.2.1 hbU)
        have HBU := Lib.hid (below_all HW2.out.1 hbU)
        clear hbU
        clear s0 s1 s2 s3 s4 y4 e0 e1 e2 e3 e4
        cases B2 with
        | false =>
          have HT : Hid (cptT p v = false) := Lib.hid (by
            rw [HF.out]
            cases h : cptF f (fls v) with
            | false => rfl
            | true => have := (cptF_iff.1 h) _ (List.mem_of_getElem? HX.out.1) ot HBL.out.1; rw [hB2] at this; cases this)
          clear hB2
          go_wp2
          go_ret
          exact ⟨by rw [HT.out]; rfl, HBU.out⟩
        | true =>
          have HNX := Lib.hid (show ∀ (j : Nat) (e : Str × T) (u : T), j < q + 1 → f[j]? = some e → look e.1 (fls v) = some u → cptT e.2 u = true from fun j e u hj he hu => by
            by_cases ej : j = q
            · subst ej; rw [HX.out.1] at he; cases he; rw [HBL.out.1] at hu; cases hu; exact hB2
            · exact HM.out j e u (by omega) he hu)
          clear hB2
          go_wp2
          go_roundg (f.length - (q + 1))
          case measure => have := HG.out; omega
          case rel => exact ⟨q + 1, by omega, rfl, by go_num, HU.out, HNX⟩
end Go.Proofs.Ytinenbgdkchghaa
