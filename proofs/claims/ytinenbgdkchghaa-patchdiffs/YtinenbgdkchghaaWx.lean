/- The contract of the reference's Compare and Equal. -/
import Derived.Test.YtinenbgdkchghaaWmJ
import Derived.Test.YtinenbgdkchghaaFrJ
import Derived.Deep.DeepCutAuto
import Derived.Deep.CutBlock
set_option linter.unusedSimpArgs false
set_option linter.unusedVariables false
namespace Go.Proofs.Ytinenbgdkchghaa
open Go.RowKit Go.Sort Go.Proofs.LawFrame

theorem lexi_assoc (a b c : Int) : lexi (lexi a b) c = lexi a (lexi b c) := by unfold lexi; split <;> simp_all
theorem lexi_zero (b : Int) : lexi 0 b = b := rfl
theorem lexi_ne {a b : Int} (h : ¬ a = 0) : lexi a b = a := by unfold lexi; rw [if_neg h]
theorem ord_int (x y : Int) : (if decide (x < y) = true then (-1 : Int) else if decide (y < x) = true then 1 else 0) = cmpI x y := by unfold cmpI; simp

set_option maxHeartbeats 4000000 in
set_option maxRecDepth 4000 in
theorem rcompare_any : ∀ (N : Nat) (t : T), SizeOf.sizeOf t ≤ N → ∀ (t' : T) (c d : VC) (w : World), Is w c t → Is w d t' →
    Calls Try.prog 44 #[c.val, d.val] w fun e w' => e = .returned (.int .i64 (cmpT t t')) ∧ Below w.heap.size w w' := by
  intro N
  induction N with
  | zero => rintro ⟨k, n, s, l, f⟩ h; simp at h
  | succ N ih =>
    rintro ⟨k, n, s, l, f⟩ hN ⟨k2, n2, s2, l2, f2⟩ ⟨k', n', s', la, ln, lc, fa, fn, fc⟩ ⟨k2', n2', s2', la2, ln2, lc2, fa2, fn2, fc2⟩ w hI hJ
    obtain ⟨rfl, rfl, rfl⟩ : k' = k ∧ n' = n ∧ s' = s := hI.same
    obtain ⟨rfl, rfl, rfl⟩ : k2' = k2 ∧ n2' = n2 ∧ s2' = s2 := hJ.same
    have hl := hI.vals
    have hf := hI.flds
    have hl2 := hJ.vals
    have hf2 := hJ.flds
    clear hI hJ
    obtain ⟨rfl, hlc, hlm⟩ := hl.slice
    obtain ⟨rfl, hfc, hfm⟩ := hf.slice
    obtain ⟨rfl, hlc2, hlm2⟩ := hl2.slice
    obtain ⟨rfl, hfc2, hfm2⟩ := hf2.slice
    unfold maxLen at hlm hfm hlm2 hfm2
    have HT : Hid (cmpT (.mk k' n' s' l f) (.mk k2' n2' s2' l2 f2) = lexi (lexi (lexi (lexi (cmpI k' k2') (cmpI n' n2')) (cmpS s' s2')) (lexL cmpT l l2)) (lexL cmpP f f2)) := Lib.hid (by rw [cmpT, cmpL_eq, cmpF_eq, lexi_assoc, lexi_assoc, lexi_assoc])
    generalize cmpT (.mk k' n' s' l f) (.mk k2' n2' s2' l2 f2) = TT at *
    have HL := Lib.hid (And.intro hl (And.intro hf (And.intro hl2 hf2)))
    clear hl hf hl2 hf2
    have hw0 : Below w.heap.size w ((w.alloc (.cells #[.int .i64 k', .int .i64 n', sV s', .slice la l.length lc, .slice fa f.length fc] 25)).alloc (.cells #[.int .i64 k2', .int .i64 n2', sV s2', .slice la2 l2.length lc2, .slice fa2 f2.length fc2] 25)) := ((Below.refl _ _).alloc (Nat.le_refl _) _).alloc (by simp) _
    have oA : Own ((w.alloc (.cells #[.int .i64 k', .int .i64 n', sV s', .slice la l.length lc, .slice fa f.length fc] 25)).alloc (.cells #[.int .i64 k2', .int .i64 n2', sV s2', .slice la2 l2.length lc2, .slice fa2 f2.length fc2] 25)) w.heap.size [.int .i64 k', .int .i64 n', sV s', .slice la l.length lc, .slice fa f.length fc] 25 := (Own.new _ _ _).alloc _
    have oB : Own ((w.alloc (.cells #[.int .i64 k', .int .i64 n', sV s', .slice la l.length lc, .slice fa f.length fc] 25)).alloc (.cells #[.int .i64 k2', .int .i64 n2', sV s2', .slice la2 l2.length lc2, .slice fa2 f2.length fc2] 25)) (w.heap.size + 1) [.int .i64 k2', .int .i64 n2', sV s2', .slice la2 l2.length lc2, .slice fa2 f2.length fc2] 25 := Own.new_at (by rw [size_alloc]) _ _
    go_enter Try.func44, Try.ntmps44
    go_wp2_with fail
    refine (order_any _ _ _).mono ?_
    rintro e w' ⟨rfl, rfl⟩
    rw [ord_int]
    generalize ((w.alloc (.cells #[.int .i64 k', .int .i64 n', sV s', .slice la l.length lc, .slice fa f.length fc] 25)).alloc (.cells #[.int .i64 k2', .int .i64 n2', sV s2', .slice la2 l2.length lc2, .slice fa2 f2.length fc2] 25)) = V0 at *
    have s1 := oA.cell (i := 1) rfl
    have s2 := oA.cell (i := 2) rfl
    have u1 := oB.cell (i := 1) rfl
    have u2 := oB.cell (i := 2) rfl
    have HO := Lib.hid (And.intro hw0 (And.intro oA oB))
    clear hw0 oA oB
    go_upto_if 20 with fail
    go_cut [5] (fun s5 wx => s5 = .int .i64 (lexi (cmpI k' k2') (cmpI n' n2')) ∧ wx = V0)
    case first =>
      by_cases e1 : cmpI k' k2' = 0
      · have z1 : (cmpI k' k2' == 0) = true := by rw [e1]; rfl
        have E1 := Lib.hid e1
        clear e1
        go_wp2_with fail
        refine (order_any _ _ _).mono ?_
        rintro e w' ⟨rfl, rfl⟩
        rw [ord_int]
        go_wp2_with fail
        go_meet
        exact ⟨int_eq (by rw [E1.out, lexi_zero]), rfl⟩
      · have z1 : (cmpI k' k2' == 0) = false := by rw [beq_eq_false_iff_ne]; exact e1
        have E1 := Lib.hid e1
        clear e1
        go_wp2_with fail
        go_meet
        exact ⟨int_eq (by rw [lexi_ne E1.out]), rfl⟩
    case rest =>
    obtain ⟨rfl, hwc⟩ := hcut
    subst hwc
    generalize hR2 : lexi (cmpI k' k2') (cmpI n' n2') = R2 at *
    clear hR2
    go_upto_if 33 with fail
    go_cut [5] (fun s5 wx => s5 = .int .i64 (lexi R2 (cmpS s' s2')) ∧ wx = wc)
    case first =>
      by_cases e1 : R2 = 0
      · have z1 : (R2 == 0) = true := by rw [e1]; rfl
        subst e1
        rcases good_str.tri s' s2' trivial trivial with hs | hs | hs
        · have b1 : Op.bytesLess s' s2' = true := less_iff.2 hs
          have HS := Lib.hid hs
          clear hs
          go_wp2_with fail
          refine (order_any _ _ _).mono ?_
          rintro e w' ⟨rfl, rfl⟩
          go_wp2_with fail
          go_meet
          exact ⟨int_eq (by rw [lexi_zero, HS.out]), rfl⟩
        · obtain rfl := cmpS_zero hs
          have b1 : Op.bytesLess s' s' = false := less_not.2 (by rw [hs]; omega)
          have HS := Lib.hid hs
          clear hs
          go_wp2_with fail
          refine (order_any _ _ _).mono ?_
          rintro e w' ⟨rfl, rfl⟩
          go_wp2_with fail
          go_meet
          exact ⟨int_eq (by rw [lexi_zero, HS.out]), rfl⟩
        · have b1 : Op.bytesLess s' s2' = false := less_not.2 (by rw [hs]; omega)
          have b2 : (s' == s2') = false := by rw [beq_eq_false_iff_ne]; rintro rfl; rw [cmpS_refl] at hs; omega
          have HS := Lib.hid hs
          clear hs
          go_wp2_with fail
          refine (order_any _ _ _).mono ?_
          rintro e w' ⟨rfl, rfl⟩
          go_wp2_with fail
          go_meet
          exact ⟨int_eq (by rw [lexi_zero, HS.out]), rfl⟩
      · have z1 : (R2 == 0) = false := by rw [beq_eq_false_iff_ne]; exact e1
        have E1 := Lib.hid e1
        clear e1
        go_wp2_with fail
        go_meet
        exact ⟨int_eq (by rw [lexi_ne E1.out]), rfl⟩
    case rest =>
    obtain ⟨rfl, hwc⟩ := hcut
    subst hwc
    generalize hR3 : lexi R2 (cmpS s' s2') = R3 at *
    clear hR3 s1 s2 u1 u2
    go_upto_block 0 with fail
    go_cut [5, 6] (fun s5 s6 wx => ∃ (r : Int) (k : Nat), s5 = .int .i64 r ∧ k ≤ l.length ∧ k ≤ l2.length ∧ (r = 0 → k = l.length ∨ k = l2.length) ∧ lexi r (lexL cmpT (l.drop k) (l2.drop k)) = lexi R3 (lexL cmpT l l2) ∧ Below w.heap.size w wx ∧ Own wx w.heap.size [.int .i64 k', .int .i64 n', sV s', .slice la l.length lc, .slice fa f.length fc] 25 ∧ Own wx (w.heap.size + 1) [.int .i64 k2', .int .i64 n2', sV s2', .slice la2 l2.length lc2, .slice fa2 f2.length fc2] 25)
    case first =>
      go_wp2
      go_loopg [5, 6] l.length (fun g s5 s6 wr => ∃ (r : Int) (k : Nat), k ≤ l.length ∧ k ≤ l2.length ∧ g = l.length - k ∧ s5 = .int .i64 r ∧ s6 = .int .i64 k ∧ Hid (lexi r (lexL cmpT (l.drop k) (l2.drop k)) = lexi R3 (lexL cmpT l l2)) ∧ Below w.heap.size w wr ∧ Own wr w.heap.size [.int .i64 k', .int .i64 n', sV s', .slice la l.length lc, .slice fa f.length fc] 25 ∧ Own wr (w.heap.size + 1) [.int .i64 k2', .int .i64 n2', sV s2', .slice la2 l2.length lc2, .slice fa2 f2.length fc2] 25)
      case atStart =>
        obtain ⟨h1, h2, h3⟩ := HO.out
        exact ⟨R3, 0, Nat.zero_le _, Nat.zero_le _, rfl, rfl, rfl, Lib.hid (by simp), h1, h2, h3⟩
      case round =>
        obtain ⟨r, k, hk, hk2, hg, rfl, rfl, HE, hb, oA, oB⟩ := hrel
        have HG := Lib.hid hg
        clear hg HO
        have p3 : wr.cell? ⟨w.heap.size, 3, none⟩ = some (.slice la l.length lc) := oA.cell rfl
        have q3 : wr.cell? ⟨w.heap.size + 1, 3, none⟩ = some (.slice la2 l2.length lc2) := oB.cell rfl
        by_cases hlt : k < l.length
        case neg =>
          have hge : ¬ (k : Int) < l.length := by omega
          go_wp2_with fail
          go_meet
          exact ⟨r, k, rfl, hk, hk2, by omega, HE.out, hb, oA, oB⟩
        by_cases hlt2 : k < l2.length
        case neg =>
          have hge : ¬ (k : Int) < l2.length := by omega
          go_wp2_with fail
          go_meet
          exact ⟨r, k, rfl, hk, hk2, by omega, HE.out, hb, oA, oB⟩
        by_cases hr : r = 0
        case neg =>
          have hrz : (r == 0) = false := by rw [beq_eq_false_iff_ne]; exact hr
          go_wp2_with fail
          go_meet
          exact ⟨r, k, rfl, hk, hk2, by omega, HE.out, hb, oA, oB⟩
        subst hr
        have hx := get_some hlt
        have hdx := List.drop_eq_getElem_cons hlt
        generalize l[k] = x at hx hdx
        have hy := get_some hlt2
        have hdy := List.drop_eq_getElem_cons hlt2
        generalize l2[k] = y at hy hdy
        obtain ⟨b, off, c, rfl, hbl, hIx, x0, x1, x2, x3, x4⟩ := HL.out.1.at hb hx
        obtain ⟨b', off', d, rfl, hbl', hIy, y0, y1, y2, y3, y4⟩ := HL.out.2.2.1.at hb hy
        have hsz : SizeOf.sizeOf x ≤ N := by have := sizeOf_l (k := k') (n := n') (s := s') (f := f) (List.mem_of_getElem? hx); omega
        have cC : ∀ dd os, Calls Try.prog 44 #[c.val, d.val] (grow (redrawn wr dd) os) fun e w'' => e = .returned (.int .i64 (cmpT x y)) ∧ ∃ p : Regrown, w'' = grow (redrawn wr p.d) p.os := fun dd os => Calls.regrown_of (ih x hsz y c d _ (hIx.all (below_regrown wr dd os)) (hIy.all (below_regrown wr dd os)))
        have HX := Lib.hid (And.intro hdx hdy)
        clear hdx hdy hx hy hIx hIy ih
        have gp := cell_regrown p3
        have gq := cell_regrown q3
        have gx0 := cell_regrown x0
        have gy0 := cell_regrown y0
        have gx1 := cell_regrown x1
        have gy1 := cell_regrown y1
        have gx2 := cell_regrown x2
        have gy2 := cell_regrown y2
        have gx3 := cell_regrown x3
        have gy3 := cell_regrown y3
        have gx4 := cell_regrown x4
        have gy4 := cell_regrown y4
        go_wp2
        refine wp_region_quiet_below (by kernel_rfl) (by kernel_rfl) ?_
        repeat (first | go_big_quiet_step ((with_reducible exact cC _ _)) | quiet_step (with_reducible exact cC _ _))
        refine wpQuiet_nil ?_
        intro _ hw'
        obtain ⟨⟨dq, osq⟩, hw''⟩ := hw'
        subst hw''
        have hb1 := below_all hb (below_regrown wr dq osq)
        have oA1 := oA.all (below_regrown wr dq osq)
        have oB1 := oB.all (below_regrown wr dq osq)
        clear cC gp gq p3 q3 x0 x1 x2 x3 x4 y0 y1 y2 y3 y4 gx0 gy0 gx1 gy1 gx2 gy2 gx3 gy3 gx4 gy4 hb oA oB
        go_wp2
        go_roundg (l.length - (k + 1))
        case measure => have := HG.out; omega
        case rel => exact ⟨cmpT x y, k + 1, by omega, by omega, rfl, rfl, by go_num, Lib.hid (by rw [← HE.out, HX.out.1, HX.out.2, lexi_zero]; rfl), hb1, oA1, oB1⟩
    case rest =>
    obtain ⟨r, k, rfl, hk, hk2, hr0, hE, hb, oA, oB⟩ := hcut
    clear HO
    have p3 : wc.cell? ⟨w.heap.size, 3, none⟩ = some (.slice la l.length lc) := oA.cell rfl
    have q3 : wc.cell? ⟨w.heap.size + 1, 3, none⟩ = some (.slice la2 l2.length lc2) := oB.cell rfl
    have HO := Lib.hid (And.intro hb (And.intro oA oB))
    clear hb oA oB
    have HE := Lib.hid (And.intro hr0 hE)
    clear hr0 hE
    go_upto_if 75 with fail
    go_cut [5] (fun s5 wx => s5 = .int .i64 (lexi R3 (lexL cmpT l l2)) ∧ wx = wc)
    case first =>
      by_cases hr : r = 0
      · subst hr
        have HF : Hid (lexL cmpT (l.drop k) (l2.drop k) = if l.length < l2.length then -1 else if l2.length < l.length then 1 else 0) := Lib.hid (by
          rcases HE.out.1 rfl with h | h
          · subst h
            rw [List.drop_length]
            rcases Nat.lt_or_ge l.length l2.length with h' | h'
            · rw [List.drop_eq_getElem_cons h', lexL, if_pos h']
            · rw [List.drop_eq_nil_of_le (by omega), lexL, if_neg (by omega), if_neg (by omega)]
          · subst h
            rw [List.drop_length]
            rcases Nat.lt_or_ge l2.length l.length with h' | h'
            · rw [List.drop_eq_getElem_cons h', lexL, if_neg (by omega), if_pos h']
            · rw [List.drop_eq_nil_of_le (by omega), lexL, if_neg (by omega), if_neg (by omega)])
        rcases (show l.length < l2.length ∨ l.length = l2.length ∨ l2.length < l.length by omega) with hc | hc | hc
        · go_wp2_with fail
          refine (order_any _ _ _).mono ?_
          rintro e w' ⟨rfl, rfl⟩
          go_wp2_with fail
          go_meet
          exact ⟨int_eq (by rw [← HE.out.2, lexi_zero, HF.out, if_pos hc]), rfl⟩
        · have hc1 : ¬ (l.length : Int) < l2.length := by omega
          have hc2 : ¬ (l2.length : Int) < l.length := by omega
          have HC := Lib.hid hc
          clear hc
          go_wp2_with fail
          refine (order_any _ _ _).mono ?_
          rintro e w' ⟨rfl, rfl⟩
          go_wp2_with fail
          go_meet
          exact ⟨int_eq (by rw [← HE.out.2, lexi_zero, HF.out, if_neg (by have := HC.out; omega), if_neg (by have := HC.out; omega)]), rfl⟩
        · have hc1 : ¬ (l.length : Int) < l2.length := by omega
          go_wp2_with fail
          refine (order_any _ _ _).mono ?_
          rintro e w' ⟨rfl, rfl⟩
          go_wp2_with fail
          go_meet
          exact ⟨int_eq (by rw [← HE.out.2, lexi_zero, HF.out, if_neg (by omega), if_pos hc]), rfl⟩
      · have hrz : (r == 0) = false := by rw [beq_eq_false_iff_ne]; exact hr
        have HR := Lib.hid hr
        clear hr
        go_wp2_with fail
        go_meet
        exact ⟨int_eq (by rw [← HE.out.2, lexi_ne HR.out]), rfl⟩
    case rest =>
    obtain ⟨rfl, hwc⟩ := hcut
    subst hwc
    generalize hR4 : lexi R3 (lexL cmpT l l2) = R4 at *
    clear hR4 p3 q3 HE
    go_upto_block 2 with fail
    go_cut [5, 7] (fun s5 s6 wx => ∃ (r : Int) (k : Nat), s5 = .int .i64 r ∧ k ≤ f.length ∧ k ≤ f2.length ∧ (r = 0 → k = f.length ∨ k = f2.length) ∧ lexi r (lexL cmpP (f.drop k) (f2.drop k)) = lexi R4 (lexL cmpP f f2) ∧ Below w.heap.size w wx ∧ Own wx w.heap.size [.int .i64 k', .int .i64 n', sV s', .slice la l.length lc, .slice fa f.length fc] 25 ∧ Own wx (w.heap.size + 1) [.int .i64 k2', .int .i64 n2', sV s2', .slice la2 l2.length lc2, .slice fa2 f2.length fc2] 25)
    case first =>
      go_wp2
      go_loopg [5, 7] f.length (fun g s5 s6 wr => ∃ (r : Int) (k : Nat), k ≤ f.length ∧ k ≤ f2.length ∧ g = f.length - k ∧ s5 = .int .i64 r ∧ s6 = .int .i64 k ∧ Hid (lexi r (lexL cmpP (f.drop k) (f2.drop k)) = lexi R4 (lexL cmpP f f2)) ∧ Below w.heap.size w wr ∧ Own wr w.heap.size [.int .i64 k', .int .i64 n', sV s', .slice la l.length lc, .slice fa f.length fc] 25 ∧ Own wr (w.heap.size + 1) [.int .i64 k2', .int .i64 n2', sV s2', .slice la2 l2.length lc2, .slice fa2 f2.length fc2] 25)
      case atStart =>
        obtain ⟨h1, h2, h3⟩ := HO.out
        exact ⟨R4, 0, Nat.zero_le _, Nat.zero_le _, rfl, rfl, rfl, Lib.hid (by simp), h1, h2, h3⟩
      case round =>
        clear hk hk2
        obtain ⟨r, k, hk, hk2, hg, rfl, rfl, HE, hb, oA, oB⟩ := hrel
        have HG := Lib.hid hg
        clear hg HO
        have p4 : wr.cell? ⟨w.heap.size, 4, none⟩ = some (.slice fa f.length fc) := oA.cell rfl
        have q4 : wr.cell? ⟨w.heap.size + 1, 4, none⟩ = some (.slice fa2 f2.length fc2) := oB.cell rfl
        by_cases hlt : k < f.length
        case neg =>
          have hge : ¬ (k : Int) < f.length := by omega
          go_wp2_with fail
          go_meet
          exact ⟨r, k, rfl, hk, hk2, by omega, HE.out, hb, oA, oB⟩
        by_cases hlt2 : k < f2.length
        case neg =>
          have hge : ¬ (k : Int) < f2.length := by omega
          go_wp2_with fail
          go_meet
          exact ⟨r, k, rfl, hk, hk2, by omega, HE.out, hb, oA, oB⟩
        by_cases hr : r = 0
        case neg =>
          have hrz : (r == 0) = false := by rw [beq_eq_false_iff_ne]; exact hr
          go_wp2_with fail
          go_meet
          exact ⟨r, k, rfl, hk, hk2, by omega, HE.out, hb, oA, oB⟩
        subst hr
        have hx := get_some hlt
        have hdx := List.drop_eq_getElem_cons hlt
        generalize f[k] = x at hx hdx
        have hy := get_some hlt2
        have hdy := List.drop_eq_getElem_cons hlt2
        generalize f2[k] = y at hy hdy
        obtain ⟨b, off, c, rfl, hbl, hIx, x0, x1, x2, x3, x4, x5⟩ := HL.out.2.1.at hb hx
        obtain ⟨b', off', d, rfl, hbl', hIy, y0, y1, y2, y3, y4, y5⟩ := HL.out.2.2.2.at hb hy
        have hsz : SizeOf.sizeOf x.2 ≤ N := by have := sizeOf_f (k := k') (n := n') (s := s') (l := l) (List.mem_of_getElem? hx); omega
        have IH := Lib.hid (ih x.2 hsz)
        have HX := Lib.hid (And.intro hdx hdy)
        have HPQ := Lib.hid (And.intro hx hy)
        clear hdx hdy hx hy ih
        have gp := cell_regrown p4
        have gq := cell_regrown q4
        have gx0 := cell_regrown x0
        have gy0 := cell_regrown y0
        have gx1 := cell_regrown x1
        have gy1 := cell_regrown y1
        have gx2 := cell_regrown x2
        have gy2 := cell_regrown y2
        have gx3 := cell_regrown x3
        have gy3 := cell_regrown y3
        have gx4 := cell_regrown x4
        have gy4 := cell_regrown y4
        have gx5 := cell_regrown x5
        have gy5 := cell_regrown y5
        rcases good_str.tri x.1 y.1 trivial trivial with hs | hs | hs
        · skip
          have b1 : Op.bytesLess x.1 y.1 = true := less_iff.2 hs
          have cO : ∀ dd os, Calls Try.prog 51 #[.bool true, .bool false] (grow (redrawn wr dd) os) fun e w'' => e = .returned (.int .i64 (-1)) ∧ ∃ p : Regrown, w'' = grow (redrawn wr p.d) p.os := fun dd os => (order_any _ _ _).mono (fun e w'' h => ⟨h.1, ⟨⟨dd, os⟩, h.2.symm⟩⟩)
          have HS := Lib.hid hs
          clear hs
          go_wp2
          refine wp_region_quiet_below (by kernel_rfl) (by kernel_rfl) ?_
          repeat (first | go_big_quiet_step ((with_reducible exact cO _ _)) | quiet_step (with_reducible exact cO _ _))
          refine wpQuiet_nil ?_
          intro _ hw'
          obtain ⟨⟨dq, osq⟩, hw''⟩ := hw'
          subst hw''
          have hb1 := below_all hb (below_regrown wr dq osq)
          have oA1 := oA.all (below_regrown wr dq osq)
          have oB1 := oB.all (below_regrown wr dq osq)
          clear cO gp gq p4 q4 gx0 gy0 gx1 gy1 gx2 gy2 gx3 gy3 gx4 gy4 gx5 gy5 x0 y0 x1 y1 x2 y2 x3 y3 x4 y4 x5 y5 hb oA oB
          go_wp2
          go_roundg (f.length - (k + 1))
          case measure => have := HG.out; omega
          case rel => exact ⟨-1, k + 1, by omega, by omega, rfl, rfl, by go_num, Lib.hid (by rw [← HE.out, HX.out.1, HX.out.2, lexi_zero, lexL, cmpP, HS.out]; rfl), hb1, oA1, oB1⟩
        · skip
          have b1 : Op.bytesLess x.1 y.1 = false := less_not.2 (by rw [hs]; omega)
          have b2 : (x.1 == y.1) = true := by rw [cmpS_zero hs]; simp
          have cO : ∀ dd os, Calls Try.prog 51 #[.bool false, .bool false] (grow (redrawn wr dd) os) fun e w'' => e = .returned (.int .i64 (0)) ∧ ∃ p : Regrown, w'' = grow (redrawn wr p.d) p.os := fun dd os => (order_any _ _ _).mono (fun e w'' h => ⟨h.1, ⟨⟨dd, os⟩, h.2.symm⟩⟩)
          have HS := Lib.hid hs
          clear hs
          go_wp2
          refine wp_region_quiet_below (by kernel_rfl) (by kernel_rfl) ?_
          repeat (first | go_big_quiet_step ((with_reducible exact cO _ _)) | quiet_step (with_reducible exact cO _ _))
          refine wpQuiet_nil ?_
          intro _ hw'
          obtain ⟨⟨dq, osq⟩, hw''⟩ := hw'
          subst hw''
          have hb1 := below_all hb (below_regrown wr dq osq)
          have oA1 := oA.all (below_regrown wr dq osq)
          have oB1 := oB.all (below_regrown wr dq osq)
          have hIx1 := hIx.all (below_regrown wr dq osq)
          have hIy1 := hIy.all (below_regrown wr dq osq)
          have hfb := HL.out.2.1.at hb1 HPQ.out.1
          clear cO gp gq p4 q4 gx0 gy0 gx1 gy1 gx2 gy2 gx3 gy3 gx4 gy4 gx5 gy5 x0 y0 x1 y1 x2 y2 x3 y3 x4 y4 x5 y5 hb oA oB hfb
          generalize grow (redrawn wr dq) osq = V at *
          have p4 : V.cell? ⟨w.heap.size, 4, none⟩ = some (.slice (some ⟨b, off, none⟩) f.length fc) := oA1.cell rfl
          have q4 : V.cell? ⟨w.heap.size + 1, 4, none⟩ = some (.slice (some ⟨b', off', none⟩) f2.length fc2) := oB1.cell rfl
          obtain ⟨bb, oo, c1, e1, -, hI1, x0, x1, x2, x3, x4, x5⟩ := HL.out.2.1.at hb1 HPQ.out.1
          obtain ⟨bb', oo', d1, e2, -, hI2, y0, y1, y2, y3, y4, y5⟩ := HL.out.2.2.2.at hb1 HPQ.out.2
          cases e1
          cases e2
          have cC : ∀ dd os, Calls Try.prog 44 #[c1.val, d1.val] (grow (redrawn V dd) os) fun e w'' => e = .returned (.int .i64 (cmpT x.2 y.2)) ∧ ∃ p : Regrown, w'' = grow (redrawn V p.d) p.os := fun dd os => Calls.regrown_of (IH.out y.2 c1 d1 _ (hI1.all (below_regrown V dd os)) (hI2.all (below_regrown V dd os)))
          have gp := cell_regrown p4
          have gq := cell_regrown q4
          have gx0 := cell_regrown x0
          have gy0 := cell_regrown y0
          have gx1 := cell_regrown x1
          have gy1 := cell_regrown y1
          have gx2 := cell_regrown x2
          have gy2 := cell_regrown y2
          have gx3 := cell_regrown x3
          have gy3 := cell_regrown y3
          have gx4 := cell_regrown x4
          have gy4 := cell_regrown y4
          have gx5 := cell_regrown x5
          have gy5 := cell_regrown y5
          clear hI1 hI2 hIx1 hIy1
          go_wp2
          refine wp_region_quiet_below (by kernel_rfl) (by kernel_rfl) ?_
          repeat (first | go_big_quiet_step ((with_reducible exact cC _ _)) | quiet_step (with_reducible exact cC _ _))
          refine wpQuiet_nil ?_
          intro _ hw'
          obtain ⟨⟨dr, osr⟩, hw''⟩ := hw'
          subst hw''
          have hb2 := below_all hb1 (below_regrown V dr osr)
          have oA2 := oA1.all (below_regrown V dr osr)
          have oB2 := oB1.all (below_regrown V dr osr)
          clear cC gp gq p4 q4 gx0 gy0 gx1 gy1 gx2 gy2 gx3 gy3 gx4 gy4 gx5 gy5 x0 y0 x1 y1 x2 y2 x3 y3 x4 y4 x5 y5 hb1 oA1 oB1
          go_wp2
          go_roundg (f.length - (k + 1))
          case measure => have := HG.out; omega
          case rel => exact ⟨cmpT x.2 y.2, k + 1, by omega, by omega, rfl, rfl, by go_num, Lib.hid (by rw [← HE.out, HX.out.1, HX.out.2, lexi_zero, lexL, cmpP, HS.out, lexi_zero]), hb2, oA2, oB2⟩
        · skip
          have b1 : Op.bytesLess x.1 y.1 = false := less_not.2 (by rw [hs]; omega)
          have b2 : (x.1 == y.1) = false := by rw [beq_eq_false_iff_ne]; intro h; rw [h, cmpS_refl] at hs; omega
          have cO : ∀ dd os, Calls Try.prog 51 #[.bool false, .bool true] (grow (redrawn wr dd) os) fun e w'' => e = .returned (.int .i64 (1)) ∧ ∃ p : Regrown, w'' = grow (redrawn wr p.d) p.os := fun dd os => (order_any _ _ _).mono (fun e w'' h => ⟨h.1, ⟨⟨dd, os⟩, h.2.symm⟩⟩)
          have HS := Lib.hid hs
          clear hs
          go_wp2
          refine wp_region_quiet_below (by kernel_rfl) (by kernel_rfl) ?_
          repeat (first | go_big_quiet_step ((with_reducible exact cO _ _)) | quiet_step (with_reducible exact cO _ _))
          refine wpQuiet_nil ?_
          intro _ hw'
          obtain ⟨⟨dq, osq⟩, hw''⟩ := hw'
          subst hw''
          have hb1 := below_all hb (below_regrown wr dq osq)
          have oA1 := oA.all (below_regrown wr dq osq)
          have oB1 := oB.all (below_regrown wr dq osq)
          clear cO gp gq p4 q4 gx0 gy0 gx1 gy1 gx2 gy2 gx3 gy3 gx4 gy4 gx5 gy5 x0 y0 x1 y1 x2 y2 x3 y3 x4 y4 x5 y5 hb oA oB
          go_wp2
          go_roundg (f.length - (k + 1))
          case measure => have := HG.out; omega
          case rel => exact ⟨1, k + 1, by omega, by omega, rfl, rfl, by go_num, Lib.hid (by rw [← HE.out, HX.out.1, HX.out.2, lexi_zero, lexL, cmpP, HS.out]; rfl), hb1, oA1, oB1⟩
    case rest =>
    clear hk hk2
    obtain ⟨r, k, rfl, hk, hk2, hr0, hE, hb, oA, oB⟩ := hcut
    clear HO
    have p4 : wc.cell? ⟨w.heap.size, 4, none⟩ = some (.slice fa f.length fc) := oA.cell rfl
    have q4 : wc.cell? ⟨w.heap.size + 1, 4, none⟩ = some (.slice fa2 f2.length fc2) := oB.cell rfl
    clear oA oB
    have HE := Lib.hid (And.intro hr0 hE)
    clear hr0 hE
    by_cases hr : r = 0
    · subst hr
      have HF : Hid (lexL cmpP (f.drop k) (f2.drop k) = if f.length < f2.length then -1 else if f2.length < f.length then 1 else 0) := Lib.hid (by
        rcases HE.out.1 rfl with h | h
        · subst h
          rw [List.drop_length]
          rcases Nat.lt_or_ge f.length f2.length with h' | h'
          · rw [List.drop_eq_getElem_cons h', lexL, if_pos h']
          · rw [List.drop_eq_nil_of_le (by omega), lexL, if_neg (by omega), if_neg (by omega)]
        · subst h
          rw [List.drop_length]
          rcases Nat.lt_or_ge f2.length f.length with h' | h'
          · rw [List.drop_eq_getElem_cons h', lexL, if_neg (by omega), if_pos h']
          · rw [List.drop_eq_nil_of_le (by omega), lexL, if_neg (by omega), if_neg (by omega)])
      rcases (show f.length < f2.length ∨ f.length = f2.length ∨ f2.length < f.length by omega) with hc | hc | hc
      · go_wp2_with fail
        refine (order_any _ _ _).mono ?_
        rintro e w' ⟨rfl, rfl⟩
        go_wp2
        go_ret
        exact ⟨ret_int (by rw [HT.out, ← HE.out.2, lexi_zero, HF.out, if_pos hc]), hb⟩
      · have hc1 : ¬ (f.length : Int) < f2.length := by omega
        have hc2 : ¬ (f2.length : Int) < f.length := by omega
        have HC := Lib.hid hc
        clear hc
        go_wp2_with fail
        refine (order_any _ _ _).mono ?_
        rintro e w' ⟨rfl, rfl⟩
        go_wp2
        go_ret
        exact ⟨ret_int (by rw [HT.out, ← HE.out.2, lexi_zero, HF.out, if_neg (by have := HC.out; omega), if_neg (by have := HC.out; omega)]), hb⟩
      · have hc1 : ¬ (f.length : Int) < f2.length := by omega
        go_wp2_with fail
        refine (order_any _ _ _).mono ?_
        rintro e w' ⟨rfl, rfl⟩
        go_wp2
        go_ret
        exact ⟨ret_int (by rw [HT.out, ← HE.out.2, lexi_zero, HF.out, if_neg (by omega), if_pos hc]), hb⟩
    · have hrz : (r == 0) = false := by rw [beq_eq_false_iff_ne]; exact hr
      have HR := Lib.hid hr
      clear hr
      go_wp2
      go_ret
      exact ⟨ret_int (by rw [HT.out, ← HE.out.2, lexi_ne HR.out]), hb⟩

set_option maxHeartbeats 400000 in
theorem requal_any (t t' : T) (c d : VC) (w : World) (hI : Is w c t) (hJ : Is w d t') :
    Calls Try.prog 32 #[c.val, d.val] w fun e w' => e = .returned (.bool (cmpT t t' == 0)) ∧ Below w.heap.size w w' := by
  have hw0 : Below w.heap.size w ((w.alloc (.cells #[.int .i64 c.k, .int .i64 c.n, sV c.s, .slice c.la c.ln c.lc, .slice c.fa c.fn c.fc] 25)).alloc (.cells #[.int .i64 d.k, .int .i64 d.n, sV d.s, .slice d.la d.ln d.lc, .slice d.fa d.fn d.fc] 25)) := ((Below.refl _ _).alloc (Nat.le_refl _) _).alloc (by simp) _
  have C := Lib.hid (rcompare_any _ t (Nat.le_refl _) t' c d _ (hI.all hw0) (hJ.all hw0))
  clear hI hJ
  go_enter Try.func32, Try.ntmps32
  go_wp2_with fail
  refine C.out.mono ?_
  rintro e w2 ⟨rfl, hb2⟩
  go_wp2
  go_ret
  exact ⟨rfl, below_all hw0 hb2⟩
end Go.Proofs.Ytinenbgdkchghaa
