/- The contract of copyFields, out of that of copyValue. The contract of copyValue. -/
import Derived.Test.YtinenbgdkchghaaRm
import Derived.Deep.Cut
import Derived.Test.YtinenbgdkchghaaPa
import Derived.Test.YtinenbgdkchghaaWmJ
set_option linter.unusedSimpArgs false
set_option linter.unusedVariables false
namespace Go.Proofs.Ytinenbgdkchghaa
open Go.RowKit Go.Sort Go.Proofs.LawFrame

theorem VC.val_inj {c d : VC} (h : c.val = d.val) : c = d := by
  obtain ⟨k, n, s, la, ln, lc, fa, fn, fc⟩ := c
  obtain ⟨k', n', s', la', ln', lc', fa', fn', fc'⟩ := d
  simp [VC.val] at h
  simp [h]

set_option maxHeartbeats 4000000 in
set_option maxRecDepth 20000 in
theorem copyFields_of (l : List (Str × T)) (H : ∀ (i : Nat) (p : Str × T), l[i]? = some p → ∀ (c : VC) (w : World), Is w c p.2 →
      Calls Try.prog 53 #[c.val] w fun e w' => ∃ c' : VC, e = .returned c'.val ∧ Below w.heap.size w w' ∧ IsA w' (fun b => w.heap.size ≤ b) c' p.2)
    (v : Value) (w : World) (hv : Flds w v l) (hn : l.length ≤ 4000) :
    Calls Try.prog 59 #[v] w fun e w' => ∃ v', e = .returned v' ∧ Below w.heap.size w w' ∧ NewF w w' v' l := by
  obtain ⟨ao, cap, rfl, hlc, hlm⟩ := hv.form
  unfold maxLen at hlm
  by_cases h0 : l.length = 0
  · have HE : Hid (l = []) := Lib.hid (by simpa using h0)
    have hz : ((l.length : Int) == 0) = true := by rw [h0]; rfl
    clear h0 H
    go_enter Try.func59, Try.ntmps59
    go_wp2
    go_ret
    exact ⟨_, rfl, Below.refl _ _, ⟨Or.inl ⟨HE.out, rfl⟩⟩⟩
  have hz : ((l.length : Int) == 0) = false := by rw [beq_eq_false_iff_ne]; omega
  obtain ⟨i0, hi0, hz0, hs0, hb0⟩ := info_parts info35
  have hmk : ∀ w : World, (Instr.makeSlice 23 (.int .i64 (l.length : Int)) (.int .i64 (l.length : Int))).run Try.prog w = .ok (.slice (some ⟨w.heap.size, 0, none⟩) l.length l.length) (w.alloc (.cells ((List.replicate l.length FC0).flatMap FC.cells).toArray 33)) := fun w => by
    have := run_make (P := Try.prog) w 23 33 i0 _ Try.underlying23 hi0 hz0 .i64 .i64 (l.length : Int) (l.length : Int) (by omega) (Int.le_refl _) (by rw [hb0]; omega) (by omega)
    rw [this, hs0]
    have e := made_row FC.cells (m := 6) (fun _ => rfl) FC0 (Value.cells (.agg #[.string ⟨#[]⟩, .int .i64 0, .int .i64 0, .string ⟨#[]⟩, .slice none 0 0, .slice none 0 0])) rfl l.length
    simp only [Int.toNat_natCast]
    rw [← e]
  go_enter Try.func59, Try.ntmps59
  go_wp2
  have o0 : Own (w.alloc (.cells ((List.replicate l.length FC0).flatMap FC.cells).toArray 33)) w.heap.size ((List.replicate l.length FC0).flatMap FC.cells) 33 := Own.new _ _ _
  have hw0 : Below w.heap.size w (w.alloc (.cells ((List.replicate l.length FC0).flatMap FC.cells).toArray 33)) := (Below.refl _ _).alloc (Nat.le_refl _) _
  generalize w.alloc (.cells ((List.replicate l.length FC0).flatMap FC.cells).toArray 33) = W at *
  have R0 := Lib.hid (And.intro hw0 o0)
  clear hw0 o0 hmk
  go_loopg [14] l.length (fun g i wr => ∃ (k : Nat) (cs : List FC), k ≤ l.length ∧ g = l.length - k ∧ i = .int .i64 k ∧ cs.length = l.length ∧ Below w.heap.size w wr ∧ Own wr w.heap.size (cs.flatMap FC.cells) 33 ∧ Hid (∀ (i : Nat) (x : FC) (p : Str × T), i < k → cs[i]? = some x → l[i]? = some p → x.x = p.1 ∧ IsA wr (fun b => w.heap.size < b) x.v p.2))
  case atStart =>
    obtain ⟨hw0, o0⟩ := R0.out
    exact ⟨0, List.replicate l.length FC0, Nat.zero_le _, rfl, rfl, by simp, hw0, o0, Lib.hid (fun i x t h => absurd h (by omega))⟩
  case round =>
    obtain ⟨k, cs, hk, hg, rfl, hcs, hb, o0, HA⟩ := hrel
    have HG := Lib.hid hg
    clear hg R0
    by_cases hlt : k < l.length
    case neg =>
      obtain rfl : k = l.length := by omega
      go_wp2
      go_ret
      exact ⟨_, rfl, hb, ⟨Or.inr ⟨w.heap.size, cs, rfl, by unfold maxLen; omega, Nat.le_refl _, hcs, o0, fun i x t hx ht => (HA.out i x t (by have := (List.getElem?_eq_some_iff.1 ht).1; omega) hx ht).1, fun i x t hx ht => (HA.out i x t (by have := (List.getElem?_eq_some_iff.1 ht).1; omega) hx ht).2⟩⟩⟩
    have hx := List.getElem?_eq_getElem hlt
    generalize l[k] = p at hx
    obtain ⟨b, off, c, rfl, hbl, hI, q, q0, q1, q2, q3, q4⟩ := hv.at hb hx
    have hbb := hb.alloc hb.size (.cells #[sV p.1, .int .i64 c.k, .int .i64 c.n, sV c.s, .slice c.la c.ln c.lc, .slice c.fa c.fn c.fc] 33)
    have oo := o0.alloc (.cells #[sV p.1, .int .i64 c.k, .int .i64 c.n, sV c.s, .slice c.la c.ln c.lc, .slice c.fa c.fn c.fc] 33)
    have hbx := (Below.refl wr.heap.size wr).alloc (Nat.le_refl _) (.cells #[sV p.1, .int .i64 c.k, .int .i64 c.n, sV c.s, .slice c.la c.ln c.lc, .slice c.fa c.fn c.fc] 33)
    have hII := hI.all hbx
    have oN : Own (wr.alloc (.cells #[sV p.1, .int .i64 c.k, .int .i64 c.n, sV c.s, .slice c.la c.ln c.lc, .slice c.fa c.fn c.fc] 33)) wr.heap.size [sV p.1, .int .i64 c.k, .int .i64 c.n, sV c.s, .slice c.la c.ln c.lc, .slice c.fa c.fn c.fc] 33 := Own.new _ _ _
    have hwl := o0.lt
    have IH := Lib.hid (H k p hx)
    have HX := Lib.hid hx
    clear hI hb o0 hx H
    go_upto_region 7 with (fail)
    clear q q0 q1 q2 q3 q4
    have hVl := oN.lt
    have hVs : (wr.alloc (.cells #[sV p.1, .int .i64 c.k, .int .i64 c.n, sV c.s, .slice c.la c.ln c.lc, .slice c.fa c.fn c.fc] 33)).heap.size = wr.heap.size + 1 := size_alloc _ _
    generalize wr.alloc (.cells #[sV p.1, .int .i64 c.k, .int .i64 c.n, sV c.s, .slice c.la c.ln c.lc, .slice c.fa c.fn c.fc] 33) = V at *
    have z0 := cell_regrown (oN.cell (i := 0) rfl)
    have z1 := cell_regrown (oN.cell (i := 1) rfl)
    have z2 := cell_regrown (oN.cell (i := 2) rfl)
    have z3 := cell_regrown (oN.cell (i := 3) rfl)
    have z4 := cell_regrown (oN.cell (i := 4) rfl)
    have z5 := cell_regrown (oN.cell (i := 5) rfl)
    refine wp_region_multi 9 (fun i => i == 6) (fun _ _ u w' => ∃ c' : VC, u = c'.val ∧ IsA w' (fun b => V.heap.size ≤ b) c' p.2) (fun _ u => ∃ c' : VC, u = c'.val) (by kernel_rfl) (by kernel_rfl) (fun _ _ _ w1 w2 ⟨c', h1, h2⟩ hb => ⟨c', h1, h2.all hb⟩) (fun _ => ⟨VC0.val, VC0, rfl⟩) ?_
    simp only [List.take_succ_cons, List.take_zero, List.drop_succ_cons, List.drop_zero]
    refine wpM_stretch 6 rfl rfl rfl rfl ?_
    simp only [List.take_succ_cons, List.take_zero, List.drop_succ_cons, List.drop_zero]
    repeat (first | go_big_quiet_step (fail) | quiet_step (fail))
    refine wpQuiet_nil ?_
    refine wpM_dem rfl rfl rfl ?_ ?_
    · rintro _ ⟨pp, rfl⟩
      go_simp
      simp only [demUpon]
      refine ⟨trivial, (IH.out c _ (hII.all (below_regrown V pp.d pp.os))).mono ?_⟩
      rintro e w2 ⟨c', rfl, hb2, hN⟩
      have hsz := (below_regrown V pp.d pp.os).size
      exact ⟨_, rfl, ⟨c', rfl⟩, hb2, c', rfl, hN.mono (fun b hb => by omega)⟩
    · rintro _ ⟨c', rfl⟩
      refine wpM_stretch 2 rfl rfl rfl rfl ?_
      simp only [List.take_succ_cons, List.take_zero, List.drop_succ_cons, List.drop_zero]
      repeat (first | go_big_quiet_step (fail) | quiet_step (fail))
      refine wpQuiet_nil ?_
      refine wpM_end ?_
      rintro U hb2 ⟨-, c2, he2, hN⟩
      obtain rfl := VC.val_inj he2
      have o2 := oo.all hb2
      have HN := Lib.hid hN
      have HBE := Lib.hid (And.intro (below_all hbb hb2) (below_all hbx hb2))
      clear oo hb2 hbb hbx hN he2 z0 z1 z2 z3 z4 z5 oN hII IH
      obtain ⟨z0, e0⟩ : ∃ z, U.cell? ⟨w.heap.size, k * 6, none⟩ = some z := ⟨_, o2.cell (List.getElem?_eq_getElem (by rw [flat_length FC.cells (m := 6) (fun _ => rfl), hcs]; omega))⟩
      have f0 := o2.frozen (k * 6)
      obtain ⟨z1, e1⟩ : ∃ z, U.cell? ⟨w.heap.size, k * 6 + 1, none⟩ = some z := ⟨_, o2.cell (List.getElem?_eq_getElem (by rw [flat_length FC.cells (m := 6) (fun _ => rfl), hcs]; omega))⟩
      have f1 := o2.frozen (k * 6 + 1)
      obtain ⟨z2, e2⟩ : ∃ z, U.cell? ⟨w.heap.size, k * 6 + 2, none⟩ = some z := ⟨_, o2.cell (List.getElem?_eq_getElem (by rw [flat_length FC.cells (m := 6) (fun _ => rfl), hcs]; omega))⟩
      have f2 := o2.frozen (k * 6 + 2)
      obtain ⟨z3, e3⟩ : ∃ z, U.cell? ⟨w.heap.size, k * 6 + 3, none⟩ = some z := ⟨_, o2.cell (List.getElem?_eq_getElem (by rw [flat_length FC.cells (m := 6) (fun _ => rfl), hcs]; omega))⟩
      have f3 := o2.frozen (k * 6 + 3)
      obtain ⟨z4, e4⟩ : ∃ z, U.cell? ⟨w.heap.size, k * 6 + 4, none⟩ = some z := ⟨_, o2.cell (List.getElem?_eq_getElem (by rw [flat_length FC.cells (m := 6) (fun _ => rfl), hcs]; omega))⟩
      have f4 := o2.frozen (k * 6 + 4)
      obtain ⟨z5, e5⟩ : ∃ z, U.cell? ⟨w.heap.size, k * 6 + 5, none⟩ = some z := ⟨_, o2.cell (List.getElem?_eq_getElem (by rw [flat_length FC.cells (m := 6) (fun _ => rfl), hcs]; omega))⟩
      have f5 := o2.frozen (k * 6 + 5)
      have HO := Lib.hid o2
      clear o2
      go_wp2
      have os := Own.setF HO.out (k := k) (by omega) ⟨p.1, c'⟩
      go_roundg (l.length - (k + 1))
      case measure => have := HG.out; omega
      case rel =>
        refine ⟨k + 1, cs.set k ⟨p.1, c'⟩, by omega, rfl, by go_num, by rw [List.length_set]; exact hcs, (below_set (below_set (below_set (below_set (below_set (below_set HBE.out.1 (Nat.le_refl _) _) (Nat.le_refl _) _) (Nat.le_refl _) _) (Nat.le_refl _) _) (Nat.le_refl _) _) (Nat.le_refl _) _), os, Lib.hid ?_⟩
        intro i y t hi hy ht
        have hset : ∀ {y : VC} {t : T}, IsA U (fun b => w.heap.size < b) y t → IsA ((((((U.setCell ⟨w.heap.size, k * 6, none⟩ (sV p.1)).setCell ⟨w.heap.size, k * 6 + 1, none⟩ (.int .i64 c'.k)).setCell ⟨w.heap.size, k * 6 + 2, none⟩ (.int .i64 c'.n)).setCell ⟨w.heap.size, k * 6 + 3, none⟩ (sV c'.s)).setCell ⟨w.heap.size, k * 6 + 4, none⟩ (.slice c'.la c'.ln c'.lc)).setCell ⟨w.heap.size, k * 6 + 5, none⟩ (.slice c'.fa c'.fn c'.fc)) (fun b => w.heap.size < b) y t := fun h => ((((((h.set (by omega) _ _).set (by omega) _ _).set (by omega) _ _).set (by omega) _ _).set (by omega) _ _).set (by omega) _ _)
        by_cases hik : i = k
        · subst hik
          rw [HX.out] at ht; cases ht
          rw [List.getElem?_set_self (by omega)] at hy; cases hy
          exact ⟨rfl, hset (HN.out.mono (fun b hb => by omega))⟩
        · rw [List.getElem?_set_ne (fun h => hik h.symm)] at hy
          have h := HA.out i y t (by omega) hy ht
          exact ⟨h.1, hset (h.2.all HBE.out.2)⟩
end Go.Proofs.Ytinenbgdkchghaa
namespace Go.Proofs.Ytinenbgdkchghaa
open Go.RowKit Go.Sort Go.Proofs.LawFrame

theorem size_in_l {k n : Int} {s : Str} {l : List T} {f : List (Str × T)} {t : T} (h : t ∈ l) : t.size ≤ (T.mk k n s l f).size := by
  have hl : ∀ l : List T, t ∈ l → t.size ≤ sizeL l := fun l => by
    induction l with
    | nil => intro h; cases h
    | cons a r ih =>
      intro h
      have h1 := size_pos a
      have h2 := sizeL_nonneg r
      rcases List.mem_cons.1 h with rfl | h
      · simp [sizeL]; omega
      · have := ih h; simp [sizeL]; omega
  have := hl l h
  have := sizeF_nonneg f
  simp [T.size]; omega
theorem size_in_f {k n : Int} {s : Str} {l : List T} {f : List (Str × T)} {p : Str × T} (h : p ∈ f) : p.2.size ≤ (T.mk k n s l f).size := by
  have hf : ∀ f : List (Str × T), p ∈ f → p.2.size ≤ sizeF f := fun f => by
    induction f with
    | nil => intro h; cases h
    | cons a r ih =>
      obtain ⟨x, t⟩ := a
      intro h
      have h1 := size_pos t
      have h2 := sizeF_nonneg r
      rcases List.mem_cons.1 h with rfl | h
      · simp [sizeF]; omega
      · have := ih h; simp [sizeF]; omega
  have := hf f h
  have := sizeL_nonneg l
  simp [T.size]; omega
theorem sizeL_len (l : List T) : (l.length : Int) ≤ sizeL l := by
  induction l with
  | nil => simp [sizeL]
  | cons a r ih => have := size_pos a; simp [sizeL]; omega
theorem sizeF_len (l : List (Str × T)) : (l.length : Int) ≤ sizeF l := by
  induction l with
  | nil => simp [sizeF]
  | cons a r ih => obtain ⟨x, t⟩ := a; have := size_pos t; simp [sizeF]; omega
theorem size_lens {k n : Int} {s : Str} {l : List T} {f : List (Str × T)} {M : Nat} (h : (T.mk k n s l f).size ≤ M) : l.length ≤ M ∧ f.length ≤ M := by
  have := sizeL_len l; have := sizeF_len f; have := sizeL_nonneg l; have := sizeF_nonneg f
  simp [T.size] at h; omega

set_option maxHeartbeats 4000000 in
set_option maxRecDepth 20000 in
theorem copyValue_any : ∀ (M : Nat) (t : T), SizeOf.sizeOf t ≤ M → t.size ≤ 4000 → ∀ (c : VC) (w : World), Is w c t →
    Calls Try.prog 53 #[c.val] w fun e w' => ∃ c' : VC, e = .returned c'.val ∧ Below w.heap.size w w' ∧ IsA w' (fun b => w.heap.size ≤ b) c' t := by
  intro M
  induction M with
  | zero => intro t h; cases t; simp at h
  | succ M ih =>
    rintro ⟨k0, n0, s0, l, f⟩ hM hsz ⟨k, n, s, la, ln, lc, fa, fn, fc⟩ w hI
    obtain ⟨h1, h2, h3⟩ := hI.same
    simp only at h1 h2 h3
    subst h1 h2 h3
    have hv := hI.vals
    have hf := hI.flds
    simp only at hv hf
    obtain ⟨hll, hfl⟩ := size_lens (M := 4000) hsz
    have hw0 : Below w.heap.size w ((w.alloc (.cells #[.int .i64 k, .int .i64 n, sV s, .slice la ln lc, .slice fa fn fc] 25)).alloc (.cells #[.int .i64 0, .int .i64 0, .string ⟨#[]⟩, .slice none 0 0, .slice none 0 0] 25)) := ((Below.refl _ _).alloc (Nat.le_refl _) _).alloc (by simp) _
    have oB : Own ((w.alloc (.cells #[.int .i64 k, .int .i64 n, sV s, .slice la ln lc, .slice fa fn fc] 25)).alloc (.cells #[.int .i64 0, .int .i64 0, .string ⟨#[]⟩, .slice none 0 0, .slice none 0 0] 25)) w.heap.size [.int .i64 k, .int .i64 n, sV s, .slice la ln lc, .slice fa fn fc] 25 := (Own.new _ _ _).alloc _
    have oR : Own ((w.alloc (.cells #[.int .i64 k, .int .i64 n, sV s, .slice la ln lc, .slice fa fn fc] 25)).alloc (.cells #[.int .i64 0, .int .i64 0, .string ⟨#[]⟩, .slice none 0 0, .slice none 0 0] 25)) (w.heap.size + 1) [.int .i64 0, .int .i64 0, .string ⟨#[]⟩, .slice none 0 0, .slice none 0 0] 25 := Own.new_at (by rw [size_alloc]) _ _
    have hs0 : ((w.alloc (.cells #[.int .i64 k, .int .i64 n, sV s, .slice la ln lc, .slice fa fn fc] 25)).alloc (.cells #[.int .i64 0, .int .i64 0, .string ⟨#[]⟩, .slice none 0 0, .slice none 0 0] 25)).heap.size = w.heap.size + 2 := by rw [size_alloc, size_alloc]
    have CL := Lib.hid (copyList_of l (fun i x hx c w h => ih x (by have := sizeOf_l (k := k) (n := n) (s := s) (f := f) (List.mem_of_getElem? hx); omega) (by have := size_in_l (k := k) (n := n) (s := s) (f := f) (List.mem_of_getElem? hx); omega) c w h) _ ((w.alloc (.cells #[.int .i64 k, .int .i64 n, sV s, .slice la ln lc, .slice fa fn fc] 25)).alloc (.cells #[.int .i64 0, .int .i64 0, .string ⟨#[]⟩, .slice none 0 0, .slice none 0 0] 25)) (hv.all hw0) hll)
    have CF := Lib.hid (fun w' (h : Flds w' (.slice fa fn fc) f) => copyFields_of f (fun i p hx c w h => ih p.2 (by have := sizeOf_f (k := k) (n := n) (s := s) (l := l) (List.mem_of_getElem? hx); omega) (by have := size_in_f (k := k) (n := n) (s := s) (l := l) (List.mem_of_getElem? hx); omega) c w h) _ w' h hfl)
    go_enter Try.func53, Try.ntmps53
    go_wp2_with fail
    generalize ((w.alloc (.cells #[.int .i64 k, .int .i64 n, sV s, .slice la ln lc, .slice fa fn fc] 25)).alloc (.cells #[.int .i64 0, .int .i64 0, .string ⟨#[]⟩, .slice none 0 0, .slice none 0 0] 25)) = W at *
    refine CL.out.mono ?_
    rintro e w1 ⟨v', rfl, hb1, hL⟩
    obtain ⟨la2, ln2, lc2, rfl⟩ := hL.slice
    have oB1 := oB.all hb1
    have oR1 := oR.all hb1
    have hb01 := below_all hw0 hb1
    have hz1 := oR1.lt
    clear CL oB oR hw0
    have c3 := oB1.cell (i := 3) rfl
    have c4 := oB1.cell (i := 4) rfl
    have f3 := oB1.frozen 3
    have oB2 := oB1.set 3 (.slice la2 ln2 lc2)
    have oR2 := oR1.set_ne (b' := w.heap.size) (by omega) 3 (.slice la2 ln2 lc2)
    have hb2 := below_set hb01 (Nat.le_refl w.heap.size) (i := 3) (.slice la2 ln2 lc2)
    have hL2 := hL.set (b := w.heap.size) (by omega) 3 (.slice la2 ln2 lc2)
    have HH := Lib.hid (And.intro oB2 (And.intro oR2 (And.intro hb2 hL2)))
    have hs2 : (w1.setCell ⟨w.heap.size, 3, none⟩ (.slice la2 ln2 lc2)).heap.size = w1.heap.size := by unfold World.setCell; simp
    clear oB1 oR1 hb01 hL oB2 oR2 hb2 hL2 hb1
    go_upto_region 2 with (fail)
    clear c3 c4 f3
    generalize w1.setCell ⟨w.heap.size, 3, none⟩ (.slice la2 ln2 lc2) = w2 at *
    obtain ⟨oB2, oR2, hb2, hL2⟩ := HH.out
    have CC := Lib.hid (CF.out w2 (hf.all hb2))
    have c4 := oB2.cell (i := 4) rfl
    clear HH CF
    go_wp2_with fail
    refine CC.out.mono ?_
    rintro e w3 ⟨v', rfl, hb3, hF⟩
    obtain ⟨fa2, fn2, fc2, rfl⟩ := hF.slice
    have oB3 := oB2.all hb3
    have oR3 := oR2.all hb3
    have hb03 := below_all hb2 hb3
    have hL3 := hL2.all hb3
    clear CC oB2 oR2 hb2 hL2 c4
    have c4 := oB3.cell (i := 4) rfl
    have f4 := oB3.frozen 4
    have oB4 := oB3.set 4 (.slice fa2 fn2 fc2)
    have oR4 := oR3.set_ne (b' := w.heap.size) (by omega) 4 (.slice fa2 fn2 fc2)
    have hb4 := below_set hb03 (Nat.le_refl w.heap.size) (i := 4) (.slice fa2 fn2 fc2)
    have hL4 := hL3.set (b := w.heap.size) (by omega) 4 (.slice fa2 fn2 fc2)
    have hF4 := hF.set (b := w.heap.size) (by omega) 4 (.slice fa2 fn2 fc2)
    have HH := Lib.hid (And.intro oB4 (And.intro oR4 (And.intro hb4 (And.intro hL4 hF4))))
    clear oB3 oR3 hb03 hL3 hF oB4 oR4 hb4 hL4 hF4 hb3
    go_upto_region 3 with (fail)
    clear c4 f4
    generalize hq : w3.setCell ⟨w.heap.size, 4, none⟩ (.slice fa2 fn2 fc2) = w4 at *
    clear hq
    clear w3
    generalize w4 = w3 at *
    obtain ⟨oB3, oR3, hb3, hL3, hF3⟩ := HH.out
    clear HH
    have b0 := oB3.cell (i := 0) rfl
    have b1 := oB3.cell (i := 1) rfl
    have b2 := oB3.cell (i := 2) rfl
    have b3 := oB3.cell (i := 3) rfl
    have b4 := oB3.cell (i := 4) rfl
    have r0 := oR3.cell (i := 0) rfl
    have r1 := oR3.cell (i := 1) rfl
    have r2 := oR3.cell (i := 2) rfl
    have r3 := oR3.cell (i := 3) rfl
    have r4 := oR3.cell (i := 4) rfl
    have f0 := oR3.frozen 0
    have f1 := oR3.frozen 1
    have f2 := oR3.frozen 2
    have f3 := oR3.frozen 3
    have f4 := oR3.frozen 4
    have oS := (((((oR3.set 0 (.int .i64 k)).set 1 (.int .i64 n)).set 2 (sV s)).set 3 (.slice la2 ln2 lc2)).set 4 (.slice fa2 fn2 fc2))
    have hbS := (below_set (below_set (below_set (below_set (below_set hb3 (by omega : w.heap.size ≤ w.heap.size + 1) (i := 0) (.int .i64 k)) (by omega : w.heap.size ≤ w.heap.size + 1) (i := 1) (.int .i64 n)) (by omega : w.heap.size ≤ w.heap.size + 1) (i := 2) (sV s)) (by omega : w.heap.size ≤ w.heap.size + 1) (i := 3) (.slice la2 ln2 lc2)) (by omega : w.heap.size ≤ w.heap.size + 1) (i := 4) (.slice fa2 fn2 fc2))
    have hLS := (((((hL3.set (b := w.heap.size + 1) (by omega) 0 (.int .i64 k)).set (b := w.heap.size + 1) (by omega) 1 (.int .i64 n)).set (b := w.heap.size + 1) (by omega) 2 (sV s)).set (b := w.heap.size + 1) (by omega) 3 (.slice la2 ln2 lc2)).set (b := w.heap.size + 1) (by omega) 4 (.slice fa2 fn2 fc2))
    have hFS := (((((hF3.set (b := w.heap.size + 1) (by omega) 0 (.int .i64 k)).set (b := w.heap.size + 1) (by omega) 1 (.int .i64 n)).set (b := w.heap.size + 1) (by omega) 2 (sV s)).set (b := w.heap.size + 1) (by omega) 3 (.slice la2 ln2 lc2)).set (b := w.heap.size + 1) (by omega) 4 (.slice fa2 fn2 fc2))
    have HS := Lib.hid (And.intro oS (And.intro hbS (And.intro hLS hFS)))
    clear oS hbS hLS hFS oB3 oR3 hb3 hL3 hF3
    go_wp2
    clear b0 b1 b2 b3 b4 r0 r1 r2 r3 r4 f0 f1 f2 f3 f4
    change bodyPost Try.prog Try.f53 _ _ _ (((((w3.setCell ⟨w.heap.size + 1, 0, none⟩ (.int .i64 k)).setCell ⟨w.heap.size + 1, 1, none⟩ (.int .i64 n)).setCell ⟨w.heap.size + 1, 2, none⟩ (sV s)).setCell ⟨w.heap.size + 1, 3, none⟩ (.slice la2 ln2 lc2)).setCell ⟨w.heap.size + 1, 4, none⟩ (.slice fa2 fn2 fc2))
    generalize (((((w3.setCell ⟨w.heap.size + 1, 0, none⟩ (.int .i64 k)).setCell ⟨w.heap.size + 1, 1, none⟩ (.int .i64 n)).setCell ⟨w.heap.size + 1, 2, none⟩ (sV s)).setCell ⟨w.heap.size + 1, 3, none⟩ (.slice la2 ln2 lc2)).setCell ⟨w.heap.size + 1, 4, none⟩ (.slice fa2 fn2 fc2)) = U at *
    obtain ⟨oS, hbS, hLS, hFS⟩ := HS.out
    have c0 : U.cell? ⟨w.heap.size + 1, 0, none⟩ = some (.int .i64 k) := oS.cell rfl
    have c1 : U.cell? ⟨w.heap.size + 1, 1, none⟩ = some (.int .i64 n) := oS.cell rfl
    have c2 : U.cell? ⟨w.heap.size + 1, 2, none⟩ = some (sV s) := oS.cell rfl
    have c3 : U.cell? ⟨w.heap.size + 1, 3, none⟩ = some (.slice la2 ln2 lc2) := oS.cell rfl
    have c4 : U.cell? ⟨w.heap.size + 1, 4, none⟩ = some (.slice fa2 fn2 fc2) := oS.cell rfl
    exact bodyPost_ret (v := .agg #[.int .i64 k, .int .i64 n, sV s, .slice la2 ln2 lc2, .slice fa2 fn2 fc2]) (by simp [results, Try.results53, go_sem, c0, c1, c2, c3, c4]) rfl ⟨⟨k, n, s, la2, ln2, lc2, fa2, fn2, fc2⟩, rfl, hbS, IsA.new (W := w) (c := ⟨k, n, s, la2, ln2, lc2, fa2, fn2, fc2⟩) hLS hFS (by omega) (by omega)⟩
theorem copy_any (t : T) (h : t.size ≤ 4000) (c : VC) (w : World) (hI : Is w c t) :
    Calls Try.prog 53 #[c.val] w fun e w' => ∃ c' : VC, e = .returned c'.val ∧ Below w.heap.size w w' ∧ IsA w' (fun b => w.heap.size ≤ b) c' t := copyValue_any _ t (Nat.le_refl _) h c w hI
end Go.Proofs.Ytinenbgdkchghaa
