/- Contracts of Compare and Equal. -/
import Derived.Test.YtinenbgdkchghaaWk
set_option linter.unusedSimpArgs false
set_option linter.unusedVariables false
namespace Go.Proofs.Ytinenbgdkchghaa
open Go.RowKit Go.Sort Go.Proofs.LawFrame

set_option maxHeartbeats 1000000 in
theorem compareFields_of (x y : Str × T) (H : ∀ (c d : VC) (w : World), Is w c x.2 → Is w d y.2 → Calls Try.prog 50 #[c.val, d.val] w fun e w' => e = .returned (.int .i64 (cmpT x.2 y.2)) ∧ Below w.heap.size w w')
    (c d : VC) (w : World) (hI : Is w c x.2) (hJ : Is w d y.2) :
    Calls Try.prog 58 #[.agg #[sV x.1, .int .i64 c.k, .int .i64 c.n, sV c.s, .slice c.la c.ln c.lc, .slice c.fa c.fn c.fc], .agg #[sV y.1, .int .i64 d.k, .int .i64 d.n, sV d.s, .slice d.la d.ln d.lc, .slice d.fa d.fn d.fc]] w fun e w' => e = .returned (.int .i64 (cmpP x y)) ∧ Below w.heap.size w w' := by
  have hw0 : Below w.heap.size w ((w.alloc (.cells #[sV x.1, .int .i64 c.k, .int .i64 c.n, sV c.s, .slice c.la c.ln c.lc, .slice c.fa c.fn c.fc] 33)).alloc (.cells #[sV y.1, .int .i64 d.k, .int .i64 d.n, sV d.s, .slice d.la d.ln d.lc, .slice d.fa d.fn d.fc] 33)) := ((Below.refl _ _).alloc (Nat.le_refl _) _).alloc (by simp) _
  have hc : ∃ r, r = cmpS x.1 y.1 := ⟨_, rfl⟩
  by_cases h0 : cmpS x.1 y.1 = 0
  · have hz : (cmpS x.1 y.1 == 0) = true := by rw [h0]; rfl
    have HE : Hid (cmpP x y = cmpT x.2 y.2) := Lib.hid (by unfold cmpP lexi; rw [if_pos h0])
    have C := Lib.hid (H c d _ (hI.all hw0) (hJ.all hw0))
    clear H h0 hI hJ
    go_enter Try.func58, Try.ntmps58
    go_wp2_with fail
    refine (strCmp_any _ _ _).mono ?_
    rintro e w' ⟨rfl, rfl⟩
    go_wp2_with fail
    refine C.out.mono ?_
    rintro e w2 ⟨rfl, hb2⟩
    go_wp2
    go_ret
    exact ⟨ret_int HE.out.symm, below_all hw0 hb2⟩
  · have HE : Hid (cmpP x y = cmpS x.1 y.1) := Lib.hid (by unfold cmpP lexi; rw [if_neg h0])
    have hz : (cmpS x.1 y.1 == 0) = false := by rw [beq_eq_false_iff_ne]; exact h0
    clear H hI hJ
    go_enter Try.func58, Try.ntmps58
    go_wp2_with fail
    refine (strCmp_any _ _ _).mono ?_
    rintro e w' ⟨rfl, rfl⟩
    go_wp2
    go_ret
    exact ⟨ret_int HE.out.symm, hw0⟩

set_option maxHeartbeats 2000000 in
theorem compare_any : ∀ (N : Nat) (t : T), SizeOf.sizeOf t ≤ N → ∀ (t' : T) (c d : VC) (w : World), Is w c t → Is w d t' →
    Calls Try.prog 50 #[c.val, d.val] w fun e w' => e = .returned (.int .i64 (cmpT t t')) ∧ Below w.heap.size w w' := by
  intro N
  induction N with
  | zero => rintro ⟨k, n, s, l, f⟩ h; simp at h
  | succ N ih =>
    rintro ⟨k, n, s, l, f⟩ hN ⟨k2, n2, s2, l2, f2⟩ ⟨k', n', s', la, ln, lc, fa, fn, fc⟩ ⟨k2', n2', s2', la2, ln2, lc2, fa2, fn2, fc2⟩ w hI hJ
    obtain ⟨rfl, rfl, rfl⟩ : k' = k ∧ n' = n ∧ s' = s := hI.same
    obtain ⟨rfl, rfl, rfl⟩ : k2' = k2 ∧ n2' = n2 ∧ s2' = s2 := hJ.same
    have hl := hI.vals
    have hf := hI.flds
    have hl2 := hJ.vals
    have hf2 := hJ.flds
    clear hI hJ
    have hw0 : Below w.heap.size w ((w.alloc (.cells #[.int .i64 k', .int .i64 n', sV s', .slice la ln lc, .slice fa fn fc] 25)).alloc (.cells #[.int .i64 k2', .int .i64 n2', sV s2', .slice la2 ln2 lc2, .slice fa2 fn2 fc2] 25)) := ((Below.refl _ _).alloc (Nat.le_refl _) _).alloc (by simp) _
    have oA : Own ((w.alloc (.cells #[.int .i64 k', .int .i64 n', sV s', .slice la ln lc, .slice fa fn fc] 25)).alloc (.cells #[.int .i64 k2', .int .i64 n2', sV s2', .slice la2 ln2 lc2, .slice fa2 fn2 fc2] 25)) w.heap.size [.int .i64 k', .int .i64 n', sV s', .slice la ln lc, .slice fa fn fc] 25 := (Own.new _ _ _).alloc _
    have oB : Own ((w.alloc (.cells #[.int .i64 k', .int .i64 n', sV s', .slice la ln lc, .slice fa fn fc] 25)).alloc (.cells #[.int .i64 k2', .int .i64 n2', sV s2', .slice la2 ln2 lc2, .slice fa2 fn2 fc2] 25)) (w.heap.size + 1) [.int .i64 k2', .int .i64 n2', sV s2', .slice la2 ln2 lc2, .slice fa2 fn2 fc2] 25 := Own.new_at (by rw [size_alloc]) _ _
    by_cases e1 : cmpI k' k2' = 0
    case neg =>
      have z1 : (cmpI k' k2' == 0) = false := by rw [beq_eq_false_iff_ne]; exact e1
      have HE : Hid (cmpT (.mk k' n' s' l f) (.mk k2' n2' s2' l2 f2) = cmpI k' k2') := Lib.hid (by rw [cmpT, lexi, if_neg e1])
      clear ih hl hf hl2 hf2 oA oB
      go_enter Try.func50, Try.ntmps50
      go_wp2_with fail
      refine (cmpInt_any _ _ _).mono ?_
      rintro e w' ⟨rfl, rfl⟩
      go_wp2
      go_ret
      exact ⟨ret_int HE.out.symm, hw0⟩
    have z1 : (cmpI k' k2' == 0) = true := by rw [e1]; rfl
    by_cases e2 : cmpI n' n2' = 0
    case neg =>
      have z2 : (cmpI n' n2' == 0) = false := by rw [beq_eq_false_iff_ne]; exact e2
      have HE : Hid (cmpT (.mk k' n' s' l f) (.mk k2' n2' s2' l2 f2) = cmpI n' n2') := Lib.hid (by rw [cmpT, lexi, if_pos e1, lexi, if_neg e2])
      clear ih hl hf hl2 hf2 oA oB e1
      go_enter Try.func50, Try.ntmps50
      go_wp2_with fail
      refine (cmpInt_any _ _ _).mono ?_
      rintro e w' ⟨rfl, rfl⟩
      go_wp2_with fail
      refine (cmpInt_any _ _ _).mono ?_
      rintro e w' ⟨rfl, rfl⟩
      go_wp2
      go_ret
      exact ⟨ret_int HE.out.symm, hw0⟩
    have z2 : (cmpI n' n2' == 0) = true := by rw [e2]; rfl
    by_cases e3 : cmpS s' s2' = 0
    case neg =>
      have z3 : (cmpS s' s2' == 0) = false := by rw [beq_eq_false_iff_ne]; exact e3
      have HE : Hid (cmpT (.mk k' n' s' l f) (.mk k2' n2' s2' l2 f2) = cmpS s' s2') := Lib.hid (by rw [cmpT, lexi, if_pos e1, lexi, if_pos e2, lexi, if_neg e3])
      clear ih hl hf hl2 hf2 oA oB e1 e2
      go_enter Try.func50, Try.ntmps50
      go_wp2_with fail
      refine (cmpInt_any _ _ _).mono ?_
      rintro e w' ⟨rfl, rfl⟩
      go_wp2_with fail
      refine (cmpInt_any _ _ _).mono ?_
      rintro e w' ⟨rfl, rfl⟩
      go_wp2_with fail
      refine (strCmp_any _ _ _).mono ?_
      rintro e w' ⟨rfl, rfl⟩
      go_wp2
      go_ret
      exact ⟨ret_int HE.out.symm, hw0⟩
    have z3 : (cmpS s' s2' == 0) = true := by rw [e3]; rfl
    have HE : Hid (cmpT (.mk k' n' s' l f) (.mk k2' n2' s2' l2 f2) = lexi (lexL cmpT l l2) (lexL cmpP f f2)) := Lib.hid (by rw [cmpT, lexi, if_pos e1, lexi, if_pos e2, lexi, if_pos e3, cmpL_eq, cmpF_eq])
    clear e1 e2 e3
    have CL := Lib.hid (cmpFuncL_any l l2 (fun i x y hx hy c d w hc hd => ih x (by have := sizeOf_l (k := k') (n := n') (s := s') (f := f) (List.mem_of_getElem? hx); omega) y c d w hc hd) _ _ _ (hl.all hw0) (hl2.all hw0))
    have CF := Lib.hid (fun w0 (h1 : Flds w0 (.slice fa fn fc) f) (h2 : Flds w0 (.slice fa2 fn2 fc2) f2) => cmpFuncF_any f f2 (fun i x y hx hy c d w hc hd => compareFields_of x y (fun c d w hc hd => ih x.2 (by have := sizeOf_f (k := k') (n := n') (s := s') (l := l) (List.mem_of_getElem? hx); omega) y.2 c d w hc hd) c d w hc hd) _ _ w0 h1 h2)
    clear ih
    go_enter Try.func50, Try.ntmps50
    go_wp2_with fail
    refine (cmpInt_any _ _ _).mono ?_
    rintro e w' ⟨rfl, rfl⟩
    go_wp2_with fail
    refine (cmpInt_any _ _ _).mono ?_
    rintro e w' ⟨rfl, rfl⟩
    go_wp2_with fail
    refine (strCmp_any _ _ _).mono ?_
    rintro e w' ⟨rfl, rfl⟩
    go_wp2_with fail
    refine CL.out.mono ?_
    rintro e w1 ⟨rfl, hb1⟩
    have hb01 := below_all hw0 hb1
    have oA1 := oA.all hb1
    have oB1 := oB.all hb1
    clear CL hw0 hb1 oA oB
    have sA : w1.cell? ⟨w.heap.size, 4, none⟩ = some (.slice fa fn fc) := oA1.cell rfl
    have sB : w1.cell? ⟨w.heap.size + 1, 4, none⟩ = some (.slice fa2 fn2 fc2) := oB1.cell rfl
    by_cases e4 : lexL cmpT l l2 = 0
    · have z4 : (lexL cmpT l l2 == 0) = true := by rw [e4]; rfl
      have HE4 := Lib.hid e4
      clear e4
      have C := Lib.hid (CF.out w1 (hf.all hb01) (hf2.all hb01))
      clear CF oA1 oB1 hl hf hl2 hf2
      go_wp2_with fail
      refine C.out.mono ?_
      rintro e w2 ⟨rfl, hb2⟩
      go_wp2
      go_ret
      exact ⟨ret_int (by rw [HE.out, lexi, if_pos HE4.out]), below_all hb01 hb2⟩
    · have z4 : (lexL cmpT l l2 == 0) = false := by rw [beq_eq_false_iff_ne]; exact e4
      clear CF oA1 oB1 hl hf hl2 hf2
      go_wp2
      go_ret
      exact ⟨ret_int (by rw [HE.out, lexi, if_neg e4]), hb01⟩

set_option maxHeartbeats 400000 in
theorem equal_any (t t' : T) (c d : VC) (w : World) (hI : Is w c t) (hJ : Is w d t') :
    Calls Try.prog 43 #[c.val, d.val] w fun e w' => e = .returned (.bool (cmpT t t' == 0)) ∧ Below w.heap.size w w' := by
  have hw0 : Below w.heap.size w ((w.alloc (.cells #[.int .i64 c.k, .int .i64 c.n, sV c.s, .slice c.la c.ln c.lc, .slice c.fa c.fn c.fc] 25)).alloc (.cells #[.int .i64 d.k, .int .i64 d.n, sV d.s, .slice d.la d.ln d.lc, .slice d.fa d.fn d.fc] 25)) := ((Below.refl _ _).alloc (Nat.le_refl _) _).alloc (by simp) _
  have C := Lib.hid (compare_any _ t (Nat.le_refl _) t' c d _ (hI.all hw0) (hJ.all hw0))
  clear hI hJ
  go_enter Try.func43, Try.ntmps43
  go_wp2_with fail
  refine C.out.mono ?_
  rintro e w2 ⟨rfl, hb2⟩
  go_wp2
  go_ret
  exact ⟨rfl, below_all hw0 hb2⟩
end Go.Proofs.Ytinenbgdkchghaa
