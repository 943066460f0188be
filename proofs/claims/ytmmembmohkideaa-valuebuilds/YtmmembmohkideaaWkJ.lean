/- Contracts of slices.CompareFunc at values and at fields. Contracts of Compare and Equal. -/
import Derived.Test.YtmmembmohkideaaWj
namespace Go.Proofs.Ytmmembmohkideaa
open Go.RowKit Go.Sort Go.Proofs.LawFrame

set_option maxHeartbeats 2000000 in
theorem cmpFuncL_any (l l' : List T) (H : ∀ (i : Nat) (x y : T), l[i]? = some x → l'[i]? = some y → ∀ (c d : VC) (w : World), Is w c x → Is w d y →
      Calls Try.prog 17 #[.agg #[.int .i64 c.k, .int .i64 c.n, sV c.s, .slice c.la c.ln c.lc, .slice c.fa c.fn c.fc], .agg #[.int .i64 d.k, .int .i64 d.n, sV d.s, .slice d.la d.ln d.lc, .slice d.fa d.fn d.fc]] w fun e w' => e = .returned (.int .i64 (cmpT x y)) ∧ Below w.heap.size w w')
    (v v' : Value) (w : World) (hv : Vals w v l) (hv' : Vals w v' l') :
    Calls Try.prog 43 #[v, v', .func (.func 17) #[] #[]] w fun e w' => e = .returned (.int .i64 (lexL cmpT l l')) ∧ Below w.heap.size w w' := by
  obtain ⟨ao, cap, rfl, hlc, hlm⟩ := hv.form
  obtain ⟨ao', cap', rfl, hlc', hlm'⟩ := hv'.form
  unfold maxLen at hlm hlm'
  go_enter Try.func43, Try.ntmps43
  go_wp2
  go_loopg [13] l.length (fun g i wr => ∃ k : Nat, k ≤ l.length ∧ g = l.length - k ∧ i = .int .i64 k ∧ k ≤ l'.length ∧ Below w.heap.size w wr ∧ Hid (lexL cmpT (l.drop k) (l'.drop k) = lexL cmpT l l'))
  case atStart => exact ⟨0, Nat.zero_le _, rfl, rfl, Nat.zero_le _, Below.refl _ _, Lib.hid (by simp)⟩
  case round =>
    obtain ⟨k, hk, hg, rfl, hk', hb, HE⟩ := hrel
    have HG := Lib.hid hg
    clear hg
    by_cases hlt : k < l.length
    · have hx := get_some hlt
      have hdx := List.drop_eq_getElem_cons hlt
      generalize l[k] = x at hx hdx
      obtain ⟨b, off, c, rfl, hbl, hI, q0, q1, q2, q3, q4⟩ := hv.at hb hx
      have HX := Lib.hid (And.intro hx hdx)
      clear hx hdx
      have hB := hb.alloc hb.size (.cells #[.int .i64 c.k, .int .i64 c.n, sV c.s, .slice c.la c.ln c.lc, .slice c.fa c.fn c.fc] 25)
      have hI' := hI.all ((Below.refl wr.heap.size wr).alloc (Nat.le_refl _) (.cells #[.int .i64 c.k, .int .i64 c.n, sV c.s, .slice c.la c.ln c.lc, .slice c.fa c.fn c.fc] 25))
      have oN : Own (wr.alloc (.cells #[.int .i64 c.k, .int .i64 c.n, sV c.s, .slice c.la c.ln c.lc, .slice c.fa c.fn c.fc] 25)) wr.heap.size [.int .i64 c.k, .int .i64 c.n, sV c.s, .slice c.la c.ln c.lc, .slice c.fa c.fn c.fc] 25 := Own.new _ _ _
      by_cases hlt' : k < l'.length
      · have hy := get_some hlt'
        have hdy := List.drop_eq_getElem_cons hlt'
        generalize l'[k] = y at hy hdy
        obtain ⟨b', off', d, rfl, hbl', hJ, r0, r1, r2, r3, r4⟩ := hv'.at hB hy
        have HY := Lib.hid (And.intro hy hdy)
        clear hy hdy
        have hB2 := hB.alloc hB.size (.cells #[.int .i64 d.k, .int .i64 d.n, sV d.s, .slice d.la d.ln d.lc, .slice d.fa d.fn d.fc] 25)
        have hI2 := hI'.all ((Below.refl (wr.alloc (.cells #[.int .i64 c.k, .int .i64 c.n, sV c.s, .slice c.la c.ln c.lc, .slice c.fa c.fn c.fc] 25)).heap.size (wr.alloc (.cells #[.int .i64 c.k, .int .i64 c.n, sV c.s, .slice c.la c.ln c.lc, .slice c.fa c.fn c.fc] 25))).alloc (Nat.le_refl _) (.cells #[.int .i64 d.k, .int .i64 d.n, sV d.s, .slice d.la d.ln d.lc, .slice d.fa d.fn d.fc] 25))
        have hJ2 := hJ.all ((Below.refl (wr.alloc (.cells #[.int .i64 c.k, .int .i64 c.n, sV c.s, .slice c.la c.ln c.lc, .slice c.fa c.fn c.fc] 25)).heap.size (wr.alloc (.cells #[.int .i64 c.k, .int .i64 c.n, sV c.s, .slice c.la c.ln c.lc, .slice c.fa c.fn c.fc] 25))).alloc (Nat.le_refl _) (.cells #[.int .i64 d.k, .int .i64 d.n, sV d.s, .slice d.la d.ln d.lc, .slice d.fa d.fn d.fc] 25))
        have C := Lib.hid (H k x y HX.out.1 HY.out.1 c d _ hI2 hJ2)
        have HB := Lib.hid hB2
        clear hB hB2 hI hI' hI2 hJ hJ2 hb H oN
        go_wp2_with fail
        refine C.out.mono ?_
        rintro e w2 ⟨rfl, hb2⟩
        by_cases hc : cmpT x y = 0
        · have hc2 : (cmpT x y == 0) = true := by rw [hc]; rfl
          have HC := Lib.hid hc
          clear hc
          go_wp2
          go_roundg (l.length - (k + 1))
          case measure => have := HG.out; omega
          case rel => exact ⟨k + 1, by omega, rfl, by go_num, by omega, below_all HB.out hb2, Lib.hid (by rw [← HE.out, HX.out.2, HY.out.2, lexL, lexi, if_pos HC.out])⟩
        · have HC := Lib.hid hc
          go_wp2
          go_ret
          exact ⟨ret_int (by rw [← HE.out, HX.out.2, HY.out.2, lexL, lexi, if_neg HC.out]), below_all HB.out hb2⟩
      · have hge : (l'.length : Int) ≤ k := by omega
        have HY : Hid (l'.drop k = []) := Lib.hid (List.drop_eq_nil_of_le (by omega))
        have HB := Lib.hid hB
        clear hB hI hI' hb H oN
        go_wp2
        go_ret
        exact ⟨ret_int (by rw [← HE.out, HX.out.2, HY.out, lexL]), HB.out⟩
    · obtain rfl : k = l.length := by omega
      clear H
      by_cases hlt' : l.length < l'.length
      · go_wp2
        go_ret
        exact ⟨ret_int (by rw [← HE.out, List.drop_length, List.drop_eq_getElem_cons hlt', lexL]), hb⟩
      · have hge : ¬ (l.length : Int) < l'.length := by omega
        go_wp2
        go_ret
        exact ⟨ret_int (by rw [← HE.out, List.drop_length, List.drop_eq_nil_of_le (by omega), lexL]), hb⟩

set_option maxHeartbeats 2000000 in
theorem cmpFuncF_any (l l' : List (Str × T)) (H : ∀ (i : Nat) (x y : (Str × T)), l[i]? = some x → l'[i]? = some y → ∀ (c d : VC) (w : World), Is w c x.2 → Is w d y.2 →
      Calls Try.prog 45 #[.agg #[sV x.1, .int .i64 c.k, .int .i64 c.n, sV c.s, .slice c.la c.ln c.lc, .slice c.fa c.fn c.fc], .agg #[sV y.1, .int .i64 d.k, .int .i64 d.n, sV d.s, .slice d.la d.ln d.lc, .slice d.fa d.fn d.fc]] w fun e w' => e = .returned (.int .i64 (cmpP x y)) ∧ Below w.heap.size w w')
    (v v' : Value) (w : World) (hv : Flds w v l) (hv' : Flds w v' l') :
    Calls Try.prog 44 #[v, v', .func (.func 45) #[] #[]] w fun e w' => e = .returned (.int .i64 (lexL cmpP l l')) ∧ Below w.heap.size w w' := by
  obtain ⟨ao, cap, rfl, hlc, hlm⟩ := hv.form
  obtain ⟨ao', cap', rfl, hlc', hlm'⟩ := hv'.form
  unfold maxLen at hlm hlm'
  go_enter Try.func44, Try.ntmps44
  go_wp2
  go_loopg [13] l.length (fun g i wr => ∃ k : Nat, k ≤ l.length ∧ g = l.length - k ∧ i = .int .i64 k ∧ k ≤ l'.length ∧ Below w.heap.size w wr ∧ Hid (lexL cmpP (l.drop k) (l'.drop k) = lexL cmpP l l'))
  case atStart => exact ⟨0, Nat.zero_le _, rfl, rfl, Nat.zero_le _, Below.refl _ _, Lib.hid (by simp)⟩
  case round =>
    obtain ⟨k, hk, hg, rfl, hk', hb, HE⟩ := hrel
    have HG := Lib.hid hg
    clear hg
    by_cases hlt : k < l.length
    · have hx := get_some hlt
      have hdx := List.drop_eq_getElem_cons hlt
      generalize l[k] = x at hx hdx
      obtain ⟨b, off, c, rfl, hbl, hI, q, q0, q1, q2, q3, q4⟩ := hv.at hb hx
      have HX := Lib.hid (And.intro hx hdx)
      clear hx hdx
      have hB := hb.alloc hb.size (.cells #[sV x.1, .int .i64 c.k, .int .i64 c.n, sV c.s, .slice c.la c.ln c.lc, .slice c.fa c.fn c.fc] 35)
      have hI' := hI.all ((Below.refl wr.heap.size wr).alloc (Nat.le_refl _) (.cells #[sV x.1, .int .i64 c.k, .int .i64 c.n, sV c.s, .slice c.la c.ln c.lc, .slice c.fa c.fn c.fc] 35))
      have oN : Own (wr.alloc (.cells #[sV x.1, .int .i64 c.k, .int .i64 c.n, sV c.s, .slice c.la c.ln c.lc, .slice c.fa c.fn c.fc] 35)) wr.heap.size [sV x.1, .int .i64 c.k, .int .i64 c.n, sV c.s, .slice c.la c.ln c.lc, .slice c.fa c.fn c.fc] 35 := Own.new _ _ _
      by_cases hlt' : k < l'.length
      · have hy := get_some hlt'
        have hdy := List.drop_eq_getElem_cons hlt'
        generalize l'[k] = y at hy hdy
        obtain ⟨b', off', d, rfl, hbl', hJ, r, r0, r1, r2, r3, r4⟩ := hv'.at hB hy
        have HY := Lib.hid (And.intro hy hdy)
        clear hy hdy
        have hB2 := hB.alloc hB.size (.cells #[sV y.1, .int .i64 d.k, .int .i64 d.n, sV d.s, .slice d.la d.ln d.lc, .slice d.fa d.fn d.fc] 35)
        have hI2 := hI'.all ((Below.refl (wr.alloc (.cells #[sV x.1, .int .i64 c.k, .int .i64 c.n, sV c.s, .slice c.la c.ln c.lc, .slice c.fa c.fn c.fc] 35)).heap.size (wr.alloc (.cells #[sV x.1, .int .i64 c.k, .int .i64 c.n, sV c.s, .slice c.la c.ln c.lc, .slice c.fa c.fn c.fc] 35))).alloc (Nat.le_refl _) (.cells #[sV y.1, .int .i64 d.k, .int .i64 d.n, sV d.s, .slice d.la d.ln d.lc, .slice d.fa d.fn d.fc] 35))
        have hJ2 := hJ.all ((Below.refl (wr.alloc (.cells #[sV x.1, .int .i64 c.k, .int .i64 c.n, sV c.s, .slice c.la c.ln c.lc, .slice c.fa c.fn c.fc] 35)).heap.size (wr.alloc (.cells #[sV x.1, .int .i64 c.k, .int .i64 c.n, sV c.s, .slice c.la c.ln c.lc, .slice c.fa c.fn c.fc] 35))).alloc (Nat.le_refl _) (.cells #[sV y.1, .int .i64 d.k, .int .i64 d.n, sV d.s, .slice d.la d.ln d.lc, .slice d.fa d.fn d.fc] 35))
        have C := Lib.hid (H k x y HX.out.1 HY.out.1 c d _ hI2 hJ2)
        have HB := Lib.hid hB2
        clear hB hB2 hI hI' hI2 hJ hJ2 hb H oN
        go_wp2_with fail
        refine C.out.mono ?_
        rintro e w2 ⟨rfl, hb2⟩
        by_cases hc : cmpP x y = 0
        · have hc2 : (cmpP x y == 0) = true := by rw [hc]; rfl
          have HC := Lib.hid hc
          clear hc
          go_wp2
          go_roundg (l.length - (k + 1))
          case measure => have := HG.out; omega
          case rel => exact ⟨k + 1, by omega, rfl, by go_num, by omega, below_all HB.out hb2, Lib.hid (by rw [← HE.out, HX.out.2, HY.out.2, lexL, lexi, if_pos HC.out])⟩
        · have HC := Lib.hid hc
          go_wp2
          go_ret
          exact ⟨ret_int (by rw [← HE.out, HX.out.2, HY.out.2, lexL, lexi, if_neg HC.out]), below_all HB.out hb2⟩
      · have hge : (l'.length : Int) ≤ k := by omega
        have HY : Hid (l'.drop k = []) := Lib.hid (List.drop_eq_nil_of_le (by omega))
        have HB := Lib.hid hB
        clear hB hI hI' hb H oN
        go_wp2
        go_ret
        exact ⟨ret_int (by rw [← HE.out, HX.out.2, HY.out, lexL]), HB.out⟩
    · obtain rfl : k = l.length := by omega
      clear H
      by_cases hlt' : l.length < l'.length
      · go_wp2
        go_ret
        exact ⟨ret_int (by rw [← HE.out, List.drop_length, List.drop_eq_getElem_cons hlt', lexL]), hb⟩
      · have hge : ¬ (l.length : Int) < l'.length := by omega
        go_wp2
        go_ret
        exact ⟨ret_int (by rw [← HE.out, List.drop_length, List.drop_eq_nil_of_le (by omega), lexL]), hb⟩
end Go.Proofs.Ytmmembmohkideaa
namespace Go.Proofs.Ytmmembmohkideaa
open Go.RowKit Go.Sort Go.Proofs.LawFrame

set_option maxHeartbeats 1000000 in
theorem compareFields_of (x y : Str × T) (H : ∀ (c d : VC) (w : World), Is w c x.2 → Is w d y.2 → Calls Try.prog 17 #[c.val, d.val] w fun e w' => e = .returned (.int .i64 (cmpT x.2 y.2)) ∧ Below w.heap.size w w')
    (c d : VC) (w : World) (hI : Is w c x.2) (hJ : Is w d y.2) :
    Calls Try.prog 45 #[.agg #[sV x.1, .int .i64 c.k, .int .i64 c.n, sV c.s, .slice c.la c.ln c.lc, .slice c.fa c.fn c.fc], .agg #[sV y.1, .int .i64 d.k, .int .i64 d.n, sV d.s, .slice d.la d.ln d.lc, .slice d.fa d.fn d.fc]] w fun e w' => e = .returned (.int .i64 (cmpP x y)) ∧ Below w.heap.size w w' := by
  have hw0 : Below w.heap.size w ((w.alloc (.cells #[sV x.1, .int .i64 c.k, .int .i64 c.n, sV c.s, .slice c.la c.ln c.lc, .slice c.fa c.fn c.fc] 35)).alloc (.cells #[sV y.1, .int .i64 d.k, .int .i64 d.n, sV d.s, .slice d.la d.ln d.lc, .slice d.fa d.fn d.fc] 35)) := ((Below.refl _ _).alloc (Nat.le_refl _) _).alloc (by simp) _
  have hc : ∃ r, r = cmpS x.1 y.1 := ⟨_, rfl⟩
  by_cases h0 : cmpS x.1 y.1 = 0
  · have hz : (cmpS x.1 y.1 == 0) = true := by rw [h0]; rfl
    have HE : Hid (cmpP x y = cmpT x.2 y.2) := Lib.hid (by unfold cmpP lexi; rw [if_pos h0])
    have C := Lib.hid (H c d _ (hI.all hw0) (hJ.all hw0))
    clear H h0 hI hJ
    go_enter Try.func45, Try.ntmps45
    go_wp2_with fail
    refine (strCmp_any _ _ _).mono ?_
    rintro e w' ⟨rfl, rfl⟩
    go_wp2_with fail
    refine C.out.mono ?_
    rintro e w2 ⟨rfl, hb2⟩
    go_wp2
    go_ret
    exact ⟨ret_int HE.out.symm, below_all hw0 hb2⟩
  · have HE : Hid (cmpP x y = cmpS x.1 y.1) := Lib.hid (by unfold cmpP lexi; rw [if_neg h0])
    have hz : (cmpS x.1 y.1 == 0) = false := by rw [beq_eq_false_iff_ne]; exact h0
    clear H hI hJ
    go_enter Try.func45, Try.ntmps45
    go_wp2_with fail
    refine (strCmp_any _ _ _).mono ?_
    rintro e w' ⟨rfl, rfl⟩
    go_wp2
    go_ret
    exact ⟨ret_int HE.out.symm, hw0⟩

set_option maxHeartbeats 2000000 in
theorem compare_any : ∀ (N : Nat) (t : T), SizeOf.sizeOf t ≤ N → ∀ (t' : T) (c d : VC) (w : World), Is w c t → Is w d t' →
    Calls Try.prog 17 #[c.val, d.val] w fun e w' => e = .returned (.int .i64 (cmpT t t')) ∧ Below w.heap.size w w' := by
  intro N
  induction N with
  | zero => rintro ⟨k, n, s, l, f⟩ h; simp at h
  | succ N ih =>
    rintro ⟨k, n, s, l, f⟩ hN ⟨k2, n2, s2, l2, f2⟩ ⟨k', n', s', la, ln, lc, fa, fn, fc⟩ ⟨k2', n2', s2', la2, ln2, lc2, fa2, fn2, fc2⟩ w hI hJ
    obtain ⟨rfl, rfl, rfl⟩ : k' = k ∧ n' = n ∧ s' = s := hI.same
    obtain ⟨rfl, rfl, rfl⟩ : k2' = k2 ∧ n2' = n2 ∧ s2' = s2 := hJ.same
    have hl := hI.vals
    have hf := hI.flds
    have hl2 := hJ.vals
    have hf2 := hJ.flds
    clear hI hJ
    have hw0 : Below w.heap.size w ((w.alloc (.cells #[.int .i64 k', .int .i64 n', sV s', .slice la ln lc, .slice fa fn fc] 25)).alloc (.cells #[.int .i64 k2', .int .i64 n2', sV s2', .slice la2 ln2 lc2, .slice fa2 fn2 fc2] 25)) := ((Below.refl _ _).alloc (Nat.le_refl _) _).alloc (by simp) _
    have oA : Own ((w.alloc (.cells #[.int .i64 k', .int .i64 n', sV s', .slice la ln lc, .slice fa fn fc] 25)).alloc (.cells #[.int .i64 k2', .int .i64 n2', sV s2', .slice la2 ln2 lc2, .slice fa2 fn2 fc2] 25)) w.heap.size [.int .i64 k', .int .i64 n', sV s', .slice la ln lc, .slice fa fn fc] 25 := (Own.new _ _ _).alloc _
    have oB : Own ((w.alloc (.cells #[.int .i64 k', .int .i64 n', sV s', .slice la ln lc, .slice fa fn fc] 25)).alloc (.cells #[.int .i64 k2', .int .i64 n2', sV s2', .slice la2 ln2 lc2, .slice fa2 fn2 fc2] 25)) (w.heap.size + 1) [.int .i64 k2', .int .i64 n2', sV s2', .slice la2 ln2 lc2, .slice fa2 fn2 fc2] 25 := Own.new_at (by rw [size_alloc]) _ _
    by_cases e1 : cmpI k' k2' = 0
    case neg =>
      have z1 : (cmpI k' k2' == 0) = false := by rw [beq_eq_false_iff_ne]; exact e1
      have HE : Hid (cmpT (.mk k' n' s' l f) (.mk k2' n2' s2' l2 f2) = cmpI k' k2') := Lib.hid (by rw [cmpT, lexi, if_neg e1])
      clear ih hl hf hl2 hf2 oA oB
      go_enter Try.func17, Try.ntmps17
      go_wp2_with fail
      refine (cmpInt_any _ _ _).mono ?_
      rintro e w' ⟨rfl, rfl⟩
      go_wp2
      go_ret
      exact ⟨ret_int HE.out.symm, hw0⟩
    have z1 : (cmpI k' k2' == 0) = true := by rw [e1]; rfl
    by_cases e2 : cmpI n' n2' = 0
    case neg =>
      have z2 : (cmpI n' n2' == 0) = false := by rw [beq_eq_false_iff_ne]; exact e2
      have HE : Hid (cmpT (.mk k' n' s' l f) (.mk k2' n2' s2' l2 f2) = cmpI n' n2') := Lib.hid (by rw [cmpT, lexi, if_pos e1, lexi, if_neg e2])
      clear ih hl hf hl2 hf2 oA oB e1
      go_enter Try.func17, Try.ntmps17
      go_wp2_with fail
      refine (cmpInt_any _ _ _).mono ?_
      rintro e w' ⟨rfl, rfl⟩
      go_wp2_with fail
      refine (cmpInt_any _ _ _).mono ?_
      rintro e w' ⟨rfl, rfl⟩
      go_wp2
      go_ret
      exact ⟨ret_int HE.out.symm, hw0⟩
    have z2 : (cmpI n' n2' == 0) = true := by rw [e2]; rfl
    by_cases e3 : cmpS s' s2' = 0
    case neg =>
      have z3 : (cmpS s' s2' == 0) = false := by rw [beq_eq_false_iff_ne]; exact e3
      have HE : Hid (cmpT (.mk k' n' s' l f) (.mk k2' n2' s2' l2 f2) = cmpS s' s2') := Lib.hid (by rw [cmpT, lexi, if_pos e1, lexi, if_pos e2, lexi, if_neg e3])
      clear ih hl hf hl2 hf2 oA oB e1 e2
      go_enter Try.func17, Try.ntmps17
      go_wp2_with fail
      refine (cmpInt_any _ _ _).mono ?_
      rintro e w' ⟨rfl, rfl⟩
      go_wp2_with fail
      refine (cmpInt_any _ _ _).mono ?_
      rintro e w' ⟨rfl, rfl⟩
      go_wp2_with fail
      refine (strCmp_any _ _ _).mono ?_
      rintro e w' ⟨rfl, rfl⟩
      go_wp2
      go_ret
      exact ⟨ret_int HE.out.symm, hw0⟩
    have z3 : (cmpS s' s2' == 0) = true := by rw [e3]; rfl
    have HE : Hid (cmpT (.mk k' n' s' l f) (.mk k2' n2' s2' l2 f2) = lexi (lexL cmpT l l2) (lexL cmpP f f2)) := Lib.hid (by rw [cmpT, lexi, if_pos e1, lexi, if_pos e2, lexi, if_pos e3, cmpL_eq, cmpF_eq])
    clear e1 e2 e3
    have CL := Lib.hid (cmpFuncL_any l l2 (fun i x y hx hy c d w hc hd => ih x (by have := sizeOf_l (k := k') (n := n') (s := s') (f := f) (List.mem_of_getElem? hx); omega) y c d w hc hd) _ _ _ (hl.all hw0) (hl2.all hw0))
    have CF := Lib.hid (fun w0 (h1 : Flds w0 (.slice fa fn fc) f) (h2 : Flds w0 (.slice fa2 fn2 fc2) f2) => cmpFuncF_any f f2 (fun i x y hx hy c d w hc hd => compareFields_of x y (fun c d w hc hd => ih x.2 (by have := sizeOf_f (k := k') (n := n') (s := s') (l := l) (List.mem_of_getElem? hx); omega) y.2 c d w hc hd) c d w hc hd) _ _ w0 h1 h2)
    clear ih
    go_enter Try.func17, Try.ntmps17
    go_wp2_with fail
    refine (cmpInt_any _ _ _).mono ?_
    rintro e w' ⟨rfl, rfl⟩
    go_wp2_with fail
    refine (cmpInt_any _ _ _).mono ?_
    rintro e w' ⟨rfl, rfl⟩
    go_wp2_with fail
    refine (strCmp_any _ _ _).mono ?_
    rintro e w' ⟨rfl, rfl⟩
    go_wp2_with fail
    refine CL.out.mono ?_
    rintro e w1 ⟨rfl, hb1⟩
    have hb01 := below_all hw0 hb1
    have oA1 := oA.all hb1
    have oB1 := oB.all hb1
    clear CL hw0 hb1 oA oB
    have sA : w1.cell? ⟨w.heap.size, 4, none⟩ = some (.slice fa fn fc) := oA1.cell rfl
    have sB : w1.cell? ⟨w.heap.size + 1, 4, none⟩ = some (.slice fa2 fn2 fc2) := oB1.cell rfl
    by_cases e4 : lexL cmpT l l2 = 0
    · have z4 : (lexL cmpT l l2 == 0) = true := by rw [e4]; rfl
      have HE4 := Lib.hid e4
      clear e4
      have C := Lib.hid (CF.out w1 (hf.all hb01) (hf2.all hb01))
      clear CF oA1 oB1 hl hf hl2 hf2
      go_wp2_with fail
      refine C.out.mono ?_
      rintro e w2 ⟨rfl, hb2⟩
      go_wp2
      go_ret
      exact ⟨ret_int (by rw [HE.out, lexi, if_pos HE4.out]), below_all hb01 hb2⟩
    · have z4 : (lexL cmpT l l2 == 0) = false := by rw [beq_eq_false_iff_ne]; exact e4
      clear CF oA1 oB1 hl hf hl2 hf2
      go_wp2
      go_ret
      exact ⟨ret_int (by rw [HE.out, lexi, if_neg e4]), hb01⟩

set_option maxHeartbeats 400000 in
theorem equal_any (t t' : T) (c d : VC) (w : World) (hI : Is w c t) (hJ : Is w d t') :
    Calls Try.prog 19 #[c.val, d.val] w fun e w' => e = .returned (.bool (cmpT t t' == 0)) ∧ Below w.heap.size w w' := by
  have hw0 : Below w.heap.size w ((w.alloc (.cells #[.int .i64 c.k, .int .i64 c.n, sV c.s, .slice c.la c.ln c.lc, .slice c.fa c.fn c.fc] 25)).alloc (.cells #[.int .i64 d.k, .int .i64 d.n, sV d.s, .slice d.la d.ln d.lc, .slice d.fa d.fn d.fc] 25)) := ((Below.refl _ _).alloc (Nat.le_refl _) _).alloc (by simp) _
  have C := Lib.hid (compare_any _ t (Nat.le_refl _) t' c d _ (hI.all hw0) (hJ.all hw0))
  clear hI hJ
  go_enter Try.func19, Try.ntmps19
  go_wp2_with fail
  refine C.out.mono ?_
  rintro e w2 ⟨rfl, hb2⟩
  go_wp2
  go_ret
  exact ⟨rfl, below_all hw0 hb2⟩
end Go.Proofs.Ytmmembmohkideaa
