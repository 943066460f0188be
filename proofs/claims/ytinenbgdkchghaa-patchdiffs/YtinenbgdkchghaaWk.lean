/- Contracts of slices.CompareFunc at values and at fields. -/
import Derived.Test.YtinenbgdkchghaaWmJ
set_option linter.unusedSimpArgs false
set_option linter.unusedVariables false
namespace Go.Proofs.Ytinenbgdkchghaa
open Go.RowKit Go.Sort Go.Proofs.LawFrame

set_option maxHeartbeats 400000 in
theorem isNaN_any (x : Int) (w : World) : Calls Try.prog 61 #[.int .i64 x] w fun e w' => e = .returned (.bool false) ∧ w = w' := by
  go_enter Try.func61, Try.ntmps61
  go_wp2
  go_ret
  exact ⟨rfl, rfl⟩
set_option maxHeartbeats 400000 in
theorem cmpInt_any (x y : Int) (w : World) : Calls Try.prog 55 #[.int .i64 x, .int .i64 y] w fun e w' => e = .returned (.int .i64 (cmpI x y)) ∧ w = w' := by
  unfold cmpI
  by_cases h1 : x < y
  · rw [if_pos h1]
    go_enter Try.func55, Try.ntmps55
    go_wp2_with (go_at_call 61; refine (isNaN_any _ _).mono ?_; rintro e w' ⟨rfl, rfl⟩)
    go_ret
    exact ⟨rfl, rfl⟩
  · by_cases h2 : y < x
    · rw [if_neg h1, if_pos h2]
      go_enter Try.func55, Try.ntmps55
      go_wp2_with (go_at_call 61; refine (isNaN_any _ _).mono ?_; rintro e w' ⟨rfl, rfl⟩)
      go_ret
      exact ⟨rfl, rfl⟩
    · rw [if_neg h1, if_neg h2]
      go_enter Try.func55, Try.ntmps55
      go_wp2_with (go_at_call 61; refine (isNaN_any _ _).mono ?_; rintro e w' ⟨rfl, rfl⟩)
      go_ret
      exact ⟨rfl, rfl⟩

set_option maxHeartbeats 2000000 in
theorem cmpFuncL_any (l l' : List T) (H : ∀ (i : Nat) (x y : T), l[i]? = some x → l'[i]? = some y → ∀ (c d : VC) (w : World), Is w c x → Is w d y →
      Calls Try.prog 50 #[.agg #[.int .i64 c.k, .int .i64 c.n, sV c.s, .slice c.la c.ln c.lc, .slice c.fa c.fn c.fc], .agg #[.int .i64 d.k, .int .i64 d.n, sV d.s, .slice d.la d.ln d.lc, .slice d.fa d.fn d.fc]] w fun e w' => e = .returned (.int .i64 (cmpT x y)) ∧ Below w.heap.size w w')
    (v v' : Value) (w : World) (hv : Vals w v l) (hv' : Vals w v' l') :
    Calls Try.prog 56 #[v, v', .func (.func 50) #[] #[]] w fun e w' => e = .returned (.int .i64 (lexL cmpT l l')) ∧ Below w.heap.size w w' := by
  obtain ⟨ao, cap, rfl, hlc, hlm⟩ := hv.form
  obtain ⟨ao', cap', rfl, hlc', hlm'⟩ := hv'.form
  unfold maxLen at hlm hlm'
  go_enter Try.func56, Try.ntmps56
  go_wp2
  go_loopg [13] l.length (fun g i wr => ∃ k : Nat, k ≤ l.length ∧ g = l.length - k ∧ i = .int .i64 k ∧ k ≤ l'.length ∧ Below w.heap.size w wr ∧ Hid (lexL cmpT (l.drop k) (l'.drop k) = lexL cmpT l l'))
  case atStart => exact ⟨0, Nat.zero_le _, rfl, rfl, Nat.zero_le _, Below.refl _ _, Lib.hid (by simp)⟩
  case round =>
    obtain ⟨k, hk, hg, rfl, hk', hb, HE⟩ := hrel
    have HG := Lib.hid hg
    clear hg
    by_cases hlt : k < l.length
    · have hx := get_some hlt
      have hdx := List.drop_eq_getElem_cons hlt
      generalize l[k] = x at hx hdx
      obtain ⟨b, off, c, rfl, hbl, hI, q0, q1, q2, q3, q4⟩ := hv.at hb hx
      have HX := Lib.hid (And.intro hx hdx)
      clear hx hdx
      have hB := hb.alloc hb.size (.cells #[.int .i64 c.k, .int .i64 c.n, sV c.s, .slice c.la c.ln c.lc, .slice c.fa c.fn c.fc] 25)
      have hI' := hI.all ((Below.refl wr.heap.size wr).alloc (Nat.le_refl _) (.cells #[.int .i64 c.k, .int .i64 c.n, sV c.s, .slice c.la c.ln c.lc, .slice c.fa c.fn c.fc] 25))
      have oN : Own (wr.alloc (.cells #[.int .i64 c.k, .int .i64 c.n, sV c.s, .slice c.la c.ln c.lc, .slice c.fa c.fn c.fc] 25)) wr.heap.size [.int .i64 c.k, .int .i64 c.n, sV c.s, .slice c.la c.ln c.lc, .slice c.fa c.fn c.fc] 25 := Own.new _ _ _
      by_cases hlt' : k < l'.length
      · have hy := get_some hlt'
        have hdy := List.drop_eq_getElem_cons hlt'
        generalize l'[k] = y at hy hdy
        obtain ⟨b', off', d, rfl, hbl', hJ, r0, r1, r2, r3, r4⟩ := hv'.at hB hy
        have HY := Lib.hid (And.intro hy hdy)
        clear hy hdy
        have hB2 := hB.alloc hB.size (.cells #[.int .i64 d.k, .int .i64 d.n, sV d.s, .slice d.la d.ln d.lc, .slice d.fa d.fn d.fc] 25)
        have hI2 := hI'.all ((Below.refl (wr.alloc (.cells #[.int .i64 c.k, .int .i64 c.n, sV c.s, .slice c.la c.ln c.lc, .slice c.fa c.fn c.fc] 25)).heap.size (wr.alloc (.cells #[.int .i64 c.k, .int .i64 c.n, sV c.s, .slice c.la c.ln c.lc, .slice c.fa c.fn c.fc] 25))).alloc (Nat.le_refl _) (.cells #[.int .i64 d.k, .int .i64 d.n, sV d.s, .slice d.la d.ln d.lc, .slice d.fa d.fn d.fc] 25))
        have hJ2 := hJ.all ((Below.refl (wr.alloc (.cells #[.int .i64 c.k, .int .i64 c.n, sV c.s, .slice c.la c.ln c.lc, .slice c.fa c.fn c.fc] 25)).heap.size (wr.alloc (.cells #[.int .i64 c.k, .int .i64 c.n, sV c.s, .slice c.la c.ln c.lc, .slice c.fa c.fn c.fc] 25))).alloc (Nat.le_refl _) (.cells #[.int .i64 d.k, .int .i64 d.n, sV d.s, .slice d.la d.ln d.lc, .slice d.fa d.fn d.fc] 25))
        have C := Lib.hid (H k x y HX.out.1 HY.out.1 c d _ hI2 hJ2)
        have HB := Lib.hid hB2
        clear hB hB2 hI hI' hI2 hJ hJ2 hb H oN
        go_wp2_with fail
        refine C.out.mono ?_
        rintro e w2 ⟨rfl, hb2⟩
        by_cases hc : cmpT x y = 0
        · have hc2 : (cmpT x y == 0) = true := by rw [hc]; rfl
          have HC := Lib.hid hc
          clear hc
          go_wp2
          go_roundg (l.length - (k + 1))
          case measure => have := HG.out; omega
          case rel => exact ⟨k + 1, by omega, rfl, by go_num, by omega, below_all HB.out hb2, Lib.hid (by rw [← HE.out, HX.out.2, HY.out.2, lexL, lexi, if_pos HC.out])⟩
        · have HC := Lib.hid hc
          go_wp2
          go_ret
          exact ⟨ret_int (by rw [← HE.out, HX.out.2, HY.out.2, lexL, lexi, if_neg HC.out]), below_all HB.out hb2⟩
      · have hge : (l'.length : Int) ≤ k := by omega
        have HY : Hid (l'.drop k = []) := Lib.hid (List.drop_eq_nil_of_le (by omega))
        have HB := Lib.hid hB
        clear hB hI hI' hb H oN
        go_wp2
        go_ret
        exact ⟨ret_int (by rw [← HE.out, HX.out.2, HY.out, lexL]), HB.out⟩
    · obtain rfl : k = l.length := by omega
      clear H
      by_cases hlt' : l.length < l'.length
      · go_wp2
        go_ret
        exact ⟨ret_int (by rw [← HE.out, List.drop_length, List.drop_eq_getElem_cons hlt', lexL]), hb⟩
      · have hge : ¬ (l.length : Int) < l'.length := by omega
        go_wp2
        go_ret
        exact ⟨ret_int (by rw [← HE.out, List.drop_length, List.drop_eq_nil_of_le (by omega), lexL]), hb⟩

set_option maxHeartbeats 2000000 in
theorem cmpFuncF_any (l l' : List (Str × T)) (H : ∀ (i : Nat) (x y : (Str × T)), l[i]? = some x → l'[i]? = some y → ∀ (c d : VC) (w : World), Is w c x.2 → Is w d y.2 →
      Calls Try.prog 58 #[.agg #[sV x.1, .int .i64 c.k, .int .i64 c.n, sV c.s, .slice c.la c.ln c.lc, .slice c.fa c.fn c.fc], .agg #[sV y.1, .int .i64 d.k, .int .i64 d.n, sV d.s, .slice d.la d.ln d.lc, .slice d.fa d.fn d.fc]] w fun e w' => e = .returned (.int .i64 (cmpP x y)) ∧ Below w.heap.size w w')
    (v v' : Value) (w : World) (hv : Flds w v l) (hv' : Flds w v' l') :
    Calls Try.prog 57 #[v, v', .func (.func 58) #[] #[]] w fun e w' => e = .returned (.int .i64 (lexL cmpP l l')) ∧ Below w.heap.size w w' := by
  obtain ⟨ao, cap, rfl, hlc, hlm⟩ := hv.form
  obtain ⟨ao', cap', rfl, hlc', hlm'⟩ := hv'.form
  unfold maxLen at hlm hlm'
  go_enter Try.func57, Try.ntmps57
  go_wp2
  go_loopg [13] l.length (fun g i wr => ∃ k : Nat, k ≤ l.length ∧ g = l.length - k ∧ i = .int .i64 k ∧ k ≤ l'.length ∧ Below w.heap.size w wr ∧ Hid (lexL cmpP (l.drop k) (l'.drop k) = lexL cmpP l l'))
  case atStart => exact ⟨0, Nat.zero_le _, rfl, rfl, Nat.zero_le _, Below.refl _ _, Lib.hid (by simp)⟩
  case round =>
    obtain ⟨k, hk, hg, rfl, hk', hb, HE⟩ := hrel
    have HG := Lib.hid hg
    clear hg
    by_cases hlt : k < l.length
    · have hx := get_some hlt
      have hdx := List.drop_eq_getElem_cons hlt
      generalize l[k] = x at hx hdx
      obtain ⟨b, off, c, rfl, hbl, hI, q, q0, q1, q2, q3, q4⟩ := hv.at hb hx
      have HX := Lib.hid (And.intro hx hdx)
      clear hx hdx
      have hB := hb.alloc hb.size (.cells #[sV x.1, .int .i64 c.k, .int .i64 c.n, sV c.s, .slice c.la c.ln c.lc, .slice c.fa c.fn c.fc] 33)
      have hI' := hI.all ((Below.refl wr.heap.size wr).alloc (Nat.le_refl _) (.cells #[sV x.1, .int .i64 c.k, .int .i64 c.n, sV c.s, .slice c.la c.ln c.lc, .slice c.fa c.fn c.fc] 33))
      have oN : Own (wr.alloc (.cells #[sV x.1, .int .i64 c.k, .int .i64 c.n, sV c.s, .slice c.la c.ln c.lc, .slice c.fa c.fn c.fc] 33)) wr.heap.size [sV x.1, .int .i64 c.k, .int .i64 c.n, sV c.s, .slice c.la c.ln c.lc, .slice c.fa c.fn c.fc] 33 := Own.new _ _ _
      by_cases hlt' : k < l'.length
      · have hy := get_some hlt'
        have hdy := List.drop_eq_getElem_cons hlt'
        generalize l'[k] = y at hy hdy
        obtain ⟨b', off', d, rfl, hbl', hJ, r, r0, r1, r2, r3, r4⟩ := hv'.at hB hy
        have HY := Lib.hid (And.intro hy hdy)
        clear hy hdy
        have hB2 := hB.alloc hB.size (.cells #[sV y.1, .int .i64 d.k, .int .i64 d.n, sV d.s, .slice d.la d.ln d.lc, .slice d.fa d.fn d.fc] 33)
        have hI2 := hI'.all ((Below.refl (wr.alloc (.cells #[sV x.1, .int .i64 c.k, .int .i64 c.n, sV c.s, .slice c.la c.ln c.lc, .slice c.fa c.fn c.fc] 33)).heap.size (wr.alloc (.cells #[sV x.1, .int .i64 c.k, .int .i64 c.n, sV c.s, .slice c.la c.ln c.lc, .slice c.fa c.fn c.fc] 33))).alloc (Nat.le_refl _) (.cells #[sV y.1, .int .i64 d.k, .int .i64 d.n, sV d.s, .slice d.la d.ln d.lc, .slice d.fa d.fn d.fc] 33))
        have hJ2 := hJ.all ((Below.refl (wr.alloc (.cells #[sV x.1, .int .i64 c.k, .int .i64 c.n, sV c.s, .slice c.la c.ln c.lc, .slice c.fa c.fn c.fc] 33)).heap.size (wr.alloc (.cells #[sV x.1, .int .i64 c.k, .int .i64 c.n, sV c.s, .slice c.la c.ln c.lc, .slice c.fa c.fn c.fc] 33))).alloc (Nat.le_refl _) (.cells #[sV y.1, .int .i64 d.k, .int .i64 d.n, sV d.s, .slice d.la d.ln d.lc, .slice d.fa d.fn d.fc] 33))
        have C := Lib.hid (H k x y HX.out.1 HY.out.1 c d _ hI2 hJ2)
        have HB := Lib.hid hB2
        clear hB hB2 hI hI' hI2 hJ hJ2 hb H oN
        go_wp2_with fail
        refine C.out.mono ?_
        rintro e w2 ⟨rfl, hb2⟩
        by_cases hc : cmpP x y = 0
        · have hc2 : (cmpP x y == 0) = true := by rw [hc]; rfl
          have HC := Lib.hid hc
          clear hc
          go_wp2
          go_roundg (l.length - (k + 1))
          case measure => have := HG.out; omega
          case rel => exact ⟨k + 1, by omega, rfl, by go_num, by omega, below_all HB.out hb2, Lib.hid (by rw [← HE.out, HX.out.2, HY.out.2, lexL, lexi, if_pos HC.out])⟩
        · have HC := Lib.hid hc
          go_wp2
          go_ret
          exact ⟨ret_int (by rw [← HE.out, HX.out.2, HY.out.2, lexL, lexi, if_neg HC.out]), below_all HB.out hb2⟩
      · have hge : (l'.length : Int) ≤ k := by omega
        have HY : Hid (l'.drop k = []) := Lib.hid (List.drop_eq_nil_of_le (by omega))
        have HB := Lib.hid hB
        clear hB hI hI' hb H oN
        go_wp2
        go_ret
        exact ⟨ret_int (by rw [← HE.out, HX.out.2, HY.out, lexL]), HB.out⟩
    · obtain rfl : k = l.length := by omega
      clear H
      by_cases hlt' : l.length < l'.length
      · go_wp2
        go_ret
        exact ⟨ret_int (by rw [← HE.out, List.drop_length, List.drop_eq_getElem_cons hlt', lexL]), hb⟩
      · have hge : ¬ (l.length : Int) < l'.length := by omega
        go_wp2
        go_ret
        exact ⟨ret_int (by rw [← HE.out, List.drop_length, List.drop_eq_nil_of_le (by omega), lexL]), hb⟩
end Go.Proofs.Ytinenbgdkchghaa
