/- The reference's field, has, Find. The reference's Find. -/
import Derived.Test.YtjpmnlefjmdelaaGreatDoorXkJ
import Derived.Test.YtjpmnlefjmdelaaGreatDoorXnJ
set_option linter.unusedSimpArgs false
set_option linter.unusedVariables false
namespace Go.Proofs.YtjpmnlefjmdelaaGreatDoor
open Go.RowKit Go.Sort Go.Proofs.LawFrame

theorem plF_none {nm : Str} {f : List (Str × T)} (h : ∀ (j : Nat) (p : Str × T), f[j]? = some p → ¬ p.1 = nm) : plF nm f = none := by
  unfold plF
  rw [List.findIdx?_eq_none_iff]
  intro p hp
  obtain ⟨j, hj⟩ := List.getElem?_of_mem hp
  simpa using h j p hj
theorem plF_some {nm : Str} {f : List (Str × T)} {k : Nat} {p : Str × T} (hp : f[k]? = some p) (he : p.1 = nm) (h : ∀ (j : Nat) (p : Str × T), j < k → f[j]? = some p → ¬ p.1 = nm) : plF nm f = some k := by
  unfold plF
  rw [List.findIdx?_eq_some_iff_getElem]
  obtain ⟨hk, e⟩ := List.getElem?_eq_some_iff.1 hp
  refine ⟨hk, by rw [e]; simpa using he, fun j hj => ?_⟩
  have := h j _ hj (List.getElem?_eq_getElem (by omega))
  simpa using this
set_option maxHeartbeats 4000000 in
set_option maxRecDepth 4000 in
theorem pfield_any (c : VC) (t : T) (nm : Str) (w : World) (hI : Is w c t) : Calls Tryz.prog 115 #[c.val, sV nm] w fun e w' => e = .returned (.int .i64 (ixO (plK nm t))) ∧ Below w.heap.size w w' := by
  obtain ⟨k, n, s, l, f⟩ := t
  obtain ⟨k', n', s', la, ln, lc, fa, fn, fc⟩ := c
  obtain ⟨rfl, rfl, rfl⟩ : k' = k ∧ n' = n ∧ s' = s := hI.same
  have hf := hI.flds
  clear hI
  obtain ⟨rfl, hfc, hfm⟩ := hf.slice
  unfold maxLen at hfm
  have hw0 := below_alloc w (.cells #[.int .i64 k', .int .i64 n', sV s', .slice la ln lc, .slice fa f.length fc] 25)
  have o0 := Own.new w [.int .i64 k', .int .i64 n', sV s', .slice la ln lc, .slice fa f.length fc] 25
  have HO := Lib.hid (And.intro hw0 o0)
  clear hw0 o0
  show Calls Tryz.prog 115 #[.agg #[.int .i64 k', .int .i64 n', sV s', .slice la ln lc, .slice fa f.length fc], sV nm] w _
  go_enter Tryz.func115, Tryz.ntmps115
  go_upto_region 1 with (fail)
  change Code.wp Tryz.prog _ _ _ (w.alloc (.cells #[.int .i64 k', .int .i64 n', sV s', .slice la ln lc, .slice fa f.length fc] 25))
  generalize w.alloc (.cells #[.int .i64 k', .int .i64 n', sV s', .slice la ln lc, .slice fa f.length fc] 25) = V at *
  go_wp2
  go_loopg [5] f.length (fun g i wr => ∃ j : Nat, j ≤ f.length ∧ g = f.length - j ∧ i = .int .i64 j ∧ Below w.heap.size w wr ∧ Own wr w.heap.size [.int .i64 k', .int .i64 n', sV s', .slice la ln lc, .slice fa f.length fc] 25 ∧ Hid (k' = 5 → ∀ (i : Nat) (p : Str × T), i < j → f[i]? = some p → ¬ p.1 = nm))
  case atStart => exact ⟨0, Nat.zero_le _, rfl, rfl, HO.out.1, HO.out.2, Lib.hid (fun _ i p h => absurd h (by omega))⟩
  case round =>
    obtain ⟨j, hj, hg, rfl, hb, o, HN⟩ := hrel
    have HG := Lib.hid hg
    clear hg HO
    have z0 := o.cell (i := 0) rfl
    have z4 := o.cell (i := 4) rfl
    by_cases hlt : j < f.length
    · have hx := get_some hlt
      generalize f[j] = p at hx
      obtain ⟨b, off, c, rfl, hbl, hIx, q, q0, q1, q2, q3, q4⟩ := hf.at hb hx
      have HX := Lib.hid hx
      have HB := Lib.hid (And.intro hb o)
      clear hx hIx q0 q1 q2 q3 q4 hb o
      by_cases h5 : k' = 5
      · have e5 : (k' == 5) = true := by rw [h5]; rfl
        by_cases hn : p.1 = nm
        · have en : (p.1 == nm) = true := by rw [hn]; simp
          have HF : Hid (plK nm (.mk k' n' s' l f) = some j) := Lib.hid (by simp only [plK, if_pos h5]; exact plF_some HX.out hn (HN.out h5))
          clear h5 hn
          go_wp2
          go_ret
          exact ⟨ret_int (by rw [HF.out]; rfl), HB.out.1⟩
        · have en : (p.1 == nm) = false := by rw [beq_eq_false_iff_ne]; exact hn
          have HN2 : Hid (k' = 5 → ∀ (i : Nat) (q : Str × T), i < j + 1 → f[i]? = some q → ¬ q.1 = nm) := Lib.hid (fun h i q hi hq => by
            by_cases e : i = j
            · subst e; rw [HX.out] at hq; cases hq; exact hn
            · exact HN.out h i q (by omega) hq)
          clear h5 hn
          go_wp2
          go_roundg (f.length - (j + 1))
          case measure => have := HG.out; omega
          case rel => exact ⟨j + 1, by omega, rfl, by go_num, HB.out.1, HB.out.2, HN2⟩
      · have e5 : (k' == 5) = false := by rw [beq_eq_false_iff_ne]; exact h5
        have HN2 : Hid (k' = 5 → ∀ (i : Nat) (q : Str × T), i < j + 1 → f[i]? = some q → ¬ q.1 = nm) := Lib.hid (fun h => absurd h h5)
        clear h5
        go_wp2
        go_roundg (f.length - (j + 1))
        case measure => have := HG.out; omega
        case rel => exact ⟨j + 1, by omega, rfl, by go_num, HB.out.1, HB.out.2, HN2⟩
    · obtain rfl : j = f.length := by omega
      have HF : Hid (plK nm (.mk k' n' s' l f) = none) := Lib.hid (by
        by_cases h5 : k' = 5
        · simp only [plK, if_pos h5]; exact plF_none (fun i p hp => HN.out h5 i p (List.getElem?_eq_some_iff.1 hp).1 hp)
        · simp only [plK, if_neg h5])
      have HB := Lib.hid hb
      clear hb o z0
      go_wp2
      go_ret
      exact ⟨ret_int (by rw [HF.out]; rfl), HB.out⟩
theorem phasK_none {nm vl : Str} {k n : Int} {s : Str} {l : List T} {f : List (Str × T)} (h : plK nm (.mk k n s l f) = none) : hasK nm vl (.mk k n s l f) = false := by
  simp only [plK] at h
  simp only [hasK]
  by_cases h5 : k = 5
  · rw [if_pos h5] at h
    rw [plF_look.2 h]; simp
  · rw [decide_eq_false h5]; rfl
theorem phasK_some {nm vl : Str} {k n : Int} {s : Str} {l : List T} {f : List (Str × T)} {i : Nat} (h : plK nm (.mk k n s l f) = some i) : ∃ p, f[i]? = some p ∧ ∀ (k2 n2 : Int) (s2 : Str) (l2 : List T) (f2 : List (Str × T)), p.2 = .mk k2 n2 s2 l2 f2 → hasK nm vl (.mk k n s l f) = (decide (k2 = 3) && decide (s2 = vl)) := by
  simp only [plK] at h
  by_cases h5 : k = 5
  · rw [if_pos h5] at h
    obtain ⟨p, g1, g2, g3⟩ := plF_look.1 i h
    refine ⟨p, g1, fun k2 n2 s2 l2 f2 e => ?_⟩
    simp only [hasK, g3, e, decide_eq_true h5, Bool.true_and]
  · rw [if_neg h5] at h; cases h
set_option maxHeartbeats 4000000 in
set_option maxRecDepth 4000 in
theorem phas_any (c : VC) (t : T) (nm vl : Str) (w : World) (hI : Is w c t) : Calls Tryz.prog 116 #[c.val, sV nm, sV vl] w fun e w' => e = .returned (.bool (hasK nm vl t)) ∧ Below w.heap.size w w' := by
  obtain ⟨k, n, s, l, f⟩ := t
  obtain ⟨k', n', s', la, ln, lc, fa, fn, fc⟩ := c
  obtain ⟨rfl, rfl, rfl⟩ : k' = k ∧ n' = n ∧ s' = s := hI.same
  have hf0 := hI.flds
  obtain ⟨rfl, hfc, hfm⟩ := hf0.slice
  unfold maxLen at hfm
  have hw0 := below_alloc w (.cells #[.int .i64 k', .int .i64 n', sV s', .slice la ln lc, .slice fa f.length fc] 25)
  have o0 := Own.new w [.int .i64 k', .int .i64 n', sV s', .slice la ln lc, .slice fa f.length fc] 25
  have HO := Lib.hid (And.intro hw0 (And.intro o0 (And.intro (hI.all hw0) hI)))
  clear hw0 o0 hI hf0
  show Calls Tryz.prog 116 #[.agg #[.int .i64 k', .int .i64 n', sV s', .slice la ln lc, .slice fa f.length fc], sV nm, sV vl] w _
  go_enter Tryz.func116, Tryz.ntmps116
  go_upto_region 1 with (fail)
  change Code.wp Tryz.prog _ _ _ (w.alloc (.cells #[.int .i64 k', .int .i64 n', sV s', .slice la ln lc, .slice fa f.length fc] 25))
  generalize w.alloc (.cells #[.int .i64 k', .int .i64 n', sV s', .slice la ln lc, .slice fa f.length fc] 25) = V at *
  have z0 := HO.out.2.1.cell (i := 0) rfl
  have z1 := HO.out.2.1.cell (i := 1) rfl
  have z2 := HO.out.2.1.cell (i := 2) rfl
  have z3 := HO.out.2.1.cell (i := 3) rfl
  have z4 := HO.out.2.1.cell (i := 4) rfl
  have C := Lib.hid (pfield_any ⟨k', n', s', la, ln, lc, fa, f.length, fc⟩ (.mk k' n' s' l f) nm V HO.out.2.2.1)
  obtain ⟨oi, hoi⟩ : ∃ oi, plK nm (.mk k' n' s' l f) = oi := ⟨_, rfl⟩
  rw [hoi] at C
  have HP := Lib.hid hoi
  clear hoi
  go_wp2_with fail
  refine C.out.mono ?_
  rintro e w1 ⟨rfl, hb1⟩
  clear C z0 z1 z2 z3 z4
  have HS := Lib.hid (And.intro (below_all HO.out.1 hb1) (HO.out.2.1.all hb1))
  clear hb1
  cases oi with
  | none =>
    have HF := Lib.hid (phasK_none (vl := vl) HP.out)
    simp only [ixO]
    go_wp2
    go_ret
    exact ⟨ret_bool (by rw [HF.out]), HS.out.1⟩
  | some i =>
    obtain ⟨p, hp, hk⟩ := phasK_some (vl := vl) HP.out
    obtain ⟨b, off, c, rfl, hbl, hIx, q, q0, q1, q2, q3, q4⟩ := HO.out.2.2.2.flds.at HS.out.1 hp
    obtain ⟨px, ⟨k2, n2, s2, l2, f2⟩⟩ := p
    have hs := hIx.same
    obtain ⟨rfl, rfl, rfl⟩ := hs
    have HK := Lib.hid (hk _ _ _ _ _ rfl)
    have hil : i < f.length := (List.getElem?_eq_some_iff.1 hp).1
    have z4 := HS.out.2.cell (i := 4) rfl
    clear hp hk hIx q q1 q3 q4 HP
    simp only [ixO]
    obtain ⟨ck, cn, cs, cla, cln, clc, cfa, cfn, cfc⟩ := c
    simp only at q0 q2 HK
    by_cases h3 : ck = 3
    · have e3 : (ck == 3) = true := by rw [h3]; rfl
      obtain ⟨bv, hbv⟩ : ∃ b, (cs == vl) = b := ⟨_, rfl⟩
      have HV : Hid (hasK nm vl (.mk k' n' s' l f) = bv) := Lib.hid (by rw [HK.out, decide_eq_true h3, ← hbv, Bool.true_and, Bool.eq_iff_iff]; simp)
      clear h3 HK
      go_wp2
      go_ret
      exact ⟨ret_bool HV.out.symm, HS.out.1⟩
    · have e3 : (ck == 3) = false := by rw [beq_eq_false_iff_ne]; exact h3
      have HV : Hid (hasK nm vl (.mk k' n' s' l f) = false) := Lib.hid (by rw [HK.out, decide_eq_false h3]; rfl)
      clear h3 HK
      go_wp2
      go_ret
      exact ⟨ret_bool HV.out.symm, HS.out.1⟩
end Go.Proofs.YtjpmnlefjmdelaaGreatDoor
namespace Go.Proofs.YtjpmnlefjmdelaaGreatDoor
open Go.RowKit Go.Sort Go.Proofs.LawFrame

set_option maxHeartbeats 8000000 in
set_option maxRecDepth 4000 in
theorem pfind_any (c : VC) (t : T) (s : S) (w : World) (hI : Is w c t) (hs : stepOk s = true) : Calls Tryz.prog 75 #[c.val, s.val] w fun e w' => e = .returned (.int .i64 (ixO (place s t))) ∧ Below w.heap.size w w' := by
  obtain ⟨k, n, y, l, f⟩ := t
  obtain ⟨k', n', s', la, ln, lc, fa, fn, fc⟩ := c
  obtain ⟨sk, sn, si, sv⟩ := s
  obtain ⟨rfl, rfl, rfl⟩ : k' = k ∧ n' = n ∧ s' = y := hI.same
  have hl0 := hI.vals
  obtain ⟨rfl, hlc, hlm⟩ := hl0.slice
  unfold maxLen at hlm
  obtain ⟨hix, hkk⟩ := stepOk_ix hs
  simp only at hix hkk
  have hw0 : Below w.heap.size w ((w.alloc (.cells #[.int .i64 k', .int .i64 n', sV s', .slice la l.length lc, .slice fa fn fc] 25)).alloc (.cells #[.int .i64 sk, sV sn, .int .i64 si, sV sv] 52)) := ((Below.refl _ _).alloc (Nat.le_refl _) _).alloc (by simp) _
  have oA : Own ((w.alloc (.cells #[.int .i64 k', .int .i64 n', sV s', .slice la l.length lc, .slice fa fn fc] 25)).alloc (.cells #[.int .i64 sk, sV sn, .int .i64 si, sV sv] 52)) w.heap.size [.int .i64 k', .int .i64 n', sV s', .slice la l.length lc, .slice fa fn fc] 25 := (Own.new _ _ _).alloc _
  have oB : Own ((w.alloc (.cells #[.int .i64 k', .int .i64 n', sV s', .slice la l.length lc, .slice fa fn fc] 25)).alloc (.cells #[.int .i64 sk, sV sn, .int .i64 si, sV sv] 52)) (w.heap.size + 1) [.int .i64 sk, sV sn, .int .i64 si, sV sv] 52 := Own.new_at (by rw [size_alloc]) _ _
  have HO := Lib.hid (And.intro hw0 (And.intro oA (And.intro oB (And.intro (hI.all hw0) hl0))))
  clear hw0 oA oB hI hl0 hs
  show Calls Tryz.prog 75 #[.agg #[.int .i64 k', .int .i64 n', sV s', .slice la l.length lc, .slice fa fn fc], .agg #[.int .i64 sk, sV sn, .int .i64 si, sV sv]] w _
  go_enter Tryz.func75, Tryz.ntmps75
  go_upto_region 1 with (fail)
  change Code.wp Tryz.prog _ _ _ ((w.alloc (.cells #[.int .i64 k', .int .i64 n', sV s', .slice la l.length lc, .slice fa fn fc] 25)).alloc (.cells #[.int .i64 sk, sV sn, .int .i64 si, sV sv] 52))
  generalize ((w.alloc (.cells #[.int .i64 k', .int .i64 n', sV s', .slice la l.length lc, .slice fa fn fc] 25)).alloc (.cells #[.int .i64 sk, sV sn, .int .i64 si, sV sv] 52)) = V at *
  have b0 := HO.out.2.2.1.cell (i := 0) rfl
  by_cases h1 : sk = 1
  · subst h1
    have z0 := HO.out.2.1.cell (i := 0) rfl
    have z1 := HO.out.2.1.cell (i := 1) rfl
    have z2 := HO.out.2.1.cell (i := 2) rfl
    have z3 := HO.out.2.1.cell (i := 3) rfl
    have z4 := HO.out.2.1.cell (i := 4) rfl
    have b1 := HO.out.2.2.1.cell (i := 1) rfl
    have C := Lib.hid (pfield_any ⟨k', n', s', la, l.length, lc, fa, fn, fc⟩ (.mk k' n' s' l f) sn V HO.out.2.2.2.1)
    have hpl : place ⟨1, sn, si, sv⟩ (.mk k' n' s' l f) = plK sn (.mk k' n' s' l f) := by simp only [place, plK, if_true]
    rw [← hpl] at C
    obtain ⟨R, hR⟩ : ∃ R, ixO (place ⟨1, sn, si, sv⟩ (.mk k' n' s' l f)) = R := ⟨_, rfl⟩
    rw [hR] at C
    have HRR := Lib.hid hR
    clear hR hpl
    go_wp2_with fail
    refine C.out.mono ?_
    rintro e w1 ⟨rfl, hb1⟩
    have HB := Lib.hid (below_all HO.out.1 hb1)
    clear C hb1 z0 z1 z2 z3 z4 b0 b1 HO
    go_wp2
    go_ret
    exact ⟨ret_int HRR.out.symm, HB.out⟩
  have z0 := HO.out.2.1.cell (i := 0) rfl
  by_cases h4 : k' = 4
  case neg =>
    have e4 : (k' != 4) = true := by rw [bne_iff_ne]; exact h4
    have hpl : place ⟨sk, sn, si, sv⟩ (.mk k' n' s' l f) = none := by
      simp only [place, if_neg h1]
      by_cases h2 : sk = 2
      · rw [if_pos h2, if_neg (fun h => h4 h.1)]
      · rw [if_neg h2]
        by_cases h3 : sk = 3
        · rw [if_pos h3, if_neg h4]
        · rw [if_neg h3]
    have HF := Lib.hid hpl
    clear hpl h4
    go_wp2
    go_ret
    exact ⟨ret_int (by rw [HF.out]; rfl), HO.out.1⟩
  subst h4
  have z3 := HO.out.2.1.cell (i := 3) rfl
  by_cases h2 : sk = 2
  · subst h2
    have b2 := HO.out.2.2.1.cell (i := 2) rfl
    have hpl : ixO (place ⟨2, sn, si, sv⟩ (.mk 4 n' s' l f)) = if si < (l.length : Int) then si else -1 := by
      simp only [place]
      by_cases h : si < (l.length : Int)
      · simp [h, ixO]; omega
      · simp [h, ixO]
    have HF := Lib.hid hpl
    clear hpl
    by_cases h : si < (l.length : Int)
    · go_wp2
      go_ret
      exact ⟨ret_int (by rw [HF.out, if_pos h]), HO.out.1⟩
    · go_wp2
      go_ret
      exact ⟨ret_int (by rw [HF.out, if_neg (by omega)]), HO.out.1⟩
  obtain rfl : sk = 3 := by omega
  have hpl : place ⟨3, sn, si, sv⟩ (.mk 4 n' s' l f) = l.findIdx? (hasK sn sv) := by simp only [place]; simp
  have HF := Lib.hid hpl
  clear hpl h1 h2 hkk
  go_wp2
  clear b0 z0 z3
  go_loopg [5] l.length (fun g i wr => ∃ j : Nat, j ≤ l.length ∧ g = l.length - j ∧ i = .int .i64 j ∧ Below w.heap.size w wr ∧ Own wr w.heap.size [.int .i64 4, .int .i64 n', sV s', .slice la l.length lc, .slice fa fn fc] 25 ∧ Own wr (w.heap.size + 1) [.int .i64 3, sV sn, .int .i64 si, sV sv] 52 ∧ Hid (∀ (i : Nat) (u : T), i < j → l[i]? = some u → hasK sn sv u = false))
  case atStart => exact ⟨0, Nat.zero_le _, rfl, rfl, HO.out.1, HO.out.2.1, HO.out.2.2.1, Lib.hid (fun i u h => absurd h (by omega))⟩
  case round =>
    obtain ⟨j, hj, hg, rfl, hb, oA, oB, HN⟩ := hrel
    have HG := Lib.hid hg
    clear hg
    have z3 := oA.cell (i := 3) rfl
    by_cases hlt : j < l.length
    · have b1 := oB.cell (i := 1) rfl
      have b3 := oB.cell (i := 3) rfl
      have hx := get_some hlt
      generalize l[j] = u at hx
      obtain ⟨b, off, c, rfl, hbl, hIx, q0, q1, q2, q3, q4⟩ := HO.out.2.2.2.2.at hb hx
      have HX := Lib.hid hx
      obtain ⟨B, hB⟩ : ∃ B, hasK sn sv u = B := ⟨_, rfl⟩
      have cC : ∀ dd os, Calls Tryz.prog 116 #[c.val, sV sn, sV sv] (grow (redrawn wr dd) os) fun e w'' => e = .returned (.bool B) ∧ ∃ p : Regrown, w'' = grow (redrawn wr p.d) p.os := fun dd os => by
        have := phas_any c u sn sv _ (hIx.all (below_regrown wr dd os))
        rw [hB] at this
        exact Calls.regrown_of this
      have HB := Lib.hid hB
      have HH := Lib.hid (And.intro hb (And.intro oA oB))
      clear hx hB hIx hb oA oB
      have g3 := cell_regrown z3
      have gb1 := cell_regrown b1
      have gb3 := cell_regrown b3
      have gq0 := cell_regrown q0
      have gq1 := cell_regrown q1
      have gq2 := cell_regrown q2
      have gq3 := cell_regrown q3
      have gq4 := cell_regrown q4
      go_upto_region 12 with (fail)
      refine wp_region_quiet_below (by kernel_rfl) (by kernel_rfl) ?_
      repeat (first | go_big_quiet_step ((with_reducible exact cC _ _)) | quiet_step (with_reducible exact cC _ _))
      refine wpQuiet_nil ?_
      intro _ hw'
      obtain ⟨⟨dq, osq⟩, hw''⟩ := hw'
      subst hw''
      have HH2 := Lib.hid (And.intro (below_all HH.out.1 (below_regrown wr dq osq)) (And.intro (HH.out.2.1.all (below_regrown wr dq osq)) (HH.out.2.2.all (below_regrown wr dq osq))))
      clear cC g3 gb1 gb3 gq0 gq1 gq2 gq3 gq4 z3 b1 b3 q0 q1 q2 q3 q4 HH
      generalize grow (redrawn wr dq) osq = W3 at *
      cases B with
      | true =>
        have HR : Hid (place ⟨3, sn, si, sv⟩ (.mk 4 n' s' l f) = some j) := Lib.hid (by
          rw [HF.out, List.findIdx?_eq_some_iff_getElem]
          obtain ⟨hl, e⟩ := List.getElem?_eq_some_iff.1 HX.out
          refine ⟨hl, by rw [e]; exact HB.out, fun i hi => ?_⟩
          rw [HN.out i _ hi (List.getElem?_eq_getElem (by omega))]; simp)
        go_wp2
        go_ret
        exact ⟨ret_int (by rw [HR.out]; rfl), HH2.out.1⟩
      | false =>
        go_wp2
        go_roundg (l.length - (j + 1))
        case measure => have := HG.out; omega
        case rel => exact ⟨j + 1, by omega, rfl, by go_num, HH2.out.1, HH2.out.2.1, HH2.out.2.2, Lib.hid (fun i v hi hv => by
            by_cases e : i = j
            · subst e; rw [HX.out] at hv; cases hv; exact HB.out
            · exact HN.out i v (by omega) hv)⟩
    · obtain rfl : j = l.length := by omega
      have HR : Hid (place ⟨3, sn, si, sv⟩ (.mk 4 n' s' l f) = none) := Lib.hid (by
        rw [HF.out, List.findIdx?_eq_none_iff]
        intro u hu
        obtain ⟨i, hi⟩ := List.getElem?_of_mem hu
        exact HN.out i u (List.getElem?_eq_some_iff.1 hi).1 hi)
      have HB := Lib.hid hb
      clear hb oA oB
      go_wp2
      go_ret
      exact ⟨ret_int (by rw [HR.out]; rfl), HB.out⟩
end Go.Proofs.YtjpmnlefjmdelaaGreatDoor
