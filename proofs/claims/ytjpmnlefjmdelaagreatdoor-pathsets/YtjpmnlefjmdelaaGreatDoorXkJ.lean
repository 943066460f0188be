/- Where a step leads on in a value. Has a value a key; where a step leads on. Where a step leads on; the place that a path leads to. -/
import Derived.Test.YtjpmnlefjmdelaaGreatDoorXaJ
import Derived.Test.YtjpmnlefjmdelaaGreatDoorXcJ
import Derived.Lib.QuietBelow
set_option linter.unusedSimpArgs false
set_option linter.unusedVariables false
namespace Go.Proofs.YtjpmnlefjmdelaaGreatDoor
open Go.RowKit Go.Sort Go.Proofs.LawFrame

theorem find_at {α : Type} {p : α → Bool} {l : List α} {k : Nat} {x : α} (h : ∀ j y, j < k → l[j]? = some y → p y = false) (hx : l[k]? = some x) (hp : p x = true) : l.findIdx? p = some k := by
  have hk := (List.getElem?_eq_some_iff.1 hx).1
  rw [List.findIdx?_eq_some_iff_getElem]
  refine ⟨hk, ?_, fun j hj => ?_⟩
  · rw [(List.getElem?_eq_some_iff.1 hx).2]; exact hp
  · rw [h j _ hj (List.getElem?_eq_getElem (by omega))]; simp
theorem find_none {α : Type} {p : α → Bool} {l : List α} (h : ∀ j y, j < l.length → l[j]? = some y → p y = false) : l.findIdx? p = none := by
  rw [List.findIdx?_eq_none_iff]
  intro x hx
  obtain ⟨j, hj, rfl⟩ := List.getElem_of_mem hx
  exact h j _ hj (List.getElem?_eq_getElem hj)

theorem fieldEqP_any (x : Str) (c : VC) (nm : Str) (nb : Nat) (w : World) (o : w.cell? ⟨nb, 0, none⟩ = some (sV nm)) : Calls Tryz.prog 156 #[.agg #[sV x, .int .i64 c.k, .int .i64 c.n, sV c.s, .slice c.la c.ln c.lc, .slice c.fa c.fn c.fc], .pointer (some ⟨nb, 0, none⟩)] w fun e w' => e = .returned (.bool (decide (x = nm))) ∧ Below w.heap.size w w' := by
  have hb := below_alloc w (.cells #[sV x, .int .i64 c.k, .int .i64 c.n, sV c.s, .slice c.la c.ln c.lc, .slice c.fa c.fn c.fc] 58)
  have oN := Own.new w [sV x, .int .i64 c.k, .int .i64 c.n, sV c.s, .slice c.la c.ln c.lc, .slice c.fa c.fn c.fc] 58
  have o' : (w.alloc (.cells #[sV x, .int .i64 c.k, .int .i64 c.n, sV c.s, .slice c.la c.ln c.lc, .slice c.fa c.fn c.fc] 58)).cell? ⟨nb, 0, none⟩ = some (sV nm) := by rw [hb.cell (p := ⟨nb, 0, none⟩) (World.block_lt_of_cell? w _ o)]; exact o
  have a0 := oN.cell (i := 0) rfl
  clear o oN
  go_enter Tryz.func156, Tryz.ntmps156
  go_upto_region 1 with (fail)
  change Code.wp Tryz.prog _ _ _ (w.alloc (.cells #[sV x, .int .i64 c.k, .int .i64 c.n, sV c.s, .slice c.la c.ln c.lc, .slice c.fa c.fn c.fc] 58))
  generalize w.alloc (.cells #[sV x, .int .i64 c.k, .int .i64 c.n, sV c.s, .slice c.la c.ln c.lc, .slice c.fa c.fn c.fc] 58) = V at *
  have HB := Lib.hid hb
  clear hb
  go_wp2
  go_ret
  exact ⟨ret_bool (by rw [Bool.eq_iff_iff]; simp), HB.out⟩

set_option maxHeartbeats 2000000 in
set_option maxRecDepth 4000 in
theorem indexNames_any (nm : Str) (nb : Nat) (v : Value) (l : List (Str × T)) (w : World) (hv : Flds w v l) (hn : l.length ≤ 10000) (o : w.cell? ⟨nb, 0, none⟩ = some (sV nm)) :
    Calls Tryz.prog 155 #[v, .func (.func 156) #[] #[.pointer (some ⟨nb, 0, none⟩)]] w fun e w' => e = .returned (.int .i64 (ixO (plF nm l))) ∧ Below w.heap.size w w' := by
  have hnl := World.block_lt_of_cell? w _ o
  obtain ⟨ao, cp, rfl, hlc, hlm⟩ := hv.form
  unfold maxLen at hlm
  have hcf : ∀ args w1, (callFunc 156 args).run Tryz.prog w1 = .ok (.enter 156 args) w1 := fun args w1 => by kernel_rfl
  have HO := Lib.hid (fun (w1 : World) (hb : Below w.heap.size w w1) => (by rw [hb.cell (p := ⟨nb, 0, none⟩) hnl]; exact o : w1.cell? ⟨nb, 0, none⟩ = some (sV nm)))
  clear o
  go_enter Tryz.func155, Tryz.ntmps155
  go_wp2
  go_loopg [8] l.length (fun g i wr => ∃ k : Nat, k ≤ l.length ∧ g = l.length - k ∧ i = .int .i64 k ∧ Below w.heap.size w wr ∧ Hid (∀ j y, j < k → l[j]? = some y → decide (y.1 = nm) = false))
  case atStart => exact ⟨0, Nat.zero_le _, rfl, rfl, Below.refl _ _, Lib.hid (fun j y h => absurd h (by omega))⟩
  case round =>
    obtain ⟨k, hk, hg, rfl, hb, HN⟩ := hrel
    have HG := Lib.hid hg
    clear hg
    by_cases hlt : k < l.length
    · have hx := get_some hlt
      generalize l[k] = x at hx
      obtain ⟨b, off, c, rfl, hbl, hI, q, q0, q1, q2, q3, q4⟩ := hv.at hb hx
      have HX := Lib.hid hx
      have HB := Lib.hid hb
      clear hI hx hb
      have C := Lib.hid (fieldEqP_any x.1 c nm nb wr (HO.out wr HB.out))
      go_wp2_with fail
      clear q q0 q1 q2 q3 q4
      refine C.out.mono ?_
      rintro e w2 ⟨rfl, hb2⟩
      have HB2 := Lib.hid (below_all HB.out hb2)
      clear hb2 HB C
      cases hp : decide (x.1 = nm)
      · go_wp2
        go_roundg (l.length - (k + 1))
        case measure => have := HG.out; omega
        case rel => exact ⟨k + 1, by omega, rfl, by go_num, HB2.out, Lib.hid (fun j y hj hy => by
          rcases Nat.lt_or_ge j k with h | h
          · exact HN.out j y h hy
          · obtain rfl : j = k := by omega
            rw [HX.out] at hy; cases hy; exact hp)⟩
      · go_wp2
        go_ret
        exact ⟨by unfold plF; rw [find_at HN.out HX.out hp]; rfl, HB2.out⟩
    · obtain rfl : k = l.length := by omega
      have HB := Lib.hid hb
      clear hb
      go_wp2
      go_ret
      exact ⟨by unfold plF; rw [find_none HN.out]; rfl, HB.out⟩
set_option maxHeartbeats 2000000 in
set_option maxRecDepth 4000 in
theorem indexValues_any (F : Nat) (cap : Value) (p : T → Bool) (v : Value) (l : List T) (w : World) (hv : Vals w v l) (hn : l.length ≤ 10000)
    (hcf : ∀ args w1, (callFunc F args).run Tryz.prog w1 = .ok (.enter F args) w1)
    (hf : ∀ (c : VC) (t : T) (w1 : World), Below w.heap.size w w1 → Is w1 c t → t ∈ l → Calls Tryz.prog F #[c.val, cap] w1 fun e w' => e = .returned (.bool (p t)) ∧ Below w1.heap.size w1 w') :
    Calls Tryz.prog 118 #[v, .func (.func F) #[] #[cap]] w fun e w' => e = .returned (.int .i64 (ixO (l.findIdx? p))) ∧ Below w.heap.size w w' := by
  obtain ⟨ao, cp, rfl, hlc, hlm⟩ := hv.form
  unfold maxLen at hlm
  have HF := Lib.hid hf
  clear hf
  go_enter Tryz.func118, Tryz.ntmps118
  go_wp2
  go_loopg [8] l.length (fun g i wr => ∃ k : Nat, k ≤ l.length ∧ g = l.length - k ∧ i = .int .i64 k ∧ Below w.heap.size w wr ∧ Hid (∀ j y, j < k → l[j]? = some y → p y = false))
  case atStart => exact ⟨0, Nat.zero_le _, rfl, rfl, Below.refl _ _, Lib.hid (fun j y h => absurd h (by omega))⟩
  case round =>
    obtain ⟨k, hk, hg, rfl, hb, HN⟩ := hrel
    have HG := Lib.hid hg
    clear hg
    by_cases hlt : k < l.length
    · have hx := get_some hlt
      generalize l[k] = x at hx
      obtain ⟨b, off, c, rfl, hbl, hI, q0, q1, q2, q3, q4⟩ := hv.at hb hx
      have HX := Lib.hid hx
      have HB := Lib.hid hb
      have C := Lib.hid (HF.out c x wr hb hI (List.mem_of_getElem? hx))
      clear hI hx hb
      go_wp2_with fail
      clear q0 q1 q2 q3 q4
      refine C.out.mono ?_
      rintro e w2 ⟨rfl, hb2⟩
      have HB2 := Lib.hid (below_all HB.out hb2)
      clear hb2 HB C
      cases hp : p x
      · go_wp2
        go_roundg (l.length - (k + 1))
        case measure => have := HG.out; omega
        case rel => exact ⟨k + 1, by omega, rfl, by go_num, HB2.out, Lib.hid (fun j y hj hy => by
          rcases Nat.lt_or_ge j k with h | h
          · exact HN.out j y h hy
          · obtain rfl : j = k := by omega
            rw [HX.out] at hy; cases hy; exact hp)⟩
      · go_wp2
        go_ret
        exact ⟨by rw [find_at HN.out HX.out hp]; rfl, HB2.out⟩
    · obtain rfl : k = l.length := by omega
      have HB := Lib.hid hb
      clear hb
      go_wp2
      go_ret
      exact ⟨by rw [find_none HN.out]; rfl, HB.out⟩

/-- where the field of a name is -/
def plK (nm : Str) : T → Option Nat
  | .mk k _ _ _ f => if k = 5 then plF nm f else none
set_option maxHeartbeats 2000000 in
set_option maxRecDepth 4000 in
theorem placeOfField_any (c : VC) (t : T) (nm : Str) (w : World) (hI : Is w c t) (hz : t.size ≤ 10000) : Calls Tryz.prog 117 #[c.val, sV nm] w fun e w' => e = .returned (.int .i64 (ixO (plK nm t))) ∧ Below w.heap.size w w' := by
  obtain ⟨k, n, s, l, f⟩ := t
  obtain ⟨ck, cn, cs, la, ln, lc, fa, fn, fc⟩ := c
  obtain ⟨rfl, rfl, rfl⟩ := hI.same
  have hfl := (size_lens (M := 10000) hz).2
  have hf := hI.flds
  simp only at hf
  have hb0 : Below w.heap.size w ((w.alloc (.cells #[.int .i64 ck, .int .i64 cn, sV cs, .slice la ln lc, .slice fa fn fc] 25)).alloc (.cells #[sV nm] 9)) := ((Below.refl _ _).alloc (Nat.le_refl _) _).alloc (by simp) _
  have oB : Own ((w.alloc (.cells #[.int .i64 ck, .int .i64 cn, sV cs, .slice la ln lc, .slice fa fn fc] 25)).alloc (.cells #[sV nm] 9)) w.heap.size [.int .i64 ck, .int .i64 cn, sV cs, .slice la ln lc, .slice fa fn fc] 25 := (Own.new _ _ _).alloc _
  have oN : Own ((w.alloc (.cells #[.int .i64 ck, .int .i64 cn, sV cs, .slice la ln lc, .slice fa fn fc] 25)).alloc (.cells #[sV nm] 9)) (w.heap.size + 1) [sV nm] 9 := Own.new_at (by rw [size_alloc]) _ _
  have hfV := hf.all hb0
  have C := Lib.hid (indexNames_any nm (w.heap.size + 1) _ f _ hfV hfl (oN.cell (i := 0) rfl))
  show Calls Tryz.prog 117 #[.agg #[.int .i64 ck, .int .i64 cn, sV cs, .slice la ln lc, .slice fa fn fc], sV nm] w _
  go_enter Tryz.func117, Tryz.ntmps117
  go_upto_region 1 with (fail)
  change Code.wp Tryz.prog _ _ _ ((w.alloc (.cells #[.int .i64 ck, .int .i64 cn, sV cs, .slice la ln lc, .slice fa fn fc] 25)).alloc (.cells #[sV nm] 9))
  generalize (w.alloc (.cells #[.int .i64 ck, .int .i64 cn, sV cs, .slice la ln lc, .slice fa fn fc] 25)).alloc (.cells #[sV nm] 9) = V at *
  have b0 := oB.cell (i := 0) rfl
  have b4 := oB.cell (i := 4) rfl
  have HB := Lib.hid hb0
  clear hI hf hfV oB oN hb0
  by_cases h5 : ck = 5
  · have HE : Hid (plK nm (.mk ck cn cs l f) = plF nm f) := Lib.hid (by simp only [plK, if_pos h5])
    subst h5
    go_wp2_with fail
    refine C.out.mono ?_
    rintro e w2 ⟨rfl, hb2⟩
    clear C
    go_wp2
    go_ret
    exact ⟨by rw [HE.out]; rfl, below_all HB.out hb2⟩
  · have HE : Hid (plK nm (.mk ck cn cs l f) = none) := Lib.hid (by simp only [plK, if_neg h5])
    have hne : (ck != 5) = true := by simpa using h5
    go_wp2
    go_ret
    exact ⟨by rw [HE.out]; rfl, HB.out⟩
end Go.Proofs.YtjpmnlefjmdelaaGreatDoor
namespace Go.Proofs.YtjpmnlefjmdelaaGreatDoor
open Go.RowKit Go.Sort Go.Proofs.LawFrame

theorem plF_look : ∀ {nm : Str} {f : List (Str × T)}, (∀ i, plF nm f = some i → ∃ p, f[i]? = some p ∧ p.1 = nm ∧ look nm f = some p.2) ∧ (plF nm f = none → look nm f = none)
  | nm, [] => ⟨fun i h => by simp [plF] at h, fun _ => rfl⟩
  | nm, (x, t) :: f => by
    have ih := plF_look (nm := nm) (f := f)
    unfold plF at *
    rw [List.findIdx?_cons, look_cons]
    by_cases h : x = nm
    · simp only [h, decide_true, if_true]
      exact ⟨fun i hi => (by cases hi; exact ⟨(nm, t), by simp, rfl, rfl⟩), fun hi => (by cases hi)⟩
    · simp only [h, decide_false, Bool.false_eq_true, if_false]
      refine ⟨fun i hi => ?_, fun hi => ?_⟩
      · cases hq : List.findIdx? (fun p => decide (p.1 = nm)) f with
        | none => rw [hq] at hi; cases hi
        | some j =>
          rw [hq] at hi; cases hi
          obtain ⟨p, h1, h2⟩ := ih.1 j hq
          exact ⟨p, by simpa using h1, h2⟩
      · cases hq : List.findIdx? (fun p => decide (p.1 = nm)) f with
        | none => exact ih.2 hq
        | some j => rw [hq] at hi; cases hi
theorem hasK_some {nm vl : Str} {k n : Int} {s : Str} {l : List T} {f : List (Str × T)} {i : Nat} (h : plK nm (.mk k n s l f) = some i) : ∃ p, f[i]? = some p ∧ ∀ (k' n' : Int) (s' : Str) (l' : List T) (f' : List (Str × T)), p.2 = .mk k' n' s' l' f' → hasK nm vl (.mk k n s l f) = (decide (k' = 3) && decide (s' = vl)) := by
  simp only [plK] at h
  split at h
  · rename_i h5
    obtain ⟨p, h1, -, h2⟩ := plF_look.1 i h
    refine ⟨p, h1, fun k' n' s' l' f' e => ?_⟩
    simp only [hasK, h5, h2, e, decide_true, Bool.true_and]
  · cases h
theorem hasK_none {nm vl : Str} {t : T} (h : plK nm t = none) : hasK nm vl t = false := by
  obtain ⟨k, n, s, l, f⟩ := t
  simp only [plK] at h
  split at h
  · simp only [hasK, plF_look.2 h, Bool.and_false]
  · rename_i h5; simp only [hasK, h5, decide_false, Bool.false_and]

set_option maxHeartbeats 4000000 in
set_option maxRecDepth 4000 in
theorem hasKeyP_any (c : VC) (t : T) (s : S) (w : World) (hI : Is w c t) (hz : t.size ≤ 10000) : Calls Tryz.prog 120 #[c.val, s.val] w fun e w' => e = .returned (.bool (hasK s.nm s.vl t)) ∧ Below w.heap.size w w' := by
  obtain ⟨sk, sn, si, sv⟩ := s
  obtain ⟨ck, cn, cs, la, ln, lc, fa, fn, fc⟩ := c
  show Calls Tryz.prog 120 #[.agg #[.int .i64 ck, .int .i64 cn, sV cs, .slice la ln lc, .slice fa fn fc], .agg #[.int .i64 sk, sV sn, .int .i64 si, sV sv]] w _
  have hb0 : Below w.heap.size w ((w.alloc (.cells #[.int .i64 ck, .int .i64 cn, sV cs, .slice la ln lc, .slice fa fn fc] 25)).alloc (.cells #[.int .i64 sk, sV sn, .int .i64 si, sV sv] 52)) := ((Below.refl _ _).alloc (Nat.le_refl _) _).alloc (by simp) _
  have oB : Own ((w.alloc (.cells #[.int .i64 ck, .int .i64 cn, sV cs, .slice la ln lc, .slice fa fn fc] 25)).alloc (.cells #[.int .i64 sk, sV sn, .int .i64 si, sV sv] 52)) w.heap.size [.int .i64 ck, .int .i64 cn, sV cs, .slice la ln lc, .slice fa fn fc] 25 := (Own.new _ _ _).alloc _
  have oS : Own ((w.alloc (.cells #[.int .i64 ck, .int .i64 cn, sV cs, .slice la ln lc, .slice fa fn fc] 25)).alloc (.cells #[.int .i64 sk, sV sn, .int .i64 si, sV sv] 52)) (w.heap.size + 1) [.int .i64 sk, sV sn, .int .i64 si, sV sv] 52 := Own.new_at (by rw [size_alloc]) _ _
  have hIV := hI.all hb0
  have C := Lib.hid (placeOfField_any ⟨ck, cn, cs, la, ln, lc, fa, fn, fc⟩ t sn _ hIV hz)
  go_enter Tryz.func120, Tryz.ntmps120
  go_upto_region 1 with (fail)
  change Code.wp Tryz.prog _ _ _ ((w.alloc (.cells #[.int .i64 ck, .int .i64 cn, sV cs, .slice la ln lc, .slice fa fn fc] 25)).alloc (.cells #[.int .i64 sk, sV sn, .int .i64 si, sV sv] 52))
  generalize (w.alloc (.cells #[.int .i64 ck, .int .i64 cn, sV cs, .slice la ln lc, .slice fa fn fc] 25)).alloc (.cells #[.int .i64 sk, sV sn, .int .i64 si, sV sv] 52) = V at *
  have b0 := oB.cell (i := 0) rfl
  have b1 := oB.cell (i := 1) rfl
  have b2 := oB.cell (i := 2) rfl
  have b3 := oB.cell (i := 3) rfl
  have b4 := oB.cell (i := 4) rfl
  have s1 := oS.cell (i := 1) rfl
  have HS := Lib.hid (And.intro hb0 (And.intro oB (And.intro oS hIV)))
  clear hb0 oB oS hIV hI
  go_wp2_with fail
  refine C.out.mono ?_
  rintro e W ⟨rfl, hb1⟩
  have HS2 := Lib.hid (And.intro (below_all HS.out.1 hb1) (And.intro (HS.out.2.1.all hb1) (And.intro (HS.out.2.2.1.all hb1) (HS.out.2.2.2.all hb1))))
  clear C b0 b1 b2 b3 b4 s1 HS hb1
  cases hp : plK sn t with
  | none =>
    have HF : Hid (hasK sn sv t = false) := Lib.hid (hasK_none hp)
    have hi0 : ixO none = -1 := rfl
    rw [hi0]
    clear hi0 hp
    have z4 := cell_regrown (HS2.out.2.1.cell (i := 4) rfl)
    have y3 := cell_regrown (HS2.out.2.2.1.cell (i := 3) rfl)
    go_upto_region 2 with (fail)
    refine wp_region_quiet_below (by kernel_rfl) (by kernel_rfl) ?_
    repeat (first | go_big_quiet_step ((fail)) | quiet_step (fail))
    refine wpQuiet_nil ?_
    intro _ hw'
    obtain ⟨⟨dq, osq⟩, hw''⟩ := hw'
    subst hw''
    go_wp2
    go_ret
    exact ⟨ret_bool HF.out.symm, below_all HS2.out.1 (below_regrown W dq osq)⟩
  | some i =>
    obtain ⟨k, n, x, l, f⟩ := t
    obtain ⟨⟨pn, pt⟩, hx, hh⟩ := hasK_some (vl := sv) hp
    have hf := HS2.out.2.2.2.flds
    simp only at hf
    obtain ⟨b, off, d, rfl, hbl, hId, q, q0, q1, q2, q3, q4⟩ := hf.at (Below.refl _ _) hx
    obtain ⟨k', n', s', l', f'⟩ := pt
    obtain ⟨e1, e2, e3⟩ := hId.same
    subst e1 e2 e3
    have HF : Hid (hasK sn sv (.mk k n x l f) = (decide (d.k = 3) && decide (d.s = sv))) := Lib.hid (hh _ _ _ _ _ rfl)
    have hi0 : ixO (some i) = (i : Int) := rfl
    rw [hi0]
    have hfs := hf.slice
    have hil := (List.getElem?_eq_some_iff.1 hx).1
    have hfn : i < fn := by omega
    have hfc : fn ≤ fc := by omega
    have hfm : fc ≤ 9223372036854775807 := by have := hfs.2.2; unfold maxLen at this; omega
    clear hi0 hp hx hh hf hfs hil hId
    have z4 := cell_regrown (HS2.out.2.1.cell (i := 4) rfl)
    have y3 := cell_regrown (HS2.out.2.2.1.cell (i := 3) rfl)
    have g0 := cell_regrown q0
    have g2 := cell_regrown q2
    clear q q0 q1 q2 q3 q4
    obtain ⟨dk, dn, ds, dla, dln, dlc, dfa, dfn, dfc⟩ := d
    simp only at g0 g2 HF
    cases h3 : decide (dk = 3)
    · have h3' : ¬ dk = 3 := by simpa using h3
      have h3'' : (dk == 3) = false := by rw [beq_eq_false_iff_ne]; exact h3'
      rw [h3] at HF
      go_upto_region 2 with (fail)
      refine wp_region_quiet_below (by kernel_rfl) (by kernel_rfl) ?_
      repeat (first | go_big_quiet_step ((fail)) | quiet_step (fail))
      refine wpQuiet_nil ?_
      intro _ hw'
      obtain ⟨⟨dq, osq⟩, hw''⟩ := hw'
      subst hw''
      go_wp2
      go_ret
      exact ⟨ret_bool (by rw [HF.out]; rfl), below_all HS2.out.1 (below_regrown W dq osq)⟩
    · have h3' : dk = 3 := by simpa using h3
      rw [h3] at HF
      subst h3'
      clear h3
      go_upto_region 2 with (fail)
      refine wp_region_quiet_below (by kernel_rfl) (by kernel_rfl) ?_
      repeat (first | go_big_quiet_step ((fail)) | quiet_step (fail))
      refine wpQuiet_nil ?_
      intro _ hw'
      obtain ⟨⟨dq, osq⟩, hw''⟩ := hw'
      subst hw''
      go_wp2
      go_ret
      exact ⟨ret_bool (by rw [HF.out, Bool.eq_iff_iff]; simp), below_all HS2.out.1 (below_regrown W dq osq)⟩
end Go.Proofs.YtjpmnlefjmdelaaGreatDoor
namespace Go.Proofs.YtjpmnlefjmdelaaGreatDoor
open Go.RowKit Go.Sort Go.Proofs.LawFrame

/-- the step's four cells at a block's beginning -/
structure SAt (w : World) (b : Nat) (s : S) : Prop where
  k : w.cell? ⟨b, 0, none⟩ = some (.int .i64 s.k)
  nm : w.cell? ⟨b, 1, none⟩ = some (sV s.nm)
  ix : w.cell? ⟨b, 2, none⟩ = some (.int .i64 s.ix)
  vl : w.cell? ⟨b, 3, none⟩ = some (sV s.vl)
theorem SAt.of {w : World} {b : Nat} {s : S} (o : Own w b [.int .i64 s.k, sV s.nm, .int .i64 s.ix, sV s.vl] 52) : SAt w b s := ⟨o.cell rfl, o.cell rfl, o.cell rfl, o.cell rfl⟩
theorem SAt.all {w w' : World} {b : Nat} {s : S} (h : SAt w b s) (hb : Below w.heap.size w w') : SAt w' b s := by
  have hl := World.block_lt_of_cell? w _ h.k
  exact ⟨by rw [hb.cell (p := ⟨b, 0, none⟩) hl]; exact h.k, by rw [hb.cell (p := ⟨b, 1, none⟩) hl]; exact h.nm, by rw [hb.cell (p := ⟨b, 2, none⟩) hl]; exact h.ix, by rw [hb.cell (p := ⟨b, 3, none⟩) hl]; exact h.vl⟩

set_option maxHeartbeats 2000000 in
set_option maxRecDepth 4000 in
theorem hasClos_any (c : VC) (t : T) (s : S) (sb : Nat) (w : World) (hI : Is w c t) (hz : t.size ≤ 10000) (hs : SAt w sb s) : Calls Tryz.prog 119 #[c.val, .pointer (some ⟨sb, 0, none⟩)] w fun e w' => e = .returned (.bool (hasK s.nm s.vl t)) ∧ Below w.heap.size w w' := by
  obtain ⟨ck, cn, cs, la, ln, lc, fa, fn, fc⟩ := c
  obtain ⟨sk, sn, si, sv⟩ := s
  show Calls Tryz.prog 119 #[.agg #[.int .i64 ck, .int .i64 cn, sV cs, .slice la ln lc, .slice fa fn fc], .pointer (some ⟨sb, 0, none⟩)] w _
  have hb0 := below_alloc w (.cells #[.int .i64 ck, .int .i64 cn, sV cs, .slice la ln lc, .slice fa fn fc] 25)
  have oB := Own.new w [.int .i64 ck, .int .i64 cn, sV cs, .slice la ln lc, .slice fa fn fc] 25
  have hIV := hI.all hb0
  have hsV := hs.all hb0
  go_enter Tryz.func119, Tryz.ntmps119
  go_upto_region 1 with (fail)
  change Code.wp Tryz.prog _ _ _ (w.alloc (.cells #[.int .i64 ck, .int .i64 cn, sV cs, .slice la ln lc, .slice fa fn fc] 25))
  generalize w.alloc (.cells #[.int .i64 ck, .int .i64 cn, sV cs, .slice la ln lc, .slice fa fn fc] 25) = V at *
  have C := Lib.hid (hasKeyP_any ⟨ck, cn, cs, la, ln, lc, fa, fn, fc⟩ t ⟨sk, sn, si, sv⟩ V hIV hz)
  have b0 := oB.cell (i := 0) rfl
  have b1 := oB.cell (i := 1) rfl
  have b2 := oB.cell (i := 2) rfl
  have b3 := oB.cell (i := 3) rfl
  have b4 := oB.cell (i := 4) rfl
  obtain ⟨s0, s1, s2, s3⟩ := hsV
  simp only at s0 s1 s2 s3
  have HB := Lib.hid hb0
  clear hI hIV hs oB hb0
  go_wp2_with fail
  refine C.out.mono ?_
  rintro e w2 ⟨rfl, hb2⟩
  clear C
  go_wp2
  go_ret
  exact ⟨rfl, below_all HB.out hb2⟩

set_option maxHeartbeats 4000000 in
set_option maxRecDepth 4000 in
theorem placeOf_any (c : VC) (t : T) (s : S) (w : World) (hI : Is w c t) (hz : t.size ≤ 10000) (hix : 0 ≤ s.ix) : Calls Tryz.prog 76 #[c.val, s.val] w fun e w' => e = .returned (.int .i64 (ixO (place s t))) ∧ Below w.heap.size w w' := by
  obtain ⟨sk, sn, si, sv⟩ := s
  obtain ⟨k, n, x, l, f⟩ := t
  obtain ⟨ck, cn, cs, la, ln, lc, fa, fn, fc⟩ := c
  obtain ⟨rfl, rfl, rfl⟩ := hI.same
  simp only at hix
  show Calls Tryz.prog 76 #[.agg #[.int .i64 ck, .int .i64 cn, sV cs, .slice la ln lc, .slice fa fn fc], .agg #[.int .i64 sk, sV sn, .int .i64 si, sV sv]] w _
  have hb0 : Below w.heap.size w ((w.alloc (.cells #[.int .i64 ck, .int .i64 cn, sV cs, .slice la ln lc, .slice fa fn fc] 25)).alloc (.cells #[.int .i64 sk, sV sn, .int .i64 si, sV sv] 52)) := ((Below.refl _ _).alloc (Nat.le_refl _) _).alloc (by simp) _
  have oB : Own ((w.alloc (.cells #[.int .i64 ck, .int .i64 cn, sV cs, .slice la ln lc, .slice fa fn fc] 25)).alloc (.cells #[.int .i64 sk, sV sn, .int .i64 si, sV sv] 52)) w.heap.size [.int .i64 ck, .int .i64 cn, sV cs, .slice la ln lc, .slice fa fn fc] 25 := (Own.new _ _ _).alloc _
  have oS : Own ((w.alloc (.cells #[.int .i64 ck, .int .i64 cn, sV cs, .slice la ln lc, .slice fa fn fc] 25)).alloc (.cells #[.int .i64 sk, sV sn, .int .i64 si, sV sv] 52)) (w.heap.size + 1) [.int .i64 sk, sV sn, .int .i64 si, sV sv] 52 := Own.new_at (by rw [size_alloc]) _ _
  have hIV := hI.all hb0
  go_enter Tryz.func76, Tryz.ntmps76
  go_upto_region 1 with (fail)
  change Code.wp Tryz.prog _ _ _ ((w.alloc (.cells #[.int .i64 ck, .int .i64 cn, sV cs, .slice la ln lc, .slice fa fn fc] 25)).alloc (.cells #[.int .i64 sk, sV sn, .int .i64 si, sV sv] 52))
  generalize (w.alloc (.cells #[.int .i64 ck, .int .i64 cn, sV cs, .slice la ln lc, .slice fa fn fc] 25)).alloc (.cells #[.int .i64 sk, sV sn, .int .i64 si, sV sv] 52) = V at *
  have b0 := oB.cell (i := 0) rfl
  have b1 := oB.cell (i := 1) rfl
  have b2 := oB.cell (i := 2) rfl
  have b3 := oB.cell (i := 3) rfl
  have b4 := oB.cell (i := 4) rfl
  have s0 := oS.cell (i := 0) rfl
  have s1 := oS.cell (i := 1) rfl
  have s2 := oS.cell (i := 2) rfl
  have HS := Lib.hid (And.intro hb0 (And.intro oB (And.intro (SAt.of (s := ⟨sk, sn, si, sv⟩) oS) hIV)))
  clear hb0 oB oS hI
  by_cases h1 : sk = 1
  · have HF : Hid (place ⟨sk, sn, si, sv⟩ (.mk ck cn cs l f) = plK sn (.mk ck cn cs l f)) := Lib.hid (by simp only [place, plK, h1, if_true])
    subst h1
    have C := Lib.hid (placeOfField_any ⟨ck, cn, cs, la, ln, lc, fa, fn, fc⟩ _ sn V hIV hz)
    clear hIV
    go_wp2_with fail
    refine C.out.mono ?_
    rintro e w2 ⟨rfl, hb2⟩
    clear C
    go_wp2
    go_ret
    exact ⟨by rw [HF.out]; rfl, below_all HS.out.1 hb2⟩
  by_cases h2 : sk = 2
  · subst h2
    have hln := hIV.vals.slice.1
    simp only at hln
    clear hIV
    by_cases h4 : ck = 4 ∧ si < (ln : Int)
    · have HF : Hid (place ⟨2, sn, si, sv⟩ (.mk ck cn cs l f) = some si.toNat) := Lib.hid (by simp only [place]; rw [if_neg (by decide), if_pos trivial, if_pos ⟨h4.1, by rw [← hln]; exact h4.2⟩])
      obtain ⟨h41, h42⟩ := h4
      subst h41
      go_wp2
      go_ret
      exact ⟨by rw [HF.out]; show Ending.returned (.int .i64 si) = .returned (.int .i64 (si.toNat : Int)); rw [Int.toNat_of_nonneg hix], HS.out.1⟩
    · have HF : Hid (place ⟨2, sn, si, sv⟩ (.mk ck cn cs l f) = none) := Lib.hid (by simp only [place]; rw [if_neg (by decide), if_pos trivial, if_neg (fun h => h4 ⟨h.1, by rw [hln]; exact h.2⟩)])
      by_cases h41 : ck = 4
      · subst h41
        have h42 : ¬ si < (ln : Int) := fun h => h4 ⟨rfl, h⟩
        clear h4
        go_wp2
        go_ret
        exact ⟨by rw [HF.out]; rfl, HS.out.1⟩
      · clear h4
        go_wp2
        go_ret
        exact ⟨by rw [HF.out]; rfl, HS.out.1⟩
  by_cases h3 : sk = 3 ∧ ck = 4
  · obtain ⟨h31, h32⟩ := h3
    subst h31 h32
    have HF : Hid (place ⟨3, sn, si, sv⟩ (.mk 4 cn cs l f) = l.findIdx? (hasK sn sv)) := Lib.hid (by simp only [place]; rw [if_neg (by decide), if_neg (by decide), if_pos trivial, if_pos trivial])
    have hll := (size_lens (M := 10000) hz).1
    have C := Lib.hid (indexValues_any 119 (.pointer (some ⟨w.heap.size + 1, 0, none⟩)) (hasK sn sv) _ l V hIV.vals hll (fun args w1 => by kernel_rfl) (fun d u w1 hb1 hd hu => hasClos_any d u ⟨3, sn, si, sv⟩ (w.heap.size + 1) w1 hd (Int.le_trans (size_in_l (k := 4) (n := cn) (s := cs) (f := f) hu) hz) (HS.out.2.2.1.all hb1)))
    clear hIV
    go_wp2_with fail
    refine C.out.mono ?_
    rintro e w2 ⟨rfl, hb2⟩
    clear C
    go_wp2
    go_ret
    exact ⟨by rw [HF.out]; rfl, below_all HS.out.1 hb2⟩
  · have HF : Hid (place ⟨sk, sn, si, sv⟩ (.mk ck cn cs l f) = none) := Lib.hid (by
      simp only [place]; rw [if_neg h1, if_neg h2]
      by_cases h31 : sk = 3
      · rw [if_pos h31, if_neg (fun h => h3 ⟨h31, h⟩)]
      · rw [if_neg h31])
    clear hIV
    by_cases h31 : sk = 3
    · subst h31
      have h32 : ¬ ck = 4 := fun h => h3 ⟨rfl, h⟩
      clear h3
      go_wp2
      go_ret
      exact ⟨by rw [HF.out]; rfl, HS.out.1⟩
    · clear h3
      go_wp2
      go_ret
      exact ⟨by rw [HF.out]; rfl, HS.out.1⟩

/-- these five cells lie there -/
structure VAt (w : World) (b o : Nat) (c : VC) : Prop where
  k : w.cell? ⟨b, o, none⟩ = some (.int .i64 c.k)
  n : w.cell? ⟨b, o + 1, none⟩ = some (.int .i64 c.n)
  s : w.cell? ⟨b, o + 2, none⟩ = some (sV c.s)
  l : w.cell? ⟨b, o + 3, none⟩ = some (.slice c.la c.ln c.lc)
  f : w.cell? ⟨b, o + 4, none⟩ = some (.slice c.fa c.fn c.fc)
theorem VAt.lt {w : World} {b o : Nat} {c : VC} (h : VAt w b o c) : b < w.heap.size := World.block_lt_of_cell? w _ h.k
theorem VAt.all {w w' : World} {b o : Nat} {c : VC} (h : VAt w b o c) (hb : Below w.heap.size w w') : VAt w' b o c :=
  ⟨by rw [hb.cell (p := ⟨b, o, none⟩) h.lt]; exact h.k, by rw [hb.cell (p := ⟨b, o + 1, none⟩) h.lt]; exact h.n, by rw [hb.cell (p := ⟨b, o + 2, none⟩) h.lt]; exact h.s, by rw [hb.cell (p := ⟨b, o + 3, none⟩) h.lt]; exact h.l, by rw [hb.cell (p := ⟨b, o + 4, none⟩) h.lt]; exact h.f⟩
theorem VAt.own {w : World} {b : Nat} {c : VC} (o : Own w b [.int .i64 c.k, .int .i64 c.n, sV c.s, .slice c.la c.ln c.lc, .slice c.fa c.fn c.fc] 25) : VAt w b 0 c := ⟨o.cell rfl, o.cell rfl, o.cell rfl, o.cell rfl, o.cell rfl⟩
theorem stepOk_ix {s : S} (h : stepOk s = true) : 0 ≤ s.ix ∧ (s.k = 1 ∨ s.k = 2 ∨ s.k = 3) := by
  unfold stepOk at h
  by_cases h1 : s.k = 1
  · simp only [h1, if_true, Bool.and_eq_true, decide_eq_true_eq] at h; omega
  · simp only [h1, if_false] at h
    by_cases h2 : s.k = 2
    · simp only [h2, if_true, Bool.and_eq_true, decide_eq_true_eq] at h; omega
    · simp only [h2, if_false] at h
      by_cases h3 : s.k = 3
      · simp only [h3, if_true, Bool.and_eq_true, decide_eq_true_eq] at h; omega
      · simp [h3] at h
end Go.Proofs.YtjpmnlefjmdelaaGreatDoor
