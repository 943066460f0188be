/- Setting in one value: may the step lead on; what it creates; what is put in its place. Setting in one value: what is put in the place that a step leads to. Setting along a path: plain mathematics of sizes; the program's setBelow and Set. -/
import Derived.Test.YtjpmnlefjmdelaaGreatDoorXnJ
import Derived.Test.YtjpmnlefjmdelaaGreatDoorCeJJ
import Derived.Test.YtjpmnlefjmdelaaGreatDoorMvJ
import Derived.Test.YtjpmnlefjmdelaaGreatDoorJa
set_option linter.unusedSimpArgs false
set_option linter.unusedVariables false
namespace Go.Proofs.YtjpmnlefjmdelaaGreatDoor
open Go.RowKit Go.Sort Go.Proofs.LawFrame

theorem vc_one (cs : List VC) : ∀ v ∈ cs.flatMap VC.cells, v.oneCell' = true := by
  intro v hv
  rw [List.mem_flatMap] at hv
  obtain ⟨c, -, hc⟩ := hv
  simp at hc
  rcases hc with rfl | rfl | rfl | rfl | rfl <;> rfl
set_option maxHeartbeats 2000000 in
set_option maxRecDepth 4000 in
theorem cloneV_any (v : Value) (cs : List VC) (w : World) (hv : Flat w v cs.length (cs.flatMap VC.cells)) (hn : cs.length ≤ 4000) :
    Calls Tryz.prog 159 #[v] w fun e w' => ∃ cv, e = .returned cv ∧ w'.ownsRow w.heap.size 25 5 cv cs.length (cs.flatMap VC.cells) ∧ Below w.heap.size w w' := by
  obtain ⟨ao, cap, rfl, hlc, hcap, hr⟩ := hv.out
  unfold maxLen at hcap
  obtain ⟨i25, hi25, hzi25, hsi25, hyi25⟩ := info_parts info25
  have hnil : ∀ (w : World) (a : Option Addr) (n c : Nat), (binOp .eql 22 (.slice a n c) (.slice none 0 0)).run Tryz.prog w = .ok (.bool a.isNone) w := fun w a n c => Lib.run_eql_slice_nil w 22 25 a n c 0 0 Tryz.underlying22
  cases ao with
  | none =>
    have h0 : cs.length = 0 := by
      rcases Nat.eq_zero_or_pos cs.length with h | h
      · exact h
      · obtain ⟨b, off, h2, -⟩ := hr h; cases h2
    have hq : cs = [] := List.eq_nil_of_length_eq_zero h0
    subst hq
    go_enter Tryz.func159, Tryz.ntmps159
    go_wp2
    go_ret
    exact ⟨_, rfl, own_nil _ _ _ _, Below.refl _ _⟩
  | some ad =>
    have hcells : ∀ j u, (cs.flatMap VC.cells)[j]? = some u → w.cell? (ad.add j) = some u := by
      intro j u hu
      have hp : 0 < cs.length := by
        rcases Nat.eq_zero_or_pos cs.length with h | h
        · have hq : cs = [] := List.eq_nil_of_length_eq_zero h
          subst hq; simp at hu
        · exact h
      obtain ⟨b, off, he, -, hc⟩ := hr hp
      cases he
      rw [Addr.add_lit]
      exact hc j u hu
    have hrow : (w.alloc (.cells #[] 25)).ownsRow w.heap.size 25 5 (.slice (some ⟨w.heap.size, 0, none⟩) 0 0) 0 [] := ⟨by simp, Or.inr ⟨w.heap.size, 0, #[], rfl, Nat.le_refl _, Own.new w [] 25, Nat.le_refl _, Nat.zero_le _, by simp, by simp⟩⟩
    have hcells2 : ∀ j u, (cs.flatMap VC.cells)[j]? = some u → (w.alloc (.cells #[] 25)).cell? (ad.add j) = some u := fun j u hu => Lib.cell?_alloc_some _ (hcells j u hu)
    have hfl := flat_length VC.cells (m := 5) (fun _ => rfl) cs
    have hone := vc_one cs
    go_enter Tryz.func159, Tryz.ntmps159
    go_wp2_with (at_builtin; refine wpList_append_own _ rfl (.tmp 5) (.tmp 6) 22 rfl w.heap.size 25 i25 (.agg #[.int .i64 0, .int .i64 0, .string ⟨#[]⟩, .slice none 0 0, .slice none 0 0]) 5 80 Tryz.underlying22 hi25 hzi25 hsi25 hyi25 rfl (by decide) _ 0 [] rfl hrow ad cs.length cap (cs.flatMap VC.cells) rfl hfl hcells2 hone (by unfold maxLen; omega) (by omega) (by simp) ?_; intro v' w5 hown5 hgrow5 hnil5)
    go_ret
    exact ⟨v', rfl, by simpa using hown5, below_grown (below_alloc _ _) hgrow5 (by simp) (fun k h => by cases h; exact Nat.le_refl _)⟩

set_option maxHeartbeats 4000000 in
set_option maxRecDepth 4000 in
theorem checkEnter_any (c : VC) (t : T) (s : S) (w : World) (hI : Is w c t) : Calls Tryz.prog 121 #[c.val, s.val] w fun e w' => e = .returned (.int .i64 (entE s t)) ∧ Below w.heap.size w w' := by
  obtain ⟨sk, sn, si, sv⟩ := s
  obtain ⟨k, n, x, l, f⟩ := t
  obtain ⟨ck, cn, cs, la, ln, lc, fa, fn, fc⟩ := c
  obtain ⟨rfl, rfl, rfl⟩ := hI.same
  have hln := hI.vals.slice.1
  simp only at hln
  have hb0 : Below w.heap.size w ((w.alloc (.cells #[.int .i64 ck, .int .i64 cn, sV cs, .slice la ln lc, .slice fa fn fc] 25)).alloc (.cells #[.int .i64 sk, sV sn, .int .i64 si, sV sv] 52)) := ((Below.refl _ _).alloc (Nat.le_refl _) _).alloc (by simp) _
  have oB : Own ((w.alloc (.cells #[.int .i64 ck, .int .i64 cn, sV cs, .slice la ln lc, .slice fa fn fc] 25)).alloc (.cells #[.int .i64 sk, sV sn, .int .i64 si, sV sv] 52)) w.heap.size [.int .i64 ck, .int .i64 cn, sV cs, .slice la ln lc, .slice fa fn fc] 25 := (Own.new _ _ _).alloc _
  have oS : Own ((w.alloc (.cells #[.int .i64 ck, .int .i64 cn, sV cs, .slice la ln lc, .slice fa fn fc] 25)).alloc (.cells #[.int .i64 sk, sV sn, .int .i64 si, sV sv] 52)) (w.heap.size + 1) [.int .i64 sk, sV sn, .int .i64 si, sV sv] 52 := Own.new_at (by rw [size_alloc]) _ _
  show Calls Tryz.prog 121 #[.agg #[.int .i64 ck, .int .i64 cn, sV cs, .slice la ln lc, .slice fa fn fc], .agg #[.int .i64 sk, sV sn, .int .i64 si, sV sv]] w _
  clear hI
  have HL := Lib.hid hln
  clear hln
  go_enter Tryz.func121, Tryz.ntmps121
  go_upto_region 1 with (fail)
  change Code.wp Tryz.prog _ _ _ ((w.alloc (.cells #[.int .i64 ck, .int .i64 cn, sV cs, .slice la ln lc, .slice fa fn fc] 25)).alloc (.cells #[.int .i64 sk, sV sn, .int .i64 si, sV sv] 52))
  generalize ((w.alloc (.cells #[.int .i64 ck, .int .i64 cn, sV cs, .slice la ln lc, .slice fa fn fc] 25)).alloc (.cells #[.int .i64 sk, sV sn, .int .i64 si, sV sv] 52)) = V at *
  have b0 := oB.cell (i := 0) rfl
  have b3 := oB.cell (i := 3) rfl
  have s0 := oS.cell (i := 0) rfl
  have s2 := oS.cell (i := 2) rfl
  have HB := Lib.hid hb0
  clear hb0 oB oS
  by_cases h1 : sk = 1
  · subst h1
    by_cases h5 : ck = 5
    · subst h5
      go_wp2
      go_ret
      exact ⟨by simp [entE], HB.out⟩
    · have hne : (ck != 5) = true := by simpa using h5
      go_wp2
      go_ret
      exact ⟨by simp [entE, h5], HB.out⟩
  · by_cases h4 : ck = 4
    · subst h4
      by_cases h2 : sk = 2 ∧ (ln : Int) < si
      · have HF : Hid (entE ⟨sk, sn, si, sv⟩ (.mk 4 cn cs l f) = 5) := Lib.hid (by simp only [entE]; rw [if_neg (by simp [h1]), if_pos ⟨h2.1, by rw [← HL.out]; exact h2.2⟩])
        obtain ⟨h21, h22⟩ := h2
        subst h21
        go_wp2
        go_ret
        exact ⟨by rw [HF.out]; rfl, HB.out⟩
      · have HF : Hid (entE ⟨sk, sn, si, sv⟩ (.mk 4 cn cs l f) = 0) := Lib.hid (by simp only [entE]; rw [if_neg (by simp [h1]), if_neg (fun h => h2 ⟨h.1, by rw [HL.out]; exact h.2⟩)])
        by_cases h21 : sk = 2
        · subst h21
          have h22 : ¬ (ln : Int) < si := fun h => h2 ⟨rfl, h⟩
          clear h2
          go_wp2
          go_ret
          exact ⟨by rw [HF.out]; rfl, HB.out⟩
        · clear h2
          go_wp2
          go_ret
          exact ⟨by rw [HF.out]; rfl, HB.out⟩
    · have hne : (ck != 4) = true := by simpa using h4
      have HF : Hid (entE ⟨sk, sn, si, sv⟩ (.mk ck cn cs l f) = 6) := Lib.hid (by simp only [entE]; rw [if_pos (by simp [h1, h4])])
      go_wp2
      go_ret
      exact ⟨by rw [HF.out]; rfl, HB.out⟩

set_option maxHeartbeats 8000000 in
set_option maxRecDepth 4000 in
theorem created_any (s : S) (w : World) : Calls Tryz.prog 122 #[s.val] w fun e w' => ∃ c' : VC, e = .returned c'.val ∧ Below w.heap.size w w' ∧ Is w' c' (newT s) := by
  obtain ⟨sk, sn, si, sv⟩ := s
  show Calls Tryz.prog 122 #[.agg #[.int .i64 sk, sV sn, .int .i64 si, sV sv]] w _
  have hb0 : Below w.heap.size w ((w.alloc (.cells #[.int .i64 sk, sV sn, .int .i64 si, sV sv] 52)).alloc (.cells #[.int .i64 0, .int .i64 0, .string ⟨#[]⟩, .slice none 0 0, .slice none 0 0] 25)) := ((Below.refl _ _).alloc (Nat.le_refl _) _).alloc (by simp) _
  have oS : Own ((w.alloc (.cells #[.int .i64 sk, sV sn, .int .i64 si, sV sv] 52)).alloc (.cells #[.int .i64 0, .int .i64 0, .string ⟨#[]⟩, .slice none 0 0, .slice none 0 0] 25)) w.heap.size [.int .i64 sk, sV sn, .int .i64 si, sV sv] 52 := (Own.new _ _ _).alloc _
  have oR : Own ((w.alloc (.cells #[.int .i64 sk, sV sn, .int .i64 si, sV sv] 52)).alloc (.cells #[.int .i64 0, .int .i64 0, .string ⟨#[]⟩, .slice none 0 0, .slice none 0 0] 25)) (w.heap.size + 1) [.int .i64 0, .int .i64 0, .string ⟨#[]⟩, .slice none 0 0, .slice none 0 0] 25 := Own.new_at (by rw [size_alloc]) _ _
  have hs0 : ((w.alloc (.cells #[.int .i64 sk, sV sn, .int .i64 si, sV sv] 52)).alloc (.cells #[.int .i64 0, .int .i64 0, .string ⟨#[]⟩, .slice none 0 0, .slice none 0 0] 25)).heap.size = w.heap.size + 2 := by rw [size_alloc, size_alloc]
  go_enter Tryz.func122, Tryz.ntmps122
  go_upto_region 1 with (fail)
  change Code.wp Tryz.prog _ _ _ ((w.alloc (.cells #[.int .i64 sk, sV sn, .int .i64 si, sV sv] 52)).alloc (.cells #[.int .i64 0, .int .i64 0, .string ⟨#[]⟩, .slice none 0 0, .slice none 0 0] 25))
  generalize ((w.alloc (.cells #[.int .i64 sk, sV sn, .int .i64 si, sV sv] 52)).alloc (.cells #[.int .i64 0, .int .i64 0, .string ⟨#[]⟩, .slice none 0 0, .slice none 0 0] 25)) = V at *
  by_cases h3 : sk = 3
  · subst h3
    have s0 := oS.cell (i := 0) rfl
    have z1 := cell_regrown (oS.cell (i := 1) rfl)
    have z3 := cell_regrown (oS.cell (i := 3) rfl)
    have cS : ∀ dd os, Calls Tryz.prog 106 #[sV sv] (grow (redrawn V dd) os) fun e w'' => e = .returned (.agg #[.int .i64 3, .int .i64 0, sV sv, .slice none 0 0, .slice none 0 0]) ∧ ∃ p : Regrown, w'' = grow (redrawn V p.d) p.os := fun dd os => Calls.regrown_of (string_any sv _)
    have HT : Hid (newT ⟨3, sn, si, sv⟩ = .mk 5 0 [] [] [(sn, .mk 3 0 sv [] [])]) := Lib.hid (by simp [newT])
    go_upto_region 2 with (fail)
    refine wp_region_multi 7 (fun i => i == 4 || i == 6) (fun i _ u w' => (i = 4 → u = .agg #[.int .i64 3, .int .i64 0, sV sv, .slice none 0 0, .slice none 0 0]) ∧ (i = 6 → ∃ b : Nat, u = .slice (some ⟨b, 0, none⟩) 1 1 ∧ Own w' b [sV sn, .int .i64 3, .int .i64 0, sV sv, .slice none 0 0, .slice none 0 0] 58)) (fun i u => (i = 4 → u = .agg #[.int .i64 3, .int .i64 0, sV sv, .slice none 0 0, .slice none 0 0]) ∧ (i = 6 → ∃ b, u = .slice (some ⟨b, 0, none⟩) 1 1)) (by kernel_rfl) (by kernel_rfl)
      (fun _ _ _ w1 w2 h hb => ⟨h.1, fun e => by obtain ⟨b, a2, a4⟩ := h.2 e; exact ⟨b, a2, a4.all hb⟩⟩) (fun i => if e : i = 4 then ⟨.agg #[.int .i64 3, .int .i64 0, sV sv, .slice none 0 0, .slice none 0 0], fun _ => rfl, fun e' => absurd (e.symm.trans e') (by decide)⟩ else ⟨.slice (some ⟨0, 0, none⟩) 1 1, fun e' => absurd e' e, fun _ => ⟨0, rfl⟩⟩) ?_
    simp only [List.take_succ_cons, List.take_zero, List.drop_succ_cons, List.drop_zero]
    refine wpM_stretch 4 rfl rfl rfl rfl ?_
    simp only [List.take_succ_cons, List.take_zero, List.drop_succ_cons, List.drop_zero]
    repeat (first | go_big_quiet_step (fail) | quiet_step (fail))
    refine wpQuiet_nil ?_
    refine wpM_dem rfl rfl rfl ?_ ?_
    · rintro _ ⟨pp, rfl⟩
      go_simp
      simp only [demUpon]
      refine ⟨trivial, (string_any sv _).mono ?_⟩
      rintro e w2 ⟨rfl, hb2⟩
      exact ⟨_, rfl, rfl, hb2, rfl⟩
    rintro u hu
    obtain rfl := hu.1 rfl
    clear hu
    refine wpM_stretch 1 rfl rfl rfl rfl ?_
    simp only [List.take_succ_cons, List.take_zero, List.drop_succ_cons, List.drop_zero]
    repeat (first | go_big_quiet_step (fail) | quiet_step (fail))
    refine wpQuiet_nil ?_
    refine wpM_dem rfl rfl rfl ?_ ?_
    · rintro _ ⟨pp, rfl⟩
      go_simp
      simp only [demUpon]
      exact ⟨⟨_, rfl⟩, below_alloc _ _, _, rfl, Own.new_at (by simp [grow]) _ _⟩
    · rintro u hu
      obtain ⟨b8, rfl⟩ := hu.2 rfl
      clear hu
      refine wpM_end ?_
      rintro U hbU ⟨⟨-, -⟩, hV6⟩
      obtain ⟨b', hu3, oF⟩ := hV6.2 (by first | rfl | trivial)
      clear hV6
      obtain rfl : b8 = b' := by simpa using hu3
      have hFl : Flds U (.slice (some ⟨b8, 0, none⟩) 1 1) [(sn, .mk 3 0 sv [] [])] :=
        ⟨[⟨sn, ⟨3, 0, sv, none, 0, 0, none, 0, 0⟩⟩], rfl, ⟨_, _, rfl, by simp, by decide, fun _ => ⟨b8, 0, rfl, oF.lt, fun j x hx => by rw [Nat.zero_add]; exact oF.cell (by simpa using hx)⟩⟩,
          fun i x p hx hp => (by cases i with
            | zero => simp at hx hp; subst hx hp; rfl
            | succ i => simp at hx), fun i x p hx hp => (by cases i with
            | zero => simp at hx hp; subst hx hp; exact isStr_mk sv U
            | succ i => simp at hx)⟩
      have C := Lib.hid (map_any _ _ U hFl (by simp) (fun p hp => by simp at hp; subst hp; simp [T.size, sizeL, sizeF]))
      have HQ := Lib.hid (And.intro (below_all hb0 hbU) (oR.all hbU))
      have hUs := hbU.size
      clear hFl hb0 oR oF hbU oS z1 z3 s0 cS hu3
      go_wp2_with fail
      refine C.out.mono ?_
      rintro e w4 ⟨c', M, rfl, hb4, hN, hMO⟩
      have HM : Hid (M = [(sn, .mk 3 0 sv [] [])]) := Lib.hid (hMO.unique (mapL_of [(sn, .mk 3 0 sv [] [])]))
      have HQ4 := Lib.hid (And.intro (below_all HQ.out.1 hb4) (And.intro (HQ.out.2.all hb4) (hN.mono (A' := fun b => w.heap.size + 2 ≤ b) (fun b hb => by omega))))
      clear C HQ hN hb4 hMO
      have oFin := HQ4.out.2.1
      have q0 := oFin.cell (i := 0) rfl
      have q1 := oFin.cell (i := 1) rfl
      have q2 := oFin.cell (i := 2) rfl
      have q3 := oFin.cell (i := 3) rfl
      have q4 := oFin.cell (i := 4) rfl
      have g0 := oFin.frozen 0
      have g1 := oFin.frozen 1
      have g2 := oFin.frozen 2
      have g3 := oFin.frozen 3
      have g4 := oFin.frozen 4
      have HU := Lib.hid (And.intro (own_put5 oFin (.int .i64 c'.k) (.int .i64 c'.n) (sV c'.s) (.slice c'.la c'.ln c'.lc) (.slice c'.fa c'.fn c'.fc)) (And.intro (below_put5 HQ4.out.1 (Nat.le_succ _) (.int .i64 c'.k) (.int .i64 c'.n) (sV c'.s) (.slice c'.la c'.ln c'.lc) (.slice c'.fa c'.fn c'.fc)) (HQ4.out.2.2.put5 (b := w.heap.size + 1) (by omega) (.int .i64 c'.k) (.int .i64 c'.n) (sV c'.s) (.slice c'.la c'.ln c'.lc) (.slice c'.fa c'.fn c'.fc))))
      clear oFin
      go_wp2
      clear q0 q1 q2 q3 q4 g0 g1 g2 g3 g4
      change bodyPost Tryz.prog Tryz.f122 _ _ _ (put5 w4 (w.heap.size + 1) (.int .i64 c'.k) (.int .i64 c'.n) (sV c'.s) (.slice c'.la c'.ln c'.lc) (.slice c'.fa c'.fn c'.fc))
      generalize put5 w4 (w.heap.size + 1) (.int .i64 c'.k) (.int .i64 c'.n) (sV c'.s) (.slice c'.la c'.ln c'.lc) (.slice c'.fa c'.fn c'.fc) = U at *
      have c0 := HU.out.1.cell (i := 0) rfl
      have c1 := HU.out.1.cell (i := 1) rfl
      have c2 := HU.out.1.cell (i := 2) rfl
      have c3 := HU.out.1.cell (i := 3) rfl
      have c4 := HU.out.1.cell (i := 4) rfl
      exact bodyPost_ret (v := .agg #[.int .i64 c'.k, .int .i64 c'.n, sV c'.s, .slice c'.la c'.ln c'.lc, .slice c'.fa c'.fn c'.fc]) (by simp [results, Tryz.results122, go_sem, c0, c1, c2, c3, c4]) rfl ⟨c', rfl, HU.out.2.1, by rw [HT.out, ← HM.out]; exact HU.out.2.2.is⟩
  · have s0 := oS.cell (i := 0) rfl
    have HT : Hid (newT ⟨sk, sn, si, sv⟩ = .mk 5 0 [] [] []) := Lib.hid (by simp [newT, h3])
    have C := Lib.hid (map_any (.slice none 0 0) [] V ⟨[], rfl, Flat.nil _ _ _ (Nat.zero_le _) _, fun i x p h => (by simp at h), fun i x p h => (by simp at h)⟩ (by simp) (fun p hp => by cases hp))
    have HQ := Lib.hid (And.intro hb0 oR)
    clear hb0 oR oS
    go_wp2_with fail
    refine C.out.mono ?_
    rintro e w4 ⟨c', M, rfl, hb4, hN, hMO⟩
    have HM : Hid (M = []) := Lib.hid (hMO.unique (mapL_of []))
    have HQ4 := Lib.hid (And.intro (below_all HQ.out.1 hb4) (And.intro (HQ.out.2.all hb4) (hN.mono (A' := fun b => w.heap.size + 2 ≤ b) (fun b hb => by omega))))
    clear C HQ hN hb4 hMO s0
    have oFin := HQ4.out.2.1
    have q0 := oFin.cell (i := 0) rfl
    have q1 := oFin.cell (i := 1) rfl
    have q2 := oFin.cell (i := 2) rfl
    have q3 := oFin.cell (i := 3) rfl
    have q4 := oFin.cell (i := 4) rfl
    have g0 := oFin.frozen 0
    have g1 := oFin.frozen 1
    have g2 := oFin.frozen 2
    have g3 := oFin.frozen 3
    have g4 := oFin.frozen 4
    have HU := Lib.hid (And.intro (own_put5 oFin (.int .i64 c'.k) (.int .i64 c'.n) (sV c'.s) (.slice c'.la c'.ln c'.lc) (.slice c'.fa c'.fn c'.fc)) (And.intro (below_put5 HQ4.out.1 (Nat.le_succ _) (.int .i64 c'.k) (.int .i64 c'.n) (sV c'.s) (.slice c'.la c'.ln c'.lc) (.slice c'.fa c'.fn c'.fc)) (HQ4.out.2.2.put5 (b := w.heap.size + 1) (by omega) (.int .i64 c'.k) (.int .i64 c'.n) (sV c'.s) (.slice c'.la c'.ln c'.lc) (.slice c'.fa c'.fn c'.fc))))
    clear oFin
    go_wp2
    clear q0 q1 q2 q3 q4 g0 g1 g2 g3 g4
    change bodyPost Tryz.prog Tryz.f122 _ _ _ (put5 w4 (w.heap.size + 1) (.int .i64 c'.k) (.int .i64 c'.n) (sV c'.s) (.slice c'.la c'.ln c'.lc) (.slice c'.fa c'.fn c'.fc))
    generalize put5 w4 (w.heap.size + 1) (.int .i64 c'.k) (.int .i64 c'.n) (sV c'.s) (.slice c'.la c'.ln c'.lc) (.slice c'.fa c'.fn c'.fc) = U at *
    have c0 := HU.out.1.cell (i := 0) rfl
    have c1 := HU.out.1.cell (i := 1) rfl
    have c2 := HU.out.1.cell (i := 2) rfl
    have c3 := HU.out.1.cell (i := 3) rfl
    have c4 := HU.out.1.cell (i := 4) rfl
    exact bodyPost_ret (v := .agg #[.int .i64 c'.k, .int .i64 c'.n, sV c'.s, .slice c'.la c'.ln c'.lc, .slice c'.fa c'.fn c'.fc]) (by simp [results, Tryz.results122, go_sem, c0, c1, c2, c3, c4]) rfl ⟨c', rfl, HU.out.2.1, by rw [HT.out, ← HM.out]; exact HU.out.2.2.is⟩
end Go.Proofs.YtjpmnlefjmdelaaGreatDoor
namespace Go.Proofs.YtjpmnlefjmdelaaGreatDoor
open Go.RowKit Go.Sort Go.Proofs.LawFrame

def replT (s : S) (x : T) : T → T
  | .mk k n y l f => if s.k = 1 then .mk 5 0 [] [] (mapL (othK k s.nm f ++ [(s.nm, x)])) else .mk 4 0 [] (match place s (.mk k n y l f) with
    | some i => l.set i x
    | none => l ++ [x]) []
theorem below_rowq {w w' w'' : World} {row : Option Nat} (h : Below w.heap.size w w') (hg : w'.grownBy w'' row) (hr : ∀ k, row = some k → w.heap.size ≤ k) : Below w.heap.size w w'' :=
  ⟨hg.os.trans h.os, hg.tape.trans h.tape, hg.output.trans h.output, Nat.le_trans h.size hg.size, fun k hk => (hg.block k (Nat.lt_of_lt_of_le hk h.size) (fun e => by have := hr k e.symm; omega)).trans (h.block k hk)⟩
theorem Own.setVR {w : World} {b : Nat} {cs : List VC} {rest : List Value} {t : TypeId} (h : Own w b (cs.flatMap VC.cells ++ rest) t) {k : Nat} (hk : k < cs.length) (c : VC) :
    Own (((((w.setCell ⟨b, k * 5, none⟩ (.int .i64 c.k)).setCell ⟨b, k * 5 + 1, none⟩ (.int .i64 c.n)).setCell ⟨b, k * 5 + 2, none⟩ (sV c.s)).setCell ⟨b, k * 5 + 3, none⟩ (.slice c.la c.ln c.lc)).setCell ⟨b, k * 5 + 4, none⟩ (.slice c.fa c.fn c.fc)) b ((cs.set k c).flatMap VC.cells ++ rest) t := by
  have := ((((h.set (k * 5) (.int .i64 c.k)).set (k * 5 + 1) (.int .i64 c.n)).set (k * 5 + 2) (sV c.s)).set (k * 5 + 3) (.slice c.la c.ln c.lc)).set (k * 5 + 4) (.slice c.fa c.fn c.fc)
  have hfl := flat_length VC.cells (m := 5) (fun _ => rfl) cs
  rw [set5 _ _ _ _ _ _ _ (by rw [List.length_append, hfl]; omega)] at this
  rw [List.take_append_of_le_length (by rw [hfl]; omega), List.drop_append_of_le_length (by rw [hfl]; omega)] at this
  rw [flatMap_set VC.cells (m := 5) (fun _ => rfl) cs k c hk, List.append_assoc]
  exact this

set_option maxHeartbeats 8000000 in
set_option maxRecDepth 4000 in
theorem replace_any (c cx : VC) (t x : T) (s : S) (w : World) (hI : Is w c t) (hX : Is w cx x) (hz : t.size ≤ 3900) (hzx : x.size ≤ 4000) (hix : 0 ≤ s.ix) :
    Calls Tryz.prog 123 #[c.val, s.val, cx.val] w fun e w' => ∃ c' : VC, e = .returned c'.val ∧ Below w.heap.size w w' ∧ IsA w' (fun b => w.heap.size ≤ b) c' (replT s x t) := by
  obtain ⟨sk, sn, si, sv⟩ := s
  obtain ⟨k, n, y, l, f⟩ := t
  obtain ⟨ck, cn, cs, la, ln, lc, fa, fn, fc⟩ := c
  obtain ⟨xk, xn, xs, xla, xln, xlc, xfa, xfn, xfc⟩ := cx
  obtain ⟨rfl, rfl, rfl⟩ := hI.same
  show Calls Tryz.prog 123 #[.agg #[.int .i64 ck, .int .i64 cn, sV cs, .slice la ln lc, .slice fa fn fc], .agg #[.int .i64 sk, sV sn, .int .i64 si, sV sv], .agg #[.int .i64 xk, .int .i64 xn, sV xs, .slice xla xln xlc, .slice xfa xfn xfc]] w _
  have hb0 : Below w.heap.size w ((((w.alloc (.cells #[.int .i64 ck, .int .i64 cn, sV cs, .slice la ln lc, .slice fa fn fc] 25)).alloc (.cells #[.int .i64 sk, sV sn, .int .i64 si, sV sv] 52)).alloc (.cells #[.int .i64 xk, .int .i64 xn, sV xs, .slice xla xln xlc, .slice xfa xfn xfc] 25)).alloc (.cells #[.int .i64 0, .int .i64 0, .string ⟨#[]⟩, .slice none 0 0, .slice none 0 0] 25)) := ((((Below.refl _ _).alloc (Nat.le_refl _) _).alloc (by simp) _).alloc (by simp; omega) _).alloc (by simp; omega) _
  have oB : Own ((((w.alloc (.cells #[.int .i64 ck, .int .i64 cn, sV cs, .slice la ln lc, .slice fa fn fc] 25)).alloc (.cells #[.int .i64 sk, sV sn, .int .i64 si, sV sv] 52)).alloc (.cells #[.int .i64 xk, .int .i64 xn, sV xs, .slice xla xln xlc, .slice xfa xfn xfc] 25)).alloc (.cells #[.int .i64 0, .int .i64 0, .string ⟨#[]⟩, .slice none 0 0, .slice none 0 0] 25)) w.heap.size [.int .i64 ck, .int .i64 cn, sV cs, .slice la ln lc, .slice fa fn fc] 25 := (((Own.new _ _ _).alloc _).alloc _).alloc _
  have oS : Own ((((w.alloc (.cells #[.int .i64 ck, .int .i64 cn, sV cs, .slice la ln lc, .slice fa fn fc] 25)).alloc (.cells #[.int .i64 sk, sV sn, .int .i64 si, sV sv] 52)).alloc (.cells #[.int .i64 xk, .int .i64 xn, sV xs, .slice xla xln xlc, .slice xfa xfn xfc] 25)).alloc (.cells #[.int .i64 0, .int .i64 0, .string ⟨#[]⟩, .slice none 0 0, .slice none 0 0] 25)) (w.heap.size + 1) [.int .i64 sk, sV sn, .int .i64 si, sV sv] 52 := ((Own.new_at (by rw [size_alloc]) _ _).alloc _).alloc _
  have oX : Own ((((w.alloc (.cells #[.int .i64 ck, .int .i64 cn, sV cs, .slice la ln lc, .slice fa fn fc] 25)).alloc (.cells #[.int .i64 sk, sV sn, .int .i64 si, sV sv] 52)).alloc (.cells #[.int .i64 xk, .int .i64 xn, sV xs, .slice xla xln xlc, .slice xfa xfn xfc] 25)).alloc (.cells #[.int .i64 0, .int .i64 0, .string ⟨#[]⟩, .slice none 0 0, .slice none 0 0] 25)) (w.heap.size + 1 + 1) [.int .i64 xk, .int .i64 xn, sV xs, .slice xla xln xlc, .slice xfa xfn xfc] 25 := (Own.new_at (by rw [size_alloc, size_alloc]) _ _).alloc _
  have oR : Own ((((w.alloc (.cells #[.int .i64 ck, .int .i64 cn, sV cs, .slice la ln lc, .slice fa fn fc] 25)).alloc (.cells #[.int .i64 sk, sV sn, .int .i64 si, sV sv] 52)).alloc (.cells #[.int .i64 xk, .int .i64 xn, sV xs, .slice xla xln xlc, .slice xfa xfn xfc] 25)).alloc (.cells #[.int .i64 0, .int .i64 0, .string ⟨#[]⟩, .slice none 0 0, .slice none 0 0] 25)) (w.heap.size + 1 + 1 + 1) [.int .i64 0, .int .i64 0, .string ⟨#[]⟩, .slice none 0 0, .slice none 0 0] 25 := Own.new_at (by rw [size_alloc, size_alloc, size_alloc]) _ _
  go_enter Tryz.func123, Tryz.ntmps123
  go_upto_region 1 with (fail)
  change Code.wp Tryz.prog _ _ _ ((((w.alloc (.cells #[.int .i64 ck, .int .i64 cn, sV cs, .slice la ln lc, .slice fa fn fc] 25)).alloc (.cells #[.int .i64 sk, sV sn, .int .i64 si, sV sv] 52)).alloc (.cells #[.int .i64 xk, .int .i64 xn, sV xs, .slice xla xln xlc, .slice xfa xfn xfc] 25)).alloc (.cells #[.int .i64 0, .int .i64 0, .string ⟨#[]⟩, .slice none 0 0, .slice none 0 0] 25))
  generalize ((((w.alloc (.cells #[.int .i64 ck, .int .i64 cn, sV cs, .slice la ln lc, .slice fa fn fc] 25)).alloc (.cells #[.int .i64 sk, sV sn, .int .i64 si, sV sv] 52)).alloc (.cells #[.int .i64 xk, .int .i64 xn, sV xs, .slice xla xln xlc, .slice xfa xfn xfc] 25)).alloc (.cells #[.int .i64 0, .int .i64 0, .string ⟨#[]⟩, .slice none 0 0, .slice none 0 0] 25)) = V at *
  have HIX := Lib.hid (And.intro hI hX)
  have HS := Lib.hid (And.intro hb0 (And.intro oR (And.intro oB (And.intro oS oX))))
  by_cases h1 : sk = 1
  · subst h1
    have C := Lib.hid (with_any ⟨ck, cn, cs, la, ln, lc, fa, fn, fc⟩ ⟨xk, xn, xs, xla, xln, xlc, xfa, xfn, xfc⟩ _ _ _ l f sn x V (hI.all hb0) (hX.all hb0) hz hzx)
    have s0 := oS.cell (i := 0) rfl
    have s1 := oS.cell (i := 1) rfl
    have b0 := oB.cell (i := 0) rfl
    have b1 := oB.cell (i := 1) rfl
    have b2 := oB.cell (i := 2) rfl
    have b3 := oB.cell (i := 3) rfl
    have b4 := oB.cell (i := 4) rfl
    have x0 := oX.cell (i := 0) rfl
    have x1 := oX.cell (i := 1) rfl
    have x2 := oX.cell (i := 2) rfl
    have x3 := oX.cell (i := 3) rfl
    have x4 := oX.cell (i := 4) rfl
    have hVs : w.heap.size + 1 + 1 + 1 < V.heap.size := oR.lt
    clear hI hX hb0 oB oS oX oR
    go_wp2_with fail
    refine C.out.mono ?_
    rintro e w8 ⟨c', M, rfl, hb8, hN, hMO⟩
    have HT : Hid (replT ⟨1, sn, si, sv⟩ x (.mk ck cn cs l f) = .mk 5 0 [] [] M) := Lib.hid (by simp only [replT, if_true]; rw [(mapL_of _).unique hMO])
    have HQ := Lib.hid (And.intro (below_all HS.out.1 hb8) (And.intro (HS.out.2.1.all hb8) hN))
    clear C HS hb8 hN hMO b0 b1 b2 b3 b4 x0 x1 x2 x3 x4 s0 s1
    have oFin := HQ.out.2.1
    have q0 := oFin.cell (i := 0) rfl
    have q1 := oFin.cell (i := 1) rfl
    have q2 := oFin.cell (i := 2) rfl
    have q3 := oFin.cell (i := 3) rfl
    have q4 := oFin.cell (i := 4) rfl
    have g0 := oFin.frozen 0
    have g1 := oFin.frozen 1
    have g2 := oFin.frozen 2
    have g3 := oFin.frozen 3
    have g4 := oFin.frozen 4
    have HU := Lib.hid (And.intro (own_put5 oFin (.int .i64 c'.k) (.int .i64 c'.n) (sV c'.s) (.slice c'.la c'.ln c'.lc) (.slice c'.fa c'.fn c'.fc)) (And.intro (below_put5 (b := w.heap.size + 1 + 1 + 1) HQ.out.1 (by omega) (.int .i64 c'.k) (.int .i64 c'.n) (sV c'.s) (.slice c'.la c'.ln c'.lc) (.slice c'.fa c'.fn c'.fc)) ((HQ.out.2.2.mono (A' := fun b => w.heap.size + 1 + 1 + 1 < b) (fun b hb => by omega)).put5 (b := w.heap.size + 1 + 1 + 1) (by omega) (.int .i64 c'.k) (.int .i64 c'.n) (sV c'.s) (.slice c'.la c'.ln c'.lc) (.slice c'.fa c'.fn c'.fc))))
    clear oFin
    go_wp2
    clear q0 q1 q2 q3 q4 g0 g1 g2 g3 g4
    change bodyPost Tryz.prog Tryz.f123 _ _ _ (put5 w8 (w.heap.size + 1 + 1 + 1) (.int .i64 c'.k) (.int .i64 c'.n) (sV c'.s) (.slice c'.la c'.ln c'.lc) (.slice c'.fa c'.fn c'.fc))
    generalize put5 w8 (w.heap.size + 1 + 1 + 1) (.int .i64 c'.k) (.int .i64 c'.n) (sV c'.s) (.slice c'.la c'.ln c'.lc) (.slice c'.fa c'.fn c'.fc) = U at *
    have c0 := HU.out.1.cell (i := 0) rfl
    have c1 := HU.out.1.cell (i := 1) rfl
    have c2 := HU.out.1.cell (i := 2) rfl
    have c3 := HU.out.1.cell (i := 3) rfl
    have c4 := HU.out.1.cell (i := 4) rfl
    exact bodyPost_ret (v := .agg #[.int .i64 c'.k, .int .i64 c'.n, sV c'.s, .slice c'.la c'.ln c'.lc, .slice c'.fa c'.fn c'.fc]) (by simp [results, Tryz.results123, go_sem, c0, c1, c2, c3, c4]) rfl ⟨c', rfl, HU.out.2.1, by rw [HT.out]; exact HU.out.2.2.mono (fun b hb => by omega)⟩
  have hvl := hI.vals
  obtain ⟨vs, g1, g2, g3⟩ := hvl.out
  simp only at g2
  rw [← g1] at g2
  have hz : (T.mk ck cn cs l f).size ≤ 3900 := hz
  have hll := (size_lens (M := 3900) hz).1
  have hszl : ∀ u ∈ l, u.size ≤ 4000 := fun u hu => Int.le_trans (size_in_l (k := ck) (n := cn) (s := cs) (f := f) hu) (by omega)
  have C := Lib.hid (cloneV_any (.slice la ln lc) vs V (Flat.all g2 hb0) (by omega))
  have s0 := oS.cell (i := 0) rfl
  have b3 := oB.cell (i := 3) rfl
  have HG := Lib.hid (And.intro g1 g3)
  have HSZ := Lib.hid (And.intro hll hszl)
  have hVs : w.heap.size + 1 + 1 + 1 < V.heap.size := oR.lt
  clear hI hX hb0 oB oS oX oR hvl g1 g2 g3 hszl
  go_wp2_with fail
  refine C.out.mono ?_
  rintro e w2 ⟨cv, rfl, hown, hb2⟩
  clear C s0 b3
  obtain ⟨ao, cap, hcv, -, -, -⟩ := (Flat.of_own hown).out
  subst hcv
  have HS2 := Lib.hid (And.intro (below_all HS.out.1 hb2) (And.intro (HS.out.2.1.all hb2) (And.intro (HS.out.2.2.1.all hb2) (And.intro (HS.out.2.2.2.1.all hb2) (HS.out.2.2.2.2.all hb2)))))
  have HOW := Lib.hid hown
  have hb2s := hb2.size
  clear hown hb2 HS
  have C := Lib.hid (placeOf_any ⟨ck, cn, cs, la, ln, lc, fa, fn, fc⟩ _ ⟨sk, sn, si, sv⟩ w2 (HIX.out.1.all HS2.out.1) (by omega) hix)
  have b0 := HS2.out.2.2.1.cell (i := 0) rfl
  have b1 := HS2.out.2.2.1.cell (i := 1) rfl
  have b2 := HS2.out.2.2.1.cell (i := 2) rfl
  have b3 := HS2.out.2.2.1.cell (i := 3) rfl
  have b4 := HS2.out.2.2.1.cell (i := 4) rfl
  have s0 := HS2.out.2.2.2.1.cell (i := 0) rfl
  have s1 := HS2.out.2.2.2.1.cell (i := 1) rfl
  have s2 := HS2.out.2.2.2.1.cell (i := 2) rfl
  have s3 := HS2.out.2.2.2.1.cell (i := 3) rfl
  go_wp2_with fail
  refine C.out.mono ?_
  rintro e w3 ⟨rfl, hb3⟩
  clear C b0 b1 b2 b3 b4 s0 s1 s2 s3
  have hown3 := own_below HOW.out hb3
  have HS3 := Lib.hid (And.intro (below_all HS2.out.1 hb3) (And.intro (HS2.out.2.1.all hb3) (HS2.out.2.2.2.2.all hb3)))
  have hb3s := hb3.size
  clear hb3 HS2 HOW
  have x0 := HS3.out.2.2.cell (i := 0) rfl
  have x1 := HS3.out.2.2.cell (i := 1) rfl
  have x2 := HS3.out.2.2.cell (i := 2) rfl
  have x3 := HS3.out.2.2.cell (i := 3) rfl
  have x4 := HS3.out.2.2.cell (i := 4) rfl

  cases hpl : place ⟨sk, sn, si, sv⟩ (.mk ck cn cs l f) with
  | some i =>
    have hlt := place_lt hix hpl
    simp only [h1, if_false] at hlt
    have HT : Hid (replT ⟨sk, sn, si, sv⟩ x (.mk ck cn cs l f) = .mk 4 0 [] (l.set i x) []) := Lib.hid (by simp only [replT]; rw [if_neg h1, hpl])
    have hi0 : ixO (some i) = (i : Int) := rfl
    rw [hi0]
    have hivs : i < vs.length := by rw [HG.out.1]; exact hlt
    rcases hown3.2 with ⟨-, hcz⟩ | ⟨g, cap', cur, hsl, hgb, hg, k1, k2, k3, k4⟩
    · omega
    obtain ⟨rfl, rfl⟩ : ao = some ⟨g, 0, none⟩ ∧ cap = cap' := by simpa using hsl
    have oE : Own w3 g (vs.flatMap VC.cells ++ cur.toList.drop (vs.length * 5)) 25 := by
      have e : vs.flatMap VC.cells ++ cur.toList.drop (vs.length * 5) = cur.toList := by rw [← k4, List.take_append_drop]
      unfold Own; rw [e, hg]
    have hvfl := flat_length VC.cells (m := 5) (fun _ => rfl) vs
    obtain ⟨z0, e0⟩ : ∃ z, w3.cell? ⟨g, i * 5, none⟩ = some z := ⟨_, oE.cell (List.getElem?_eq_getElem (by rw [List.length_append, hvfl]; omega))⟩
    obtain ⟨z1, e1⟩ : ∃ z, w3.cell? ⟨g, i * 5 + 1, none⟩ = some z := ⟨_, oE.cell (List.getElem?_eq_getElem (by rw [List.length_append, hvfl]; omega))⟩
    obtain ⟨z2, e2⟩ : ∃ z, w3.cell? ⟨g, i * 5 + 2, none⟩ = some z := ⟨_, oE.cell (List.getElem?_eq_getElem (by rw [List.length_append, hvfl]; omega))⟩
    obtain ⟨z3, e3⟩ : ∃ z, w3.cell? ⟨g, i * 5 + 3, none⟩ = some z := ⟨_, oE.cell (List.getElem?_eq_getElem (by rw [List.length_append, hvfl]; omega))⟩
    obtain ⟨z4, e4⟩ : ∃ z, w3.cell? ⟨g, i * 5 + 4, none⟩ = some z := ⟨_, oE.cell (List.getElem?_eq_getElem (by rw [List.length_append, hvfl]; omega))⟩
    have f0 := oE.frozen (i * 5)
    have f1 := oE.frozen (i * 5 + 1)
    have f2 := oE.frozen (i * 5 + 2)
    have f3 := oE.frozen (i * 5 + 3)
    have f4 := oE.frozen (i * 5 + 4)
    have oE2 := Own.setVR oE hivs ⟨xk, xn, xs, xla, xln, xlc, xfa, xfn, xfc⟩
    have hgw : w.heap.size ≤ g := by omega
    have hgr : ¬ w.heap.size + 1 + 1 + 1 = g := by omega
    have hbe := below_set (below_set (below_set (below_set (below_set HS3.out.1 hgw (i := i * 5) (.int .i64 xk)) hgw (i := i * 5 + 1) (.int .i64 xn)) hgw (i := i * 5 + 2) (sV xs)) hgw (i := i * 5 + 3) (.slice xla xln xlc)) hgw (i := i * 5 + 4) (.slice xfa xfn xfc)
    have oR2 := ((((HS3.out.2.1.set_ne hgr (i * 5) (.int .i64 xk)).set_ne hgr (i * 5 + 1) (.int .i64 xn)).set_ne hgr (i * 5 + 2) (sV xs)).set_ne hgr (i * 5 + 3) (.slice xla xln xlc)).set_ne hgr (i * 5 + 4) (.slice xfa xfn xfc)
    have hcapn : cap ≤ 9223372036854775807 := by unfold maxLen at k2; omega
    have HE := Lib.hid (And.intro oE2 (And.intro hbe (And.intro oR2 (And.intro hivs k2))))
    clear oE oE2 hbe oR2 hg k3 k4 hown3 hsl hpl hi0
    go_upto_region 8 with (fail)
    clear z0 z1 z2 z3 z4 e0 e1 e2 e3 e4 f0 f1 f2 f3 f4 x0 x1 x2 x3 x4
    change Code.wp Tryz.prog _ _ _ (((((w3.setCell ⟨g, i * 5, none⟩ (.int .i64 xk)).setCell ⟨g, i * 5 + 1, none⟩ (.int .i64 xn)).setCell ⟨g, i * 5 + 2, none⟩ (sV xs)).setCell ⟨g, i * 5 + 3, none⟩ (.slice xla xln xlc)).setCell ⟨g, i * 5 + 4, none⟩ (.slice xfa xfn xfc))
    generalize ((((w3.setCell ⟨g, i * 5, none⟩ (.int .i64 xk)).setCell ⟨g, i * 5 + 1, none⟩ (.int .i64 xn)).setCell ⟨g, i * 5 + 2, none⟩ (sV xs)).setCell ⟨g, i * 5 + 3, none⟩ (.slice xla xln xlc)).setCell ⟨g, i * 5 + 4, none⟩ (.slice xfa xfn xfc) = W at *
    have hvv : Vals W (.slice (some ⟨g, 0, none⟩) vs.length cap) (l.set i x) := by
      refine ⟨vs.set i ⟨xk, xn, xs, xla, xln, xlc, xfa, xfn, xfc⟩, by rw [List.length_set, List.length_set]; exact HG.out.1, ?_, fun j d u hd hu => ?_⟩
      · rw [List.length_set, ← HG.out.1]
        exact ⟨_, _, rfl, k1, HE.out.2.2.2.2, fun _ => ⟨g, 0, rfl, HE.out.1.lt, fun j z hz => by
          rw [Nat.zero_add]
          refine HE.out.1.cell ?_
          rw [List.getElem?_append_left (List.getElem?_eq_some_iff.1 hz).1]; exact hz⟩⟩
      · by_cases e : j = i
        · subst e
          rw [List.getElem?_set_self hivs] at hd; cases hd
          rw [List.getElem?_set_self hlt] at hu; cases hu
          exact HIX.out.2.all HE.out.2.1
        · rw [List.getElem?_set_ne (fun h => e h.symm)] at hd hu
          exact (HG.out.2 j d u hd hu).all HE.out.2.1
    have HQ0 := Lib.hid (And.intro HE.out.2.1 (And.intro HE.out.2.2.1 hvv))
    have HLS := Lib.hid (And.intro (show (l.set i x).length ≤ 4000 by rw [List.length_set]; omega) (show ∀ u ∈ l.set i x, u.size ≤ 4000 from fun u hu => (by
      rcases List.mem_or_eq_of_mem_set hu with h | h
      · exact HSZ.out.2 u h
      · rw [h]; exact hzx)))
    clear hvv HE
    have C := Lib.hid (list_new _ _ W HQ0.out.2.2 (HLS.out.1) HLS.out.2)
    go_wp2_with fail
    refine C.out.mono ?_
    rintro e w8 ⟨c', rfl, hb8, hN, -⟩
    have HQ := Lib.hid (And.intro (below_all HQ0.out.1 hb8) (And.intro (HQ0.out.2.1.all hb8) hN))
    have hW8 : w.heap.size + 1 + 1 + 1 < W.heap.size := HQ0.out.2.1.lt
    clear C hb8 hN HQ0
    have oFin := HQ.out.2.1
    have q0 := oFin.cell (i := 0) rfl
    have q1 := oFin.cell (i := 1) rfl
    have q2 := oFin.cell (i := 2) rfl
    have q3 := oFin.cell (i := 3) rfl
    have q4 := oFin.cell (i := 4) rfl
    have g0 := oFin.frozen 0
    have g1 := oFin.frozen 1
    have g2 := oFin.frozen 2
    have g3 := oFin.frozen 3
    have g4 := oFin.frozen 4
    have HU := Lib.hid (And.intro (own_put5 oFin (.int .i64 c'.k) (.int .i64 c'.n) (sV c'.s) (.slice c'.la c'.ln c'.lc) (.slice c'.fa c'.fn c'.fc)) (And.intro (below_put5 (b := w.heap.size + 1 + 1 + 1) HQ.out.1 (by omega) (.int .i64 c'.k) (.int .i64 c'.n) (sV c'.s) (.slice c'.la c'.ln c'.lc) (.slice c'.fa c'.fn c'.fc)) ((HQ.out.2.2.mono (A' := fun b => w.heap.size + 1 + 1 + 1 < b) (fun b hb => by omega)).put5 (b := w.heap.size + 1 + 1 + 1) (by omega) (.int .i64 c'.k) (.int .i64 c'.n) (sV c'.s) (.slice c'.la c'.ln c'.lc) (.slice c'.fa c'.fn c'.fc))))
    clear oFin
    go_wp2
    clear q0 q1 q2 q3 q4 g0 g1 g2 g3 g4
    change bodyPost Tryz.prog Tryz.f123 _ _ _ (put5 w8 (w.heap.size + 1 + 1 + 1) (.int .i64 c'.k) (.int .i64 c'.n) (sV c'.s) (.slice c'.la c'.ln c'.lc) (.slice c'.fa c'.fn c'.fc))
    generalize put5 w8 (w.heap.size + 1 + 1 + 1) (.int .i64 c'.k) (.int .i64 c'.n) (sV c'.s) (.slice c'.la c'.ln c'.lc) (.slice c'.fa c'.fn c'.fc) = U at *
    have c0 := HU.out.1.cell (i := 0) rfl
    have c1 := HU.out.1.cell (i := 1) rfl
    have c2 := HU.out.1.cell (i := 2) rfl
    have c3 := HU.out.1.cell (i := 3) rfl
    have c4 := HU.out.1.cell (i := 4) rfl
    exact bodyPost_ret (v := .agg #[.int .i64 c'.k, .int .i64 c'.n, sV c'.s, .slice c'.la c'.ln c'.lc, .slice c'.fa c'.fn c'.fc]) (by simp [results, Tryz.results123, go_sem, c0, c1, c2, c3, c4]) rfl ⟨c', rfl, HU.out.2.1, by rw [HT.out]; exact HU.out.2.2.mono (fun b hb => by omega)⟩
  | none =>
    have HT : Hid (replT ⟨sk, sn, si, sv⟩ x (.mk ck cn cs l f) = .mk 4 0 [] (l ++ [x]) []) := Lib.hid (by simp only [replT]; rw [if_neg h1, hpl])
    have hi0 : ixO none = -1 := rfl
    rw [hi0]
    obtain ⟨i25, hi25, hz25, hs25, hy25⟩ := info_parts info25
    have hvl : vs.length ≤ 4000 := by rw [HG.out.1]; omega
    clear hpl hi0
    go_upto_region 8 with (first | (at_builtin; refine wpList_append_own _ rfl (.tmp 29) (.tmp 31) 22 rfl V.heap.size 25 i25 (.agg #[.int .i64 0, .int .i64 0, .string ⟨#[]⟩, .slice none 0 0, .slice none 0 0]) 5 80 Tryz.underlying22 hi25 hz25 hs25 hy25 rfl (by decide) _ _ _ rfl (hown3.alloc _) ⟨w3.heap.size, 0, none⟩ 1 1 (VC.cells ⟨xk, xn, xs, xla, xln, xlc, xfa, xfn, xfc⟩) rfl rfl (own_src (Own.new _ _ _)) (five_one ⟨xk, xn, xs, xla, xln, xlc, xfa, xfn, xfc⟩) (by unfold maxLen; omega) (by omega) (by simp; omega) ?_; intro v9 w9 hown9 hgrow9 hnil9) | fail)
    have hrow := own_row hown3
    have hb9 := below_rowq (HS3.out.1.alloc HS3.out.1.size (.cells #[.int .i64 xk, .int .i64 xn, sV xs, .slice xla xln xlc, .slice xfa xfn xfc] 25)) hgrow9 (fun k hk => by have := hrow k hk; omega)
    have oR9 := own_kept' (HS3.out.2.1.alloc (.cells #[.int .i64 xk, .int .i64 xn, sV xs, .slice xla xln xlc, .slice xfa xfn xfc] 25)) hgrow9 (fun e => by have := hrow _ e; omega)
    have hF9 := Flat.of_own hown9
    obtain ⟨ao9, cap9, hv9, -, -, -⟩ := hF9.out
    subst hv9
    have hvv : Vals w9 (.slice ao9 (vs.length + 1) cap9) (l ++ [x]) := by
      refine ⟨vs ++ [⟨xk, xn, xs, xla, xln, xlc, xfa, xfn, xfc⟩], by rw [List.length_append, List.length_append, HG.out.1]; rfl, ?_, fun j d u hd hu => ?_⟩
      · rw [List.length_append, ← HG.out.1, snocV]; exact hF9
      · rcases Nat.lt_or_ge j vs.length with hj | hj
        · rw [List.getElem?_append_left hj] at hd
          rw [List.getElem?_append_left (by rw [← HG.out.1]; exact hj)] at hu
          exact (HG.out.2 j d u hd hu).all hb9
        · have hj2 := (List.getElem?_eq_some_iff.1 hd).1
          rw [List.length_append] at hj2
          obtain rfl : j = vs.length := by simp at hj2; omega
          rw [List.getElem?_append_right (Nat.le_refl _), Nat.sub_self] at hd
          rw [List.getElem?_append_right (by rw [HG.out.1]; exact Nat.le_refl _), HG.out.1, Nat.sub_self] at hu
          simp at hd hu
          subst hd hu
          exact HIX.out.2.all hb9
    have HQ0 := Lib.hid (And.intro hb9 (And.intro oR9 hvv))
    have HLS := Lib.hid (And.intro (show (l ++ [x]).length ≤ 4000 by rw [List.length_append]; simp; omega) (show ∀ u ∈ l ++ [x], u.size ≤ 4000 from fun u hu => (by
      rcases List.mem_append.1 hu with h | h
      · exact HSZ.out.2 u h
      · simp at h; rw [h]; exact hzx)))
    clear hvv hb9 oR9 hF9 hown9 hgrow9 hnil9 hrow hown3 HS3 x0 x1 x2 x3 x4
    have C := Lib.hid (list_new _ _ w9 HQ0.out.2.2 (HLS.out.1) HLS.out.2)
    go_wp2_with fail
    refine C.out.mono ?_
    rintro e w8 ⟨c', rfl, hb8, hN, -⟩
    have HQ := Lib.hid (And.intro (below_all HQ0.out.1 hb8) (And.intro (HQ0.out.2.1.all hb8) hN))
    have hW8 : w.heap.size + 1 + 1 + 1 < w9.heap.size := HQ0.out.2.1.lt
    clear C hb8 hN HQ0
    have oFin := HQ.out.2.1
    have q0 := oFin.cell (i := 0) rfl
    have q1 := oFin.cell (i := 1) rfl
    have q2 := oFin.cell (i := 2) rfl
    have q3 := oFin.cell (i := 3) rfl
    have q4 := oFin.cell (i := 4) rfl
    have g0 := oFin.frozen 0
    have g1 := oFin.frozen 1
    have g2 := oFin.frozen 2
    have g3 := oFin.frozen 3
    have g4 := oFin.frozen 4
    have HU := Lib.hid (And.intro (own_put5 oFin (.int .i64 c'.k) (.int .i64 c'.n) (sV c'.s) (.slice c'.la c'.ln c'.lc) (.slice c'.fa c'.fn c'.fc)) (And.intro (below_put5 (b := w.heap.size + 1 + 1 + 1) HQ.out.1 (by omega) (.int .i64 c'.k) (.int .i64 c'.n) (sV c'.s) (.slice c'.la c'.ln c'.lc) (.slice c'.fa c'.fn c'.fc)) ((HQ.out.2.2.mono (A' := fun b => w.heap.size + 1 + 1 + 1 < b) (fun b hb => by omega)).put5 (b := w.heap.size + 1 + 1 + 1) (by omega) (.int .i64 c'.k) (.int .i64 c'.n) (sV c'.s) (.slice c'.la c'.ln c'.lc) (.slice c'.fa c'.fn c'.fc))))
    clear oFin
    go_wp2
    clear q0 q1 q2 q3 q4 g0 g1 g2 g3 g4
    change bodyPost Tryz.prog Tryz.f123 _ _ _ (put5 w8 (w.heap.size + 1 + 1 + 1) (.int .i64 c'.k) (.int .i64 c'.n) (sV c'.s) (.slice c'.la c'.ln c'.lc) (.slice c'.fa c'.fn c'.fc))
    generalize put5 w8 (w.heap.size + 1 + 1 + 1) (.int .i64 c'.k) (.int .i64 c'.n) (sV c'.s) (.slice c'.la c'.ln c'.lc) (.slice c'.fa c'.fn c'.fc) = U at *
    have c0 := HU.out.1.cell (i := 0) rfl
    have c1 := HU.out.1.cell (i := 1) rfl
    have c2 := HU.out.1.cell (i := 2) rfl
    have c3 := HU.out.1.cell (i := 3) rfl
    have c4 := HU.out.1.cell (i := 4) rfl
    exact bodyPost_ret (v := .agg #[.int .i64 c'.k, .int .i64 c'.n, sV c'.s, .slice c'.la c'.ln c'.lc, .slice c'.fa c'.fn c'.fc]) (by simp [results, Tryz.results123, go_sem, c0, c1, c2, c3, c4]) rfl ⟨c', rfl, HU.out.2.1, by rw [HT.out]; exact HU.out.2.2.mono (fun b hb => by omega)⟩
end Go.Proofs.YtjpmnlefjmdelaaGreatDoor
namespace Go.Proofs.YtjpmnlefjmdelaaGreatDoor
open Go.RowKit Go.Sort Go.Proofs.LawFrame

def setP : List S → T → T → T × Int
  | [], _, x => (x, 0)
  | s :: p, t, x => if ¬ entE s t = 0 then (T0, entE s t) else
    if ¬ (setP p ((kid s t).getD (newT s)) x).2 = 0 then (T0, (setP p ((kid s t).getD (newT s)) x).2)
    else if s.k = 3 ∧ hasK s.nm s.vl (setP p ((kid s t).getD (newT s)) x).1 = false then (T0, 6)
    else (replT s (setP p ((kid s t).getD (newT s)) x).1 t, 0)
theorem sizeF_oth (nm : Str) : ∀ f : List (Str × T), sizeF (oth nm f) ≤ sizeF f
  | [] => by simp [oth, sizeF]
  | (x, t) :: f => by
    have ih := sizeF_oth nm f
    have := size_pos t
    unfold oth at *
    rw [List.filter_cons]
    split <;> simp only [sizeF] <;> omega
theorem sizeF_oth_look {nm : Str} : ∀ {f : List (Str × T)} {u : T}, look nm f = some u → sizeF (oth nm f) + u.size ≤ sizeF f
  | [], u, h => by simp [look] at h
  | (x, t) :: f, u, h => by
    rw [look_cons] at h
    have h1 := sizeF_oth nm f
    unfold oth at *
    rw [List.filter_cons]
    by_cases e : x = nm
    · rw [if_pos e] at h
      cases h
      rw [if_neg (by simp [e])]
      simp only [sizeF]; omega
    · rw [if_neg e] at h
      have ih := sizeF_oth_look h
      unfold oth at ih
      rw [if_pos (by simp [e])]
      simp only [sizeF]; omega
theorem sizeF_pf (x : Str) (t : T) : ∀ (f : List (Str × T)) (d : Bool), sizeF (pf x t d f) ≤ sizeF f + (if d then 0 else t.size)
  | [], d => by cases d <;> simp [pf, sizeF]
  | (y, u) :: f, d => by
    have h1 := sizeF_pf x t f true
    have h2 := sizeF_pf x t f false
    have := size_pos u
    have := size_pos t
    simp only [if_true, Bool.false_eq_true, if_false] at h1 h2
    unfold pf
    cases d
    · by_cases e2 : y = x
      · subst e2; by_cases e : cmpS y y = -1 <;> simp [e, sizeF_append, sizeF] at * <;> omega
      · by_cases e : cmpS y x = -1 <;> simp [e, e2, sizeF_append, sizeF] at * <;> omega
    · by_cases e2 : y = x <;> simp [e2, sizeF_append, sizeF] at * <;> omega
theorem sizeF_mapL_aux : ∀ (l M : List (Str × T)), sizeF (l.foldl (fun M p => pf p.1 p.2 false M) M) ≤ sizeF M + sizeF l
  | [], M => by simp [sizeF]
  | (x, t) :: l, M => by
    have ih := sizeF_mapL_aux l (pf x t false M)
    have h := sizeF_pf x t M false
    simp only [Bool.false_eq_true, if_false] at h
    simp only [List.foldl_cons, sizeF]; omega
theorem sizeF_mapL (l : List (Str × T)) : sizeF (mapL l) ≤ sizeF l := by
  have := sizeF_mapL_aux l []
  unfold mapL; simp only [sizeF] at this; omega
theorem sizeL_set : ∀ {l : List T} {i : Nat} {u y : T}, l[i]? = some u → sizeL (l.set i y) + u.size = sizeL l + y.size
  | [], i, u, y, h => by simp at h
  | a :: l, 0, u, y, h => by simp at h; subst h; simp only [List.set_cons_zero, sizeL]; omega
  | a :: l, i + 1, u, y, h => by
    have := sizeL_set (l := l) (i := i) (u := u) (y := y) (by simpa using h)
    simp only [List.set_cons_succ, sizeL]; omega
theorem replT_some {s : S} {t u y : T} (h : kid s t = some u) : (replT s y t).size + u.size ≤ t.size + y.size := by
  obtain ⟨k, n, z, l, f⟩ := t
  unfold kid at h
  cases hp : place s (.mk k n z l f) with
  | none => rw [hp] at h; cases h
  | some i =>
    rw [hp] at h
    simp only [kidAt] at h
    have hl0 := sizeL_nonneg l
    have hf0 := sizeF_nonneg f
    by_cases h1 : s.k = 1
    · rw [if_pos h1] at h
      simp only [place, if_pos h1] at hp
      split at hp
      · rename_i h5
        obtain ⟨p, g1, g2, g3⟩ := plF_look.1 i hp
        rw [g1] at h
        simp at h
        subst h
        have a := sizeF_oth_look g3
        have b := sizeF_mapL (oth s.nm f ++ [(s.nm, y)])
        rw [sizeF_append] at b
        simp only [replT, if_pos h1, othK, if_pos h5, T.size, sizeL]
        simp only [sizeF] at b
        omega
      · cases hp
    · rw [if_neg h1] at h
      have a := sizeL_set (y := y) h
      simp only [replT, if_neg h1, hp, T.size, sizeF]
      omega
theorem replT_none (s : S) (t y : T) (h : kid s t = none) (hs : 0 ≤ s.ix) : (replT s y t).size ≤ t.size + y.size := by
  obtain ⟨k, n, z, l, f⟩ := t
  have hl0 := sizeL_nonneg l
  have hf0 := sizeF_nonneg f
  by_cases h1 : s.k = 1
  · have b := sizeF_mapL (othK k s.nm f ++ [(s.nm, y)])
    have c : sizeF (othK k s.nm f) ≤ sizeF f := by
      unfold othK; split
      · exact sizeF_oth _ _
      · simp only [sizeF]; omega
    rw [sizeF_append] at b
    simp only [replT, if_pos h1, T.size, sizeL]
    simp only [sizeF] at b
    omega
  · cases hp : place s (.mk k n z l f) with
    | none =>
      simp only [replT, if_neg h1, hp, T.size, sizeF, sizeL_append, sizeL]
      omega
    | some i =>
      obtain ⟨c, hc⟩ := kid_some hs hp
      unfold kid at h; rw [hp] at h; simp only [hc] at h; cases h
theorem newT_size (s : S) : (newT s).size ≤ 2 := by unfold newT; split <;> simp [T.size, sizeL, sizeF]
theorem setP_size : ∀ (p : List S) (t x : T), (∀ s ∈ p, stepOk s = true) → (setP p t x).1.size ≤ t.size + x.size + 2 * p.length
  | [], t, x, _ => by have := size_pos t; simp only [setP, List.length_nil]; omega
  | s :: p, t, x, h => by
    have h0 := size_pos t
    have hx := size_pos x
    have ih := setP_size p ((kid s t).getD (newT s)) x (fun q hq => h q (by simp [hq]))
    have hT : T0.size = 1 := by simp [T0, T.size, sizeL, sizeF]
    simp only [setP, List.length_cons]
    split
    · simp only [hT]; omega
    · split
      · simp only [hT]; omega
      · split
        · simp only [hT]; omega
        · simp only
          cases hk : kid s t with
          | none =>
            rw [hk] at ih
            simp only [Option.getD_none] at ih ⊢
            have a := newT_size s
            have b := replT_none s t (setP p (newT s) x).1 hk (stepOk_ix (h s (by simp))).1
            omega
          | some u =>
            rw [hk] at ih
            simp only [Option.getD_some] at ih ⊢
            have b := replT_some (y := (setP p u x).1) hk
            omega
end Go.Proofs.YtjpmnlefjmdelaaGreatDoor
