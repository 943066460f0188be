/- The contract of Map. -/
import Derived.Test.YtjpmnlefjmdelaaDoorSdJ
import Derived.Test.YtjpmnlefjmdelaaDoorMu
import Derived.Test.YtjpmnlefjmdelaaDoorCaJ
import Derived.Test.YtjpmnlefjmdelaaDoorPdJ
set_option linter.unusedSimpArgs false
set_option linter.unusedVariables false
namespace Go.Proofs.YtjpmnlefjmdelaaDoor
open Go.RowKit Go.Sort Go.Proofs.LawFrame

theorem tree_fun {w : World} {cs : List FC} {l : List (Str × T)} (h1 : cs.length = l.length) (hx : ∀ (i : Nat) (x : FC) (p : Str × T), cs[i]? = some x → l[i]? = some p → x.x = p.1) (hI : ∀ (i : Nat) (x : FC) (p : Str × T), cs[i]? = some x → l[i]? = some p → Is w x.v p.2) :
    ∃ f : FC → Str × T, (∀ c, (f c).1 = c.x) ∧ (∀ c ∈ cs, Is w c.v (f c).2) ∧ cs.map f = l := by
  classical
  have key : ∀ i (h : i < cs.length), ∃ t, Is w cs[i].v t := fun i h => ⟨_, hI i cs[i] l[i] (List.getElem?_eq_getElem h) (List.getElem?_eq_getElem (by omega))⟩
  refine ⟨fun c => (c.x, if h : ∃ t, Is w c.v t then h.choose else T.mk 0 0 [] [] []), fun _ => rfl, fun c hc => ?_, ?_⟩
  · obtain ⟨i, hi, rfl⟩ := List.mem_iff_getElem.1 hc
    have h := key i hi
    simp only [dif_pos h]
    exact h.choose_spec
  · apply List.ext_getElem (by simpa using h1)
    intro i g1 g2
    have g1' : i < cs.length := by simpa using g1
    have h := key i g1'
    rw [List.getElem_map]
    simp only [dif_pos h]
    exact Prod.ext (hx i cs[i] l[i] (List.getElem?_eq_getElem g1') (List.getElem?_eq_getElem g2)) (h.choose_spec.det (hI i cs[i] l[i] (List.getElem?_eq_getElem g1') (List.getElem?_eq_getElem g2)))
theorem flds_map {w : World} {v : Value} {K : List FC} (f : FC → Str × T) (hf : ∀ c, (f c).1 = c.x) (hI : ∀ c ∈ K, Is w c.v (f c).2) (hF : Flat w v K.length (K.flatMap FC.cells)) : Flds w v (K.map f) := by
  refine ⟨K, by simp, by simpa using hF, fun i x p hx hp => ?_, fun i x p hx hp => ?_⟩
  · rw [List.getElem?_map, hx] at hp; cases hp; exact (hf x).symm
  · rw [List.getElem?_map, hx] at hp; cases hp; exact hI x (List.mem_of_getElem? hx)
theorem isA_map {W w1 w' : World} {M : List (Str × T)} {fa : Option Addr} {fn fc : Nat} (h : NewF w1 w' (.slice fa fn fc) M) (hw : W.heap.size ≤ w1.heap.size) : IsA w' (fun b => W.heap.size ≤ b) ⟨5, 0, [], none, 0, 0, fa, fn, fc⟩ (.mk 5 0 [] [] M) :=
  IsA.new (W := W) (w1 := W) (c := ⟨5, 0, [], none, 0, 0, fa, fn, fc⟩) ⟨Or.inl ⟨rfl, rfl⟩⟩ h (Nat.le_refl _) hw

set_option maxHeartbeats 400000 in
theorem sort_nil (w : World) : Calls Tryd.prog 118 #[.slice none 0 0, .func (.func 119) #[] #[]] w fun en w' => en = .returned (.tuple #[]) ∧ Below w.heap.size w w' := by
  go_enter Tryd.func118, Tryd.ntmps118
  go_wp2_with fail
  refine Calls.mono (R := fun en w' => en = .returned (.tuple #[]) ∧ Below w.heap.size w w') ?_ ?_
  · go_enter Tryd.func136, Tryd.ntmps136
    go_wp2
    refine wp_loop_rounds 1 ?_
    rw [rounds_succ]
    go_wp2_with fail
    refine Calls.mono (R := fun en w' => en = .returned (.tuple #[]) ∧ Below w.heap.size w w') ?_ ?_
    · go_enter Tryd.func146, Tryd.ntmps146
      go_wp2
      refine wp_loop_rounds 1 ?_
      rw [rounds_succ]
      go_wp2
      go_end0
      exact ⟨rfl, Below.refl _ _⟩
    · rintro e w1 ⟨rfl, h1⟩
      go_wp2
      refine wp_loop_rounds 1 ?_
      rw [rounds_succ]
      go_wp2
      go_end0
      exact ⟨rfl, h1⟩
  · rintro e w1 ⟨rfl, h1⟩
    go_wp2
    go_end0
    exact ⟨rfl, h1⟩

set_option maxHeartbeats 8000000 in
set_option maxRecDepth 4000 in
theorem map_any (v : Value) (l : List (Str × T)) (w : World) (hv : Flds w v l) (hn0 : l.length ≤ 4000) (hs : ∀ p ∈ l, p.2.size ≤ 4000) :
    Calls Tryd.prog 100 #[v] w fun e w' => ∃ (c' : VC) (M : List (Str × T)), e = .returned c'.val ∧ Below w.heap.size w w' ∧ IsA w' (fun b => w.heap.size ≤ b) c' (.mk 5 0 [] [] M) ∧ MapOf l M := by
  obtain ⟨cs, hcl, hF, hx, hI⟩ := hv.out
  obtain ⟨f, hf1, hf2, hf3⟩ := tree_fun hcl hx hI
  have hn : cs.length ≤ 4000 := by omega
  rw [← hcl] at hF
  clear hcl hn0
  obtain ⟨i35, hi35, hzi35, hsi35, hyi35⟩ := info_parts info35
  have hw0 : Below w.heap.size w (w.alloc (.cells #[.int .i64 0, .int .i64 0, .string ⟨#[]⟩, .slice none 0 0, .slice none 0 0] 26)) := (Below.refl _ _).alloc (Nat.le_refl _) _
  have oR : Own (w.alloc (.cells #[.int .i64 0, .int .i64 0, .string ⟨#[]⟩, .slice none 0 0, .slice none 0 0] 26)) w.heap.size [.int .i64 0, .int .i64 0, .string ⟨#[]⟩, .slice none 0 0, .slice none 0 0] 26 := Own.new _ _ _
  have C := Lib.hid (clone_any v cs _ (hF.all hw0) hn)
  obtain ⟨ao, cap0, rfl, -⟩ := hF.out
  have HF := Lib.hid (And.intro hf1 (And.intro hf2 (And.intro hf3 hs)))
  clear hF hv hf1 hf2 hf3 hs hx hI
  go_enter Tryd.func100, Tryd.ntmps100
  go_wp2_with fail
  generalize w.alloc (.cells #[.int .i64 0, .int .i64 0, .string ⟨#[]⟩, .slice none 0 0, .slice none 0 0] 26) = W0 at *
  refine C.out.mono ?_
  rintro e w1 ⟨cv, rfl, hown, hb1⟩
  rcases hown.2 with ⟨hcv, h0⟩ | ⟨g, cap, cur, rfl, hgb, hg, h1, h2, h3, h4⟩
  · subst hcv
    have h00 : cs = [] := List.eq_nil_of_length_eq_zero h0
    subst h00
    have hbw1 := below_all hw0 hb1
    have oR1 := oR.all hb1
    have S := Lib.hid (sort_nil w1)
    clear hown hb1 hw0 oR C
    go_wp2_with fail
    refine S.out.mono ?_
    rintro e w2 ⟨rfl, hb2⟩
    have oR2 := oR1.all hb2
    have hbw2 := below_all hbw1 hb2
    clear hb2 oR1 hbw1 S
    go_wp2
    refine wp_loop_rounds 1 ?_
    rw [rounds_succ]
    have R0 := Lib.hid (And.intro hbw2 oR2)
    clear hbw2 oR2
    go_wp2_with fail
    refine (copyFields_empty none 0 w2).mono ?_
    rintro e w4 ⟨rfl, rfl⟩
    obtain ⟨hbE, oR4⟩ := R0.out
    have r0 : w2.cell? ⟨w.heap.size, 0, none⟩ = some (.int .i64 0) := oR4.cell rfl
    have r1 : w2.cell? ⟨w.heap.size, 1, none⟩ = some (.int .i64 0) := oR4.cell rfl
    have r2 : w2.cell? ⟨w.heap.size, 2, none⟩ = some (.string ⟨#[]⟩) := oR4.cell rfl
    have r3 : w2.cell? ⟨w.heap.size, 3, none⟩ = some (.slice none 0 0) := oR4.cell rfl
    have r4 : w2.cell? ⟨w.heap.size, 4, none⟩ = some (.slice none 0 0) := oR4.cell rfl
    have f0 := oR4.frozen 0
    have f1 := oR4.frozen 1
    have f2 := oR4.frozen 2
    have f3 := oR4.frozen 3
    have f4 := oR4.frozen 4
    have oS := ((((oR4.set 0 (.int .i64 5)).set 1 (.int .i64 0)).set 2 (.string ⟨#[]⟩)).set 3 (.slice none 0 0)).set 4 (.slice none 0 0)
    have hbS := below_set (below_set (below_set (below_set (below_set hbE (Nat.le_refl w.heap.size) (i := 0) (.int .i64 5)) (Nat.le_refl _) (i := 1) (.int .i64 0)) (Nat.le_refl _) (i := 2) (.string ⟨#[]⟩)) (Nat.le_refl _) (i := 3) (.slice none 0 0)) (Nat.le_refl _) (i := 4) (.slice none 0 0)
    have HS := Lib.hid (And.intro oS hbS)
    clear oS hbS hbE oR4 R0
    go_wp2
    obtain ⟨oS, hbS⟩ := HS.out
    clear r0 r1 r2 r3 r4 f0 f1 f2 f3 f4 HS
    generalize ((((w2.setCell ⟨w.heap.size, 0, none⟩ (.int .i64 5)).setCell ⟨w.heap.size, 1, none⟩ (.int .i64 0)).setCell ⟨w.heap.size, 2, none⟩ (.string ⟨#[]⟩)).setCell ⟨w.heap.size, 3, none⟩ (.slice none 0 0)).setCell ⟨w.heap.size, 4, none⟩ (.slice none 0 0) = U at *
    have c0 : U.cell? ⟨w.heap.size, 0, none⟩ = some (.int .i64 5) := oS.cell rfl
    have c1 : U.cell? ⟨w.heap.size, 1, none⟩ = some (.int .i64 0) := oS.cell rfl
    have c2 : U.cell? ⟨w.heap.size, 2, none⟩ = some (.string ⟨#[]⟩) := oS.cell rfl
    have c3 : U.cell? ⟨w.heap.size, 3, none⟩ = some (.slice none 0 0) := oS.cell rfl
    have c4 : U.cell? ⟨w.heap.size, 4, none⟩ = some (.slice none 0 0) := oS.cell rfl
    exact bodyPost_ret (v := .agg #[.int .i64 5, .int .i64 0, .string ⟨#[]⟩, .slice none 0 0, .slice none 0 0]) (by simp [results, Tryd.results100, go_sem, c0, c1, c2, c3, c4]) rfl ⟨⟨5, 0, [], none, 0, 0, none, 0, 0⟩, [], rfl, hbS, isA_map (w1 := w) ⟨Or.inl ⟨rfl, rfl⟩⟩ (Nat.le_refl _), by rw [← HF.out.2.2.1]; exact mapOf_nil⟩
  have o1 : Own w1 g (cs.flatMap FC.cells ++ cur.toList.drop (cs.length * 6)) 43 := by
    show w1.heap[g]? = _
    rw [hg, ← h4, List.take_append_drop]
  have hbw1 := below_all hw0 hb1
  have oR1 := oR.all hb1
  have hltR := oR.lt
  have S := Lib.hid (sort_any g cap cs.length _ cs w1 o1 rfl hn h1 h2)
  have hg1 := hb1.size
  clear hown hg h3 h4 o1 hb1 hw0 oR C
  go_wp2_with fail
  refine S.out.mono ?_
  rintro e w2 ⟨rfl, hbt, hST⟩
  obtain ⟨L, hLs, hLe, hl2, o2⟩ := hST.out
  have HL := Lib.hid (And.intro hLs hLe)
  clear hLs hLe hST
  have hbw2 := hbt.below hbw1 (by omega) hbw1.size
  have oR2 := Own.but oR1 hbt (by omega)
  have hg2 := o2.lt
  clear hbt hbw1 oR1 S hgb hg1 hltR
  unfold maxLen at h2
  go_wp2
  have R0 := Lib.hid (And.intro hbw2 (And.intro o2 oR2))
  clear hbw2 o2 oR2
  go_loopg [4, 13] cs.length (fun gg kv i wr => ∃ k : Nat, k ≤ cs.length ∧ gg = cs.length - k ∧ i = .int .i64 k ∧ Below w2.heap.size w2 wr ∧ wr.ownsRow w2.heap.size 43 6 kv (keepTo L k).length ((keepTo L k).flatMap FC.cells))
  case atStart => exact ⟨0, Nat.zero_le _, rfl, rfl, Below.refl _ _, own_nil _ _ _ _⟩
  case round =>
    obtain ⟨k, hk, hg, rfl, hb, hown⟩ := hrel
    have HG := Lib.hid hg
    clear hg
    by_cases hlt : k < cs.length
    · have hx : L[k]? = some (L.getD k FC0) := by rw [List.getD_eq_getElem?_getD, List.getElem?_eq_getElem (by omega)]; rfl
      have HKB : Hid (keepB L k = (decide (k + 1 = cs.length) || !((L.getD (k + 1) FC0).x == (L.getD k FC0).x))) := Lib.hid (by unfold keepB; rw [hl2])
      have HKT : Hid (keepTo L (k + 1) = if keepB L k then keepTo L k ++ [L.getD k FC0] else keepTo L k) := Lib.hid rfl
      have hkl := keepTo_len L k
      generalize hRR : keepTo L k = R at *
      have hy : k + 1 < cs.length → L[k + 1]? = some (L.getD (k + 1) FC0) := fun h => by rw [List.getD_eq_getElem?_getD, List.getElem?_eq_getElem (by omega)]; rfl
      generalize L.getD k FC0 = c at *
      generalize L.getD (k + 1) FC0 = d at *
      clear hRR
      obtain ⟨q, q0, q1, q2, q3, q4⟩ := Own.fieldAt (R0.out.2.1.all hb) hx
      have hbb := hb.alloc hb.size (.cells #[sV c.x, .int .i64 c.v.k, .int .i64 c.v.n, sV c.v.s, .slice c.v.la c.v.ln c.v.lc, .slice c.v.fa c.v.fn c.v.fc] 43)
      have oN : Own (wr.alloc (.cells #[sV c.x, .int .i64 c.v.k, .int .i64 c.v.n, sV c.v.s, .slice c.v.la c.v.ln c.v.lc, .slice c.v.fa c.v.fn c.v.fc] 43)) wr.heap.size (FC.cells c) 43 := Own.new _ _ _
      have hownA := hown.alloc (.cells #[sV c.x, .int .i64 c.v.k, .int .i64 c.v.n, sV c.v.s, .slice c.v.la c.v.ln c.v.lc, .slice c.v.fa c.v.fn c.v.fc] 43)
      have hwr := hb.size
      go_wp2
      clear q q0 q1 q2 q3 q4
      change Code.wp Tryd.prog _ _ _ (wr.alloc (.cells #[sV c.x, .int .i64 c.v.k, .int .i64 c.v.n, sV c.v.s, .slice c.v.la c.v.ln c.v.lc, .slice c.v.fa c.v.fn c.v.fc] 43))
      have hVs : w2.heap.size < (wr.alloc (.cells #[sV c.x, .int .i64 c.v.k, .int .i64 c.v.n, sV c.v.s, .slice c.v.la c.v.ln c.v.lc, .slice c.v.fa c.v.fn c.v.fc] 43)).heap.size := by rw [size_alloc]; omega
      generalize wr.alloc (.cells #[sV c.x, .int .i64 c.v.k, .int .i64 c.v.n, sV c.v.s, .slice c.v.la c.v.ln c.v.lc, .slice c.v.fa c.v.fn c.v.fc] 43) = V at *
      have z0 := cell_regrown (oN.cell (i := 0) rfl)
      by_cases hlast : k + 1 = cs.length
      · have hl1 : ((k : Int) + 1 == (cs.length : Int)) = true := by rw [beq_iff_eq]; omega
        have HB : Hid (keepTo L (k + 1) = R ++ [c]) := Lib.hid (by rw [HKT.out, HKB.out, decide_eq_true hlast]; rfl)
        refine wp_region_quiet_below (by kernel_rfl) (by kernel_rfl) ?_
        repeat (first | go_big_quiet_step (fail) | quiet_step (fail))
        refine wpQuiet_nil ?_
        intro _ hw'
        obtain ⟨⟨dq, osq⟩, hw''⟩ := hw'
        subst hw''
        have hbU := hbb.trans ((below_regrown V dq osq).mono (by omega))
        have hownU := own_below hownA (below_regrown V dq osq)
        have oU := oN.all (below_regrown V dq osq)
        have hUs := (below_regrown V dq osq).size
        clear z0 hownA hbb oN
        generalize grow (redrawn V dq) osq = U at *
        have u0 := oU.cell (i := 0) rfl
        have u1 := oU.cell (i := 1) rfl
        have u2 := oU.cell (i := 2) rfl
        have u3 := oU.cell (i := 3) rfl
        have u4 := oU.cell (i := 4) rfl
        have u5' := oU.cell (i := 5) rfl
        clear oU
        go_wp2_with (first | (at_builtin; refine wpList_append_own _ rfl (.tmp 34) (.tmp 36) 24 rfl w2.heap.size 43 i35 (.agg #[.string ⟨#[]⟩, .int .i64 0, .int .i64 0, .string ⟨#[]⟩, .slice none 0 0, .slice none 0 0]) 6 96 Tryd.underlying24 hi35 hzi35 hsi35 hyi35 rfl (by decide) _ _ _ rfl (hownU.alloc _) ⟨U.heap.size, 0, none⟩ 1 1 (FC.cells c) rfl rfl (cell_six_new _ _ _) (six_one c) (by unfold maxLen; omega) (by omega) (by simp; omega) ?_; intro v' w5 hown5 hgrow5 hnil5))
        go_roundg (cs.length - (k + 1))
        case measure => have := HG.out; omega
        case rel => exact ⟨k + 1, by omega, rfl, by go_num, below_grown (hbU.trans ((below_alloc U _).mono (by omega))) hgrow5 (by rw [size_alloc]; omega) (own_row hownU), by rw [HB.out, flatMap_snoc, List.length_append]; exact hown5⟩
      · have hl1 : ((k : Int) + 1 == (cs.length : Int)) = false := by rw [beq_eq_false_iff_ne]; omega
        have y0 := cell_regrown (Own.fieldAt (R0.out.2.1.all hbb) (hy (by omega))).1
        cases hq : (d.x == c.x)
        · have HB : Hid (keepTo L (k + 1) = R ++ [c]) := Lib.hid (by rw [HKT.out, HKB.out, hq]; simp)
          refine wp_region_quiet_below (by kernel_rfl) (by kernel_rfl) ?_
          repeat (first | go_big_quiet_step (fail) | quiet_step (fail))
          refine wpQuiet_nil ?_
          intro _ hw'
          obtain ⟨⟨dq, osq⟩, hw''⟩ := hw'
          subst hw''
          clear y0
          have hbU := hbb.trans ((below_regrown V dq osq).mono (by omega))
          have hownU := own_below hownA (below_regrown V dq osq)
          have oU := oN.all (below_regrown V dq osq)
          have hUs := (below_regrown V dq osq).size
          clear z0 hownA hbb oN
          generalize grow (redrawn V dq) osq = U at *
          have u0 := oU.cell (i := 0) rfl
          have u1 := oU.cell (i := 1) rfl
          have u2 := oU.cell (i := 2) rfl
          have u3 := oU.cell (i := 3) rfl
          have u4 := oU.cell (i := 4) rfl
          have u5' := oU.cell (i := 5) rfl
          clear oU
          go_wp2_with (first | (at_builtin; refine wpList_append_own _ rfl (.tmp 34) (.tmp 36) 24 rfl w2.heap.size 43 i35 (.agg #[.string ⟨#[]⟩, .int .i64 0, .int .i64 0, .string ⟨#[]⟩, .slice none 0 0, .slice none 0 0]) 6 96 Tryd.underlying24 hi35 hzi35 hsi35 hyi35 rfl (by decide) _ _ _ rfl (hownU.alloc _) ⟨U.heap.size, 0, none⟩ 1 1 (FC.cells c) rfl rfl (cell_six_new _ _ _) (six_one c) (by unfold maxLen; omega) (by omega) (by simp; omega) ?_; intro v' w5 hown5 hgrow5 hnil5))
          go_roundg (cs.length - (k + 1))
          case measure => have := HG.out; omega
          case rel => exact ⟨k + 1, by omega, rfl, by go_num, below_grown (hbU.trans ((below_alloc U _).mono (by omega))) hgrow5 (by rw [size_alloc]; omega) (own_row hownU), by rw [HB.out, flatMap_snoc, List.length_append]; exact hown5⟩
        · have HB : Hid (keepTo L (k + 1) = R) := Lib.hid (by rw [HKT.out, HKB.out, hq, decide_eq_false hlast]; rfl)
          refine wp_region_quiet_below (by kernel_rfl) (by kernel_rfl) ?_
          repeat (first | go_big_quiet_step (fail) | quiet_step (fail))
          refine wpQuiet_nil ?_
          intro _ hw'
          obtain ⟨⟨dq, osq⟩, hw''⟩ := hw'
          subst hw''
          have hbU := hbb.trans ((below_regrown V dq osq).mono (by omega))
          have hownU := own_below hownA (below_regrown V dq osq)
          clear y0 z0 hownA hbb
          go_wp2
          go_roundg (cs.length - (k + 1))
          case measure => have := HG.out; omega
          case rel => exact ⟨k + 1, by omega, rfl, by go_num, hbU, by rw [HB.out]; exact hownU⟩
    · obtain rfl : k = cs.length := by omega
      have hkd : keepTo L cs.length = dd L := by rw [← hl2]; exact keepTo_dd L
      rw [hkd] at hown
      obtain ⟨K, hK⟩ : ∃ K, K = dd L := ⟨_, rfl⟩
      have HK := Lib.hid hK
      rw [← hK] at hown
      have hKl : K.length ≤ 4000 := by rw [hK, ← hkd]; have := keepTo_len L cs.length; omega
      clear hkd hK
      have hF := Flat.of_own hown
      obtain ⟨ao2, cap2, hu, hlc2, hcap2, -⟩ := hF.out
      subst hu
      have hbz := hb.size
      obtain ⟨hbw2, o2, oR2⟩ := R0.out
      have hbF := below_next hbw2 hbw2.size hb
      have oRF := oR2.all hb
      have hIK : ∀ c ∈ K, Is wr c.v (f c).2 ∧ (f c).2.size ≤ 4000 := fun c hc => by
        have h1 : c ∈ cs := HL.out.2.mem (dd_mem (by rw [← HK.out]; exact hc))
        exact ⟨(HF.out.2.1 c h1).all hbF, HF.out.2.2.2 _ (by rw [← HF.out.2.2.1]; exact List.mem_map_of_mem h1)⟩
      have CC := Lib.hid (copyFields_of (K.map f) (fun i p hp c w h => copy_any p.2 (by
          obtain ⟨c', hc', rfl⟩ := List.mem_map.1 (List.mem_of_getElem? hp)
          exact (hIK c' hc').2) c w h) _ wr (flds_map f HF.out.1 (fun c hc => (hIK c hc).1) hF) (by simpa using hKl))
      clear hIK
      have hRlt := oR2.lt
      clear R0 hF hown hbw2 o2 oR2 HG hb
      generalize wr = W3 at *
      go_wp2_with fail
      refine CC.out.mono ?_
      rintro e w4 ⟨v4, rfl, hbw4, hNF⟩
      obtain ⟨fa4, fn4, fc4, rfl⟩ := hNF.slice
      have oR4 := oRF.all hbw4
      have hbE := below_all hbF hbw4
      have hw3 := hbF.size
      have r0 : w4.cell? ⟨w.heap.size, 0, none⟩ = some (.int .i64 0) := oR4.cell rfl
      have r1 : w4.cell? ⟨w.heap.size, 1, none⟩ = some (.int .i64 0) := oR4.cell rfl
      have r2 : w4.cell? ⟨w.heap.size, 2, none⟩ = some (.string ⟨#[]⟩) := oR4.cell rfl
      have r3 : w4.cell? ⟨w.heap.size, 3, none⟩ = some (.slice none 0 0) := oR4.cell rfl
      have r4 : w4.cell? ⟨w.heap.size, 4, none⟩ = some (.slice none 0 0) := oR4.cell rfl
      have f0 := oR4.frozen 0
      have f1 := oR4.frozen 1
      have f2 := oR4.frozen 2
      have f3 := oR4.frozen 3
      have f4 := oR4.frozen 4
      have HO := Lib.hid (And.intro hbE (And.intro oR4 hNF))
      clear hbE oR4 hNF oRF hbF hbw4 CC
      go_wp2
      obtain ⟨hbE, oR4, hNF⟩ := HO.out
      have oS := ((((oR4.set 0 (.int .i64 5)).set 1 (.int .i64 0)).set 2 (.string ⟨#[]⟩)).set 3 (.slice none 0 0)).set 4 (.slice fa4 fn4 fc4)
      have hbS := below_set (below_set (below_set (below_set (below_set hbE (Nat.le_refl w.heap.size) (i := 0) (.int .i64 5)) (Nat.le_refl _) (i := 1) (.int .i64 0)) (Nat.le_refl _) (i := 2) (.string ⟨#[]⟩)) (Nat.le_refl _) (i := 3) (.slice none 0 0)) (Nat.le_refl _) (i := 4) (.slice fa4 fn4 fc4)
      have hNS := ((((hNF.set (b := w.heap.size) (by omega) 0 (.int .i64 5)).set (b := w.heap.size) (by omega) 1 (.int .i64 0)).set (b := w.heap.size) (by omega) 2 (.string ⟨#[]⟩)).set (b := w.heap.size) (by omega) 3 (.slice none 0 0)).set (b := w.heap.size) (by omega) 4 (.slice fa4 fn4 fc4)
      clear r0 r1 r2 r3 r4 f0 f1 f2 f3 f4 hbE oR4 hNF HO
      generalize ((((w4.setCell ⟨w.heap.size, 0, none⟩ (.int .i64 5)).setCell ⟨w.heap.size, 1, none⟩ (.int .i64 0)).setCell ⟨w.heap.size, 2, none⟩ (.string ⟨#[]⟩)).setCell ⟨w.heap.size, 3, none⟩ (.slice none 0 0)).setCell ⟨w.heap.size, 4, none⟩ (.slice fa4 fn4 fc4) = U at *
      have c0 : U.cell? ⟨w.heap.size, 0, none⟩ = some (.int .i64 5) := oS.cell rfl
      have c1 : U.cell? ⟨w.heap.size, 1, none⟩ = some (.int .i64 0) := oS.cell rfl
      have c2 : U.cell? ⟨w.heap.size, 2, none⟩ = some (.string ⟨#[]⟩) := oS.cell rfl
      have c3 : U.cell? ⟨w.heap.size, 3, none⟩ = some (.slice none 0 0) := oS.cell rfl
      have c4 : U.cell? ⟨w.heap.size, 4, none⟩ = some (.slice fa4 fn4 fc4) := oS.cell rfl
      exact bodyPost_ret (v := .agg #[.int .i64 5, .int .i64 0, .string ⟨#[]⟩, .slice none 0 0, .slice fa4 fn4 fc4]) (by simp [results, Tryd.results100, go_sem, c0, c1, c2, c3, c4]) rfl ⟨⟨5, 0, [], none, 0, 0, fa4, fn4, fc4⟩, K.map f, rfl, hbS, isA_map hNS (by omega), by have := dd_map f HF.out.1 HL.out.1 HL.out.2; rw [HF.out.2.2.1, ← HK.out] at this; exact this⟩
end Go.Proofs.YtjpmnlefjmdelaaDoor
