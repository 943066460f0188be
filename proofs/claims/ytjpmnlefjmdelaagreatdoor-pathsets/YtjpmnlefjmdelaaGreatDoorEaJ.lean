/- The contract of the reference's put. The walk of the reference's put. -/
import Derived.Test.YtjpmnlefjmdelaaGreatDoorCeJJ
set_option linter.unusedSimpArgs false
set_option linter.unusedVariables false
namespace Go.Proofs.YtjpmnlefjmdelaaGreatDoor
open Go.RowKit Go.Sort Go.Proofs.LawFrame

/-- put, over cells -/
def pfF (g : FC) : Bool → List FC → List FC
  | d, [] => if d then [] else [g]
  | d, y :: r => (if !d && !decide (cmpS y.x g.x = -1) then [g] else []) ++ ((if y.x = g.x then [] else [y]) ++ pfF g (d || !decide (cmpS y.x g.x = -1)) r)
theorem pfF_len (g : FC) : ∀ (l : List FC) (d : Bool), (pfF g d l).length ≤ l.length + 1 := by
  intro l
  have key : ∀ (l : List FC) (d : Bool), (pfF g d l).length + (if d then 1 else 0) ≤ l.length + 1 := by
    intro l
    induction l with
    | nil => intro d; cases d <;> simp [pfF]
    | cons y r ih =>
      intro d
      rw [pfF, List.length_append, List.length_append]
      have h := ih (d || !decide (cmpS y.x g.x = -1))
      generalize decide (cmpS y.x g.x = -1) = B at *
      cases d <;> cases B <;> by_cases e2 : y.x = g.x <;> simp [e2] at h ⊢ <;> omega
  intro d
  have := key l d
  omega
theorem Flat.fieldAt {w wr : World} {ao : Option Addr} {n cap : Nat} {cs : List FC} (h : Flat w (.slice ao n cap) cs.length (cs.flatMap FC.cells)) (hb : Below w.heap.size w wr) {q : Nat} {y : FC} (hq : cs[q]? = some y) :
    ∃ (b off : Nat), ao = some ⟨b, off, none⟩ ∧ wr.cell? ⟨b, off + q * 6, none⟩ = some (sV y.x) ∧ wr.cell? ⟨b, off + q * 6 + 1, none⟩ = some (.int .i64 y.v.k) ∧ wr.cell? ⟨b, off + q * 6 + 2, none⟩ = some (.int .i64 y.v.n) ∧ wr.cell? ⟨b, off + q * 6 + 3, none⟩ = some (sV y.v.s) ∧ wr.cell? ⟨b, off + q * 6 + 4, none⟩ = some (.slice y.v.la y.v.ln y.v.lc) ∧ wr.cell? ⟨b, off + q * 6 + 5, none⟩ = some (.slice y.v.fa y.v.fn y.v.fc) := by
  obtain ⟨ao', cap', h1, h2, h3, h4⟩ := h.out
  cases h1
  have hl := (List.getElem?_eq_some_iff.1 hq).1
  obtain ⟨b, off, rfl, h6, h7⟩ := h4 (by omega)
  have hc : ∀ j z, (FC.cells y)[j]? = some z → wr.cell? ⟨b, off + q * 6 + j, none⟩ = some z := fun j z hz => by
    have hj : j < 6 := (List.getElem?_eq_some_iff.1 hz).1
    rw [hb.cell (p := ⟨b, off + q * 6 + j, none⟩) h6, Nat.add_assoc]
    exact h7 (q * 6 + j) z (by rw [flat_get FC.cells (m := 6) (fun _ => rfl) cs q j y hq hj]; exact hz)
  exact ⟨b, off, rfl, hc 0 _ rfl, hc 1 _ rfl, hc 2 _ rfl, hc 3 _ rfl, hc 4 _ rfl, hc 5 _ rfl⟩
theorem drop_cons2 {α : Type} {l : List α} {i : Nat} {t : α} (h : l[i]? = some t) : l.drop i = t :: l.drop (i + 1) := by
  obtain ⟨hi, rfl⟩ := List.getElem?_eq_some_iff.1 h
  exact List.drop_eq_getElem_cons hi
/-- one step of put -/
theorem pfF_step {g y : FC} {cs acc : List FC} {q : Nat} {d d' : Bool} {ins own : List FC} (hS : acc ++ pfF g d (cs.drop q) = pfF g false cs) (hy : cs[q]? = some y)
    (h1 : (if !d && !decide (cmpS y.x g.x = -1) then [g] else []) = ins) (h2 : (if y.x = g.x then [] else [y]) = own) (h3 : (d || !decide (cmpS y.x g.x = -1)) = d') : (acc ++ ins) ++ own ++ pfF g d' (cs.drop (q + 1)) = pfF g false cs := by
  rw [← hS, drop_cons2 hy, pfF, h1, h2, h3]; simp
end Go.Proofs.YtjpmnlefjmdelaaGreatDoor
namespace Go.Proofs.YtjpmnlefjmdelaaGreatDoor
open Go.RowKit Go.Sort Go.Proofs.LawFrame

theorem le_false {a b : Str} (h : cmpS b a = -1) : (Op.bytesLess a b || a == b) = false := by
  have h1 : Op.bytesLess a b = false := less_not.2 (by rw [cmpS_anti b a, h]; decide)
  have h2 : (a == b) = false := by simpa using fun e : a = b => cmpS_ne h e.symm
  rw [h1, h2]; rfl
theorem le_true {a b : Str} (h : ¬ cmpS b a = -1) : (Op.bytesLess a b || a == b) = true := by
  rcases cmpS_tri b a with h1 | h1 | h1
  · exact absurd h1 h
  · have := cmpS_zero h1; subst this; simp
  · have : Op.bytesLess a b = true := less_iff.2 (by rw [cmpS_anti b a, h1])
    rw [this]; rfl

set_option maxHeartbeats 8000000 in
set_option maxRecDepth 20000 in
set_option maxRecDepth 4000 in
theorem rput_any (v : Value) (cs : List FC) (g : FC) (w : World) (hF : Flat w v cs.length (cs.flatMap FC.cells)) (hn : cs.length ≤ 4000) (L' : List FC) (hL' : pfF g false cs = L') :
    Calls Tryz.prog 82 #[v, .agg #[sV g.x, .int .i64 g.v.k, .int .i64 g.v.n, sV g.v.s, .slice g.v.la g.v.ln g.v.lc, .slice g.v.fa g.v.fn g.v.fc]] w fun e w' => ∃ kv, e = .returned kv ∧ Below w.heap.size w w' ∧ w'.ownsRow w.heap.size 58 6 kv L'.length (L'.flatMap FC.cells) := by
  obtain ⟨ao, cap, rfl, hlc, hcap, -⟩ := hF.out
  unfold maxLen at hcap
  obtain ⟨i35, hi35, hzi35, hsi35, hyi35⟩ := info_parts info35
  have HW := Lib.hid (below_alloc w (.cells #[sV g.x, .int .i64 g.v.k, .int .i64 g.v.n, sV g.v.s, .slice g.v.la g.v.ln g.v.lc, .slice g.v.fa g.v.fn g.v.fc] 58))
  have OG := Lib.hid (Own.new w (FC.cells g) 58)
  have hs0 : (w.alloc (.cells #[sV g.x, .int .i64 g.v.k, .int .i64 g.v.n, sV g.v.s, .slice g.v.la g.v.ln g.v.lc, .slice g.v.fa g.v.fn g.v.fc] 58)).heap.size = w.heap.size + 1 := size_alloc _ _
  go_enter Tryz.func82, Tryz.ntmps82
  go_wp2
  generalize w.alloc (.cells #[sV g.x, .int .i64 g.v.k, .int .i64 g.v.n, sV g.v.s, .slice g.v.la g.v.ln g.v.lc, .slice g.v.fa g.v.fn g.v.fc] 58) = W at *
  go_loopg [5, 6, 7] cs.length (fun gk kv dv i wr => ∃ (q : Nat) (acc : List FC) (d : Bool), q ≤ cs.length ∧ gk = cs.length - q ∧ i = .int .i64 q ∧ dv = .bool d ∧ Below W.heap.size W wr ∧ wr.ownsRow W.heap.size 58 6 kv acc.length (acc.flatMap FC.cells) ∧ acc.length ≤ 2 * q ∧ Hid (acc ++ pfF g d (cs.drop q) = pfF g false cs))
  case atStart => exact ⟨0, [], false, Nat.zero_le _, rfl, rfl, rfl, Below.refl _ _, own_nil _ _ _ _, Nat.le_refl _, Lib.hid rfl⟩
  case round =>
    obtain ⟨q, acc, d, hq, hg, rfl, rfl, hb, hown, hacc, HS⟩ := hrel
    have HG := Lib.hid hg
    clear hg
    by_cases hlt : q < cs.length
    case neg =>
      obtain rfl : q = cs.length := by omega
      have hbw := below_all HW.out hb
      have hVW := hb.size
      cases d
      · have HL : Hid (acc ++ [g] = L') := Lib.hid (by have h := HS.out; rw [List.drop_length, hL'] at h; exact h)
        have oG := OG.out.all hb
        have g0 := oG.cell (i := 0) rfl
        have g1 := oG.cell (i := 1) rfl
        have g2 := oG.cell (i := 2) rfl
        have g3 := oG.cell (i := 3) rfl
        have g4 := oG.cell (i := 4) rfl
        have g5 := oG.cell (i := 5) rfl
        clear oG
        go_wp2_with (first | (at_builtin; refine wpList_append_own _ rfl (.tmp 47) (.tmp 49) 23 rfl W.heap.size 58 i35 (.agg #[.string ⟨#[]⟩, .int .i64 0, .int .i64 0, .string ⟨#[]⟩, .slice none 0 0, .slice none 0 0]) 6 96 Tryz.underlying23 hi35 hzi35 hsi35 hyi35 rfl (by decide) _ _ _ rfl (hown.alloc _) ⟨wr.heap.size, 0, none⟩ 1 1 (FC.cells g) rfl rfl (cell_six_new _ g _) (six_one g) (by unfold maxLen; omega) (by omega) (by simp; omega) ?_; intro v' w5 hown5 hgrow5 hnil5) | fail)
        have hb5 := below_grown (hb.trans ((below_alloc wr _).mono (by omega))) hgrow5 (by rw [size_alloc]; omega) (own_row hown)
        go_ret
        refine ⟨_, rfl, below_all HW.out hb5, ?_⟩
        rw [← HL.out, flatMap_snoc, List.length_append]
        exact row_weak hown5 (by omega)
      · have HL : Hid (acc = L') := Lib.hid (by have h := HS.out; rw [List.drop_length, hL'] at h; simpa [pfF] using h)
        have HQ := Lib.hid (And.intro hbw hown)
        clear hbw hown hb
        go_wp2
        go_ret
        exact ⟨_, rfl, HQ.out.1, by rw [← HL.out]; exact row_weak HQ.out.2 (by omega)⟩
    have hy := List.getElem?_eq_getElem hlt
    generalize cs[q] = y at hy
    have HY := Lib.hid hy
    clear hy hL'
    cases d
    · by_cases hc : cmpS y.x g.x = -1
      · have HLE : Hid ((Op.bytesLess g.x y.x || g.x == y.x) = false) := Lib.hid (le_false hc)
        have H1 : Hid ((if !false && !decide (cmpS y.x g.x = -1) then [g] else []) = ([] : List FC)) := Lib.hid (by rw [decide_eq_true hc]; rfl)
        have H3 : Hid ((false || !decide (cmpS y.x g.x = -1)) = false) := Lib.hid (by rw [decide_eq_true hc]; rfl)
        clear hc
        obtain ⟨b, off, hao, y0, y1, y2, y3, y4, y5⟩ := hF.fieldAt (below_all HW.out hb) HY.out
        subst hao
        have oG := OG.out.all hb
        have g0 := oG.cell (i := 0) rfl
        go_upto_region 6 with (fail)
        have yg := cell_regrown y0
        have gg0 := cell_regrown g0
        clear y0 y1 y2 y3 y4 y5
        clear g0 oG
        refine wp_region_quiet_below (by kernel_rfl) (by kernel_rfl) ?_
        repeat (first | go_big_quiet_step (fail) | quiet_step (fail))
        refine wpQuiet_nil ?_
        intro _ hw'
        obtain ⟨⟨dq, osq⟩, hw''⟩ := hw'
        subst hw''
        have hbQ := below_regrown wr dq osq
        have hb1 := below_all hb hbQ
        have hown1 := own_below hown hbQ
        clear yg gg0 hbQ hb hown
        generalize grow (redrawn wr dq) osq = V1 at *
        rw [HLE.out]
        go_upto_region 9 with (fail)
        obtain ⟨b', off', hao', y0, y1, y2, y3, y4, y5⟩ := hF.fieldAt (below_all HW.out hb1) HY.out
        cases hao'
        have oG := OG.out.all hb1
        have g0 := oG.cell (i := 0) rfl
        have yg := cell_regrown y0
        have gg0 := cell_regrown g0
        clear y0 y1 y2 y3 y4 y5
        clear g0 oG
        by_cases he : y.x = g.x
        · have hyg : (y.x == g.x) = true := by simpa using he
          have HS2 := Lib.hid (pfF_step HS.out HY.out H1.out (if_pos he) H3.out)
          clear he
          refine wp_region_quiet_below (by kernel_rfl) (by kernel_rfl) ?_
          repeat (first | go_big_quiet_step (fail) | quiet_step (fail))
          refine wpQuiet_nil ?_
          intro _ hw'
          obtain ⟨⟨dq, osq⟩, hw''⟩ := hw'
          subst hw''
          have hbQ := below_regrown V1 dq osq
          have hb2 := below_all hb1 hbQ
          have hown2 := own_below hown1 hbQ
          clear yg gg0 hbQ
          generalize grow (redrawn V1 dq) osq = V2 at *
          go_wp2
          go_roundg (cs.length - (q + 1))
          case measure => have := HG.out; omega
          case rel => exact ⟨q + 1, acc, false, by omega, rfl, by go_num, rfl, hb2, hown2, by omega, Lib.hid (by have := HS2.out; simpa using this)⟩
        · have hyg : (y.x == g.x) = false := by simpa using he
          have HS2 := Lib.hid (pfF_step HS.out HY.out H1.out (if_neg he) H3.out)
          clear he
          refine wp_region_quiet_below (by kernel_rfl) (by kernel_rfl) ?_
          repeat (first | go_big_quiet_step (fail) | quiet_step (fail))
          refine wpQuiet_nil ?_
          intro _ hw'
          obtain ⟨⟨dq, osq⟩, hw''⟩ := hw'
          subst hw''
          have hbQ := below_regrown V1 dq osq
          have hb := below_all hb1 hbQ
          have hown := own_below hown1 hbQ
          clear yg gg0 hbQ
          generalize grow (redrawn V1 dq) osq = V2 at *
          obtain ⟨b', off', hao', y0, y1, y2, y3, y4, y5⟩ := hF.fieldAt (below_all HW.out hb) HY.out
          cases hao'
          have hal : (acc).length ≤ 2 * q + 1 := by omega
          have hVW := hb.size
          go_wp2_with (first | (at_builtin; refine wpList_append_own _ rfl (.tmp 38) (.tmp 43) 23 rfl W.heap.size 58 i35 (.agg #[.string ⟨#[]⟩, .int .i64 0, .int .i64 0, .string ⟨#[]⟩, .slice none 0 0, .slice none 0 0]) 6 96 Tryz.underlying23 hi35 hzi35 hsi35 hyi35 rfl (by decide) _ _ _ rfl (hown.alloc _) ⟨V2.heap.size, 0, none⟩ 1 1 (FC.cells y) rfl rfl (cell_six_new _ y _) (six_one y) (by unfold maxLen; omega) (by omega) (by simp; omega) ?_; intro v' w5 hown5 hgrow5 hnil5) | fail)
          have hb5 := below_grown (hb.trans ((below_alloc V2 _).mono (by omega))) hgrow5 (by rw [size_alloc]; omega) (own_row hown)
          go_roundg (cs.length - (q + 1))
          case measure => have := HG.out; omega
          case rel => exact ⟨q + 1, acc ++ [y], false, by omega, rfl, by go_num, rfl, hb5, by rw [flatMap_snoc, List.length_append]; exact hown5, by rw [List.length_append]; simp at hal ⊢; omega, Lib.hid (by have := HS2.out; simpa using this)⟩
      · have HLE : Hid ((Op.bytesLess g.x y.x || g.x == y.x) = true) := Lib.hid (le_true hc)
        have H1 : Hid ((if !false && !decide (cmpS y.x g.x = -1) then [g] else []) = [g]) := Lib.hid (by rw [decide_eq_false hc]; rfl)
        have H3 : Hid ((false || !decide (cmpS y.x g.x = -1)) = true) := Lib.hid (by rw [decide_eq_false hc]; rfl)
        clear hc
        obtain ⟨b, off, hao, y0, y1, y2, y3, y4, y5⟩ := hF.fieldAt (below_all HW.out hb) HY.out
        subst hao
        have oG := OG.out.all hb
        have g0 := oG.cell (i := 0) rfl
        go_upto_region 6 with (fail)
        have yg := cell_regrown y0
        have gg0 := cell_regrown g0
        clear y0 y1 y2 y3 y4 y5
        clear g0 oG
        refine wp_region_quiet_below (by kernel_rfl) (by kernel_rfl) ?_
        repeat (first | go_big_quiet_step (fail) | quiet_step (fail))
        refine wpQuiet_nil ?_
        intro _ hw'
        obtain ⟨⟨dq, osq⟩, hw''⟩ := hw'
        subst hw''
        have hbQ := below_regrown wr dq osq
        have hb1 := below_all hb hbQ
        have hown1 := own_below hown hbQ
        clear yg gg0 hbQ hb hown
        generalize grow (redrawn wr dq) osq = V1 at *
        rw [HLE.out]
        have hb := hb1
        have hown := hown1
        have hVW := hb.size
        have oG := OG.out.all hb
        have g0 := oG.cell (i := 0) rfl
        have g1 := oG.cell (i := 1) rfl
        have g2 := oG.cell (i := 2) rfl
        have g3 := oG.cell (i := 3) rfl
        have g4 := oG.cell (i := 4) rfl
        have g5 := oG.cell (i := 5) rfl
        clear oG hb1 hown1
        go_upto_region 9 with (first | (at_builtin; refine wpList_append_own _ rfl (.tmp 26) (.tmp 28) 23 rfl W.heap.size 58 i35 (.agg #[.string ⟨#[]⟩, .int .i64 0, .int .i64 0, .string ⟨#[]⟩, .slice none 0 0, .slice none 0 0]) 6 96 Tryz.underlying23 hi35 hzi35 hsi35 hyi35 rfl (by decide) _ _ _ rfl (hown.alloc _) ⟨V1.heap.size, 0, none⟩ 1 1 (FC.cells g) rfl rfl (cell_six_new _ g _) (six_one g) (by unfold maxLen; omega) (by omega) (by simp; omega) ?_; intro v' w5 hown5 hgrow5 hnil5) | fail)
        have hb5 := below_grown (hb.trans ((below_alloc V1 _).mono (by omega))) hgrow5 (by rw [size_alloc]; omega) (own_row hown)
        have hown6 : w5.ownsRow W.heap.size 58 6 v' (acc ++ [g]).length ((acc ++ [g]).flatMap FC.cells) := by rw [flatMap_snoc, List.length_append]; exact hown5
        clear g0 g1 g2 g3 g4 g5
        clear hb hown hown5 hgrow5 hnil5
        obtain ⟨b', off', hao', y0, y1, y2, y3, y4, y5⟩ := hF.fieldAt (below_all HW.out hb5) HY.out
        cases hao'
        have oG := OG.out.all hb5
        have g0 := oG.cell (i := 0) rfl
        have yg := cell_regrown y0
        have gg0 := cell_regrown g0
        clear y0 y1 y2 y3 y4 y5
        clear g0 oG
        by_cases he : y.x = g.x
        · have hyg : (y.x == g.x) = true := by simpa using he
          have HS2 := Lib.hid (pfF_step HS.out HY.out H1.out (if_pos he) H3.out)
          clear he
          refine wp_region_quiet_below (by kernel_rfl) (by kernel_rfl) ?_
          repeat (first | go_big_quiet_step (fail) | quiet_step (fail))
          refine wpQuiet_nil ?_
          intro _ hw'
          obtain ⟨⟨dq, osq⟩, hw''⟩ := hw'
          subst hw''
          have hbQ := below_regrown w5 dq osq
          have hb2 := below_all hb5 hbQ
          have hown2 := own_below hown6 hbQ
          clear yg gg0 hbQ
          generalize grow (redrawn w5 dq) osq = V2 at *
          go_wp2
          go_roundg (cs.length - (q + 1))
          case measure => have := HG.out; omega
          case rel => exact ⟨q + 1, acc ++ [g], true, by omega, rfl, by go_num, rfl, hb2, hown2, by (simp; omega), Lib.hid (by have := HS2.out; simpa using this)⟩
        · have hyg : (y.x == g.x) = false := by simpa using he
          have HS2 := Lib.hid (pfF_step HS.out HY.out H1.out (if_neg he) H3.out)
          clear he
          refine wp_region_quiet_below (by kernel_rfl) (by kernel_rfl) ?_
          repeat (first | go_big_quiet_step (fail) | quiet_step (fail))
          refine wpQuiet_nil ?_
          intro _ hw'
          obtain ⟨⟨dq, osq⟩, hw''⟩ := hw'
          subst hw''
          have hbQ := below_regrown w5 dq osq
          have hb := below_all hb5 hbQ
          have hown := own_below hown6 hbQ
          clear yg gg0 hbQ
          generalize grow (redrawn w5 dq) osq = V2 at *
          obtain ⟨b', off', hao', y0, y1, y2, y3, y4, y5⟩ := hF.fieldAt (below_all HW.out hb) HY.out
          cases hao'
          have hal : (acc ++ [g]).length ≤ 2 * q + 1 := by (simp; omega)
          have hVW := hb.size
          go_wp2_with (first | (at_builtin; refine wpList_append_own _ rfl (.tmp 38) (.tmp 43) 23 rfl W.heap.size 58 i35 (.agg #[.string ⟨#[]⟩, .int .i64 0, .int .i64 0, .string ⟨#[]⟩, .slice none 0 0, .slice none 0 0]) 6 96 Tryz.underlying23 hi35 hzi35 hsi35 hyi35 rfl (by decide) _ _ _ rfl (hown.alloc _) ⟨V2.heap.size, 0, none⟩ 1 1 (FC.cells y) rfl rfl (cell_six_new _ y _) (six_one y) (by unfold maxLen; omega) (by omega) (by simp; omega) ?_; intro v' w5 hown5 hgrow5 hnil5) | fail)
          have hb5 := below_grown (hb.trans ((below_alloc V2 _).mono (by omega))) hgrow5 (by rw [size_alloc]; omega) (own_row hown)
          go_roundg (cs.length - (q + 1))
          case measure => have := HG.out; omega
          case rel => exact ⟨q + 1, acc ++ [g] ++ [y], true, by omega, rfl, by go_num, rfl, hb5, by rw [flatMap_snoc, List.length_append]; exact hown5, by rw [List.length_append]; simp at hal ⊢; omega, Lib.hid (by have := HS2.out; simpa using this)⟩
    · have H1 : Hid ((if !true && !decide (cmpS y.x g.x = -1) then [g] else []) = ([] : List FC)) := Lib.hid rfl
      have H3 : Hid ((true || !decide (cmpS y.x g.x = -1)) = true) := Lib.hid rfl
      obtain ⟨b, off, hao, y0, y1, y2, y3, y4, y5⟩ := hF.fieldAt (below_all HW.out hb) HY.out
      subst hao
      have oG := OG.out.all hb
      have g0 := oG.cell (i := 0) rfl
      go_upto_region 6 with (fail)
      have yg := cell_regrown y0
      have gg0 := cell_regrown g0
      clear y0 y1 y2 y3 y4 y5
      clear g0 oG
      refine wp_region_quiet_below (by kernel_rfl) (by kernel_rfl) ?_
      repeat (first | go_big_quiet_step (fail) | quiet_step (fail))
      refine wpQuiet_nil ?_
      intro _ hw'
      obtain ⟨⟨dq, osq⟩, hw''⟩ := hw'
      subst hw''
      have hbQ := below_regrown wr dq osq
      have hb1 := below_all hb hbQ
      have hown1 := own_below hown hbQ
      clear yg gg0 hbQ hb hown
      generalize grow (redrawn wr dq) osq = V1 at *
      go_upto_region 9 with (fail)
      obtain ⟨b', off', hao', y0, y1, y2, y3, y4, y5⟩ := hF.fieldAt (below_all HW.out hb1) HY.out
      cases hao'
      have oG := OG.out.all hb1
      have g0 := oG.cell (i := 0) rfl
      have yg := cell_regrown y0
      have gg0 := cell_regrown g0
      clear y0 y1 y2 y3 y4 y5
      clear g0 oG
      by_cases he : y.x = g.x
      · have hyg : (y.x == g.x) = true := by simpa using he
        have HS2 := Lib.hid (pfF_step HS.out HY.out H1.out (if_pos he) H3.out)
        clear he
        refine wp_region_quiet_below (by kernel_rfl) (by kernel_rfl) ?_
        repeat (first | go_big_quiet_step (fail) | quiet_step (fail))
        refine wpQuiet_nil ?_
        intro _ hw'
        obtain ⟨⟨dq, osq⟩, hw''⟩ := hw'
        subst hw''
        have hbQ := below_regrown V1 dq osq
        have hb2 := below_all hb1 hbQ
        have hown2 := own_below hown1 hbQ
        clear yg gg0 hbQ
        generalize grow (redrawn V1 dq) osq = V2 at *
        go_wp2
        go_roundg (cs.length - (q + 1))
        case measure => have := HG.out; omega
        case rel => exact ⟨q + 1, acc, true, by omega, rfl, by go_num, rfl, hb2, hown2, by omega, Lib.hid (by have := HS2.out; simpa using this)⟩
      · have hyg : (y.x == g.x) = false := by simpa using he
        have HS2 := Lib.hid (pfF_step HS.out HY.out H1.out (if_neg he) H3.out)
        clear he
        refine wp_region_quiet_below (by kernel_rfl) (by kernel_rfl) ?_
        repeat (first | go_big_quiet_step (fail) | quiet_step (fail))
        refine wpQuiet_nil ?_
        intro _ hw'
        obtain ⟨⟨dq, osq⟩, hw''⟩ := hw'
        subst hw''
        have hbQ := below_regrown V1 dq osq
        have hb := below_all hb1 hbQ
        have hown := own_below hown1 hbQ
        clear yg gg0 hbQ
        generalize grow (redrawn V1 dq) osq = V2 at *
        obtain ⟨b', off', hao', y0, y1, y2, y3, y4, y5⟩ := hF.fieldAt (below_all HW.out hb) HY.out
        cases hao'
        have hal : (acc).length ≤ 2 * q + 1 := by omega
        have hVW := hb.size
        go_wp2_with (first | (at_builtin; refine wpList_append_own _ rfl (.tmp 38) (.tmp 43) 23 rfl W.heap.size 58 i35 (.agg #[.string ⟨#[]⟩, .int .i64 0, .int .i64 0, .string ⟨#[]⟩, .slice none 0 0, .slice none 0 0]) 6 96 Tryz.underlying23 hi35 hzi35 hsi35 hyi35 rfl (by decide) _ _ _ rfl (hown.alloc _) ⟨V2.heap.size, 0, none⟩ 1 1 (FC.cells y) rfl rfl (cell_six_new _ y _) (six_one y) (by unfold maxLen; omega) (by omega) (by simp; omega) ?_; intro v' w5 hown5 hgrow5 hnil5) | fail)
        have hb5 := below_grown (hb.trans ((below_alloc V2 _).mono (by omega))) hgrow5 (by rw [size_alloc]; omega) (own_row hown)
        go_roundg (cs.length - (q + 1))
        case measure => have := HG.out; omega
        case rel => exact ⟨q + 1, acc ++ [y], true, by omega, rfl, by go_num, rfl, hb5, by rw [flatMap_snoc, List.length_append]; exact hown5, by rw [List.length_append]; simp at hal ⊢; omega, Lib.hid (by have := HS2.out; simpa using this)⟩
end Go.Proofs.YtjpmnlefjmdelaaGreatDoor
