/- The contract of the reference's put. The walk of the reference's put. The contract of the reference's Map. The contract of the reference's others. -/
import Derived.Test.YtinenbgdkchghaaCeJ
import Derived.Test.YtinenbgdkchghaaCd
set_option linter.unusedSimpArgs false
set_option linter.unusedVariables false
namespace Go.Proofs.Ytinenbgdkchghaa
open Go.RowKit Go.Sort Go.Proofs.LawFrame

/-- put, over cells -/
def pfF (g : FC) : Bool → List FC → List FC
  | d, [] => if d then [] else [g]
  | d, y :: r => (if !d && !decide (cmpS y.x g.x = -1) then [g] else []) ++ ((if y.x = g.x then [] else [y]) ++ pfF g (d || !decide (cmpS y.x g.x = -1)) r)
theorem pfF_map (h : FC → Str × T) (hx : ∀ c, (h c).1 = c.x) (g : FC) : ∀ (l : List FC) (d : Bool), (pfF g d l).map h = pf g.x (h g).2 d (l.map h) := by
  intro l
  induction l with
  | nil => intro d; cases d <;> simp [pfF, pf]; exact Prod.ext (hx g) rfl
  | cons y r ih =>
    intro d
    have hy : h y = (y.x, (h y).2) := Prod.ext (hx y) rfl
    rw [pfF, List.map_cons, hy, pf, List.map_append, List.map_append, ih]
    congr 1
    · split <;> simp; exact Prod.ext (hx g) rfl
    · congr 1
      split <;> simp; exact hy
theorem pfF_len (g : FC) : ∀ (l : List FC) (d : Bool), (pfF g d l).length ≤ l.length + 1 := by
  intro l
  have key : ∀ (l : List FC) (d : Bool), (pfF g d l).length + (if d then 1 else 0) ≤ l.length + 1 := by
    intro l
    induction l with
    | nil => intro d; cases d <;> simp [pfF]
    | cons y r ih =>
      intro d
      rw [pfF, List.length_append, List.length_append]
      have h := ih (d || !decide (cmpS y.x g.x = -1))
      generalize decide (cmpS y.x g.x = -1) = B at *
      cases d <;> cases B <;> by_cases e2 : y.x = g.x <;> simp [e2] at h ⊢ <;> omega
  intro d
  have := key l d
  omega
theorem pfF_mem {g : FC} : ∀ {l : List FC} {d : Bool} {c : FC}, c ∈ pfF g d l → c = g ∨ c ∈ l := by
  intro l
  induction l with
  | nil => intro d c h; cases d <;> simp [pfF] at h; exact Or.inl h
  | cons y r ih =>
    intro d c h
    rw [pfF, List.mem_append, List.mem_append] at h
    rcases h with h | h | h
    · split at h
      · exact Or.inl (by simpa using h)
      · cases h
    · split at h
      · cases h
      · exact Or.inr (by simp at h; simp [h])
    · rcases ih h with h | h
      · exact Or.inl h
      · exact Or.inr (List.mem_cons_of_mem _ h)
theorem Flat.fieldAt {w wr : World} {ao : Option Addr} {n cap : Nat} {cs : List FC} (h : Flat w (.slice ao n cap) cs.length (cs.flatMap FC.cells)) (hb : Below w.heap.size w wr) {q : Nat} {y : FC} (hq : cs[q]? = some y) :
    ∃ (b off : Nat), ao = some ⟨b, off, none⟩ ∧ wr.cell? ⟨b, off + q * 6, none⟩ = some (sV y.x) ∧ wr.cell? ⟨b, off + q * 6 + 1, none⟩ = some (.int .i64 y.v.k) ∧ wr.cell? ⟨b, off + q * 6 + 2, none⟩ = some (.int .i64 y.v.n) ∧ wr.cell? ⟨b, off + q * 6 + 3, none⟩ = some (sV y.v.s) ∧ wr.cell? ⟨b, off + q * 6 + 4, none⟩ = some (.slice y.v.la y.v.ln y.v.lc) ∧ wr.cell? ⟨b, off + q * 6 + 5, none⟩ = some (.slice y.v.fa y.v.fn y.v.fc) := by
  obtain ⟨ao', cap', h1, h2, h3, h4⟩ := h.out
  cases h1
  have hl := (List.getElem?_eq_some_iff.1 hq).1
  obtain ⟨b, off, rfl, h6, h7⟩ := h4 (by omega)
  have hc : ∀ j z, (FC.cells y)[j]? = some z → wr.cell? ⟨b, off + q * 6 + j, none⟩ = some z := fun j z hz => by
    have hj : j < 6 := (List.getElem?_eq_some_iff.1 hz).1
    rw [hb.cell (p := ⟨b, off + q * 6 + j, none⟩) h6, Nat.add_assoc]
    exact h7 (q * 6 + j) z (by rw [flat_get FC.cells (m := 6) (fun _ => rfl) cs q j y hq hj]; exact hz)
  exact ⟨b, off, rfl, hc 0 _ rfl, hc 1 _ rfl, hc 2 _ rfl, hc 3 _ rfl, hc 4 _ rfl, hc 5 _ rfl⟩
theorem drop_cons2 {α : Type} {l : List α} {i : Nat} {t : α} (h : l[i]? = some t) : l.drop i = t :: l.drop (i + 1) := by
  obtain ⟨hi, rfl⟩ := List.getElem?_eq_some_iff.1 h
  exact List.drop_eq_getElem_cons hi
/-- one step of put -/
theorem pfF_step {g y : FC} {cs acc : List FC} {q : Nat} {d d' : Bool} {ins own : List FC} (hS : acc ++ pfF g d (cs.drop q) = pfF g false cs) (hy : cs[q]? = some y)
    (h1 : (if !d && !decide (cmpS y.x g.x = -1) then [g] else []) = ins) (h2 : (if y.x = g.x then [] else [y]) = own) (h3 : (d || !decide (cmpS y.x g.x = -1)) = d') : (acc ++ ins) ++ own ++ pfF g d' (cs.drop (q + 1)) = pfF g false cs := by
  rw [← hS, drop_cons2 hy, pfF, h1, h2, h3]; simp
end Go.Proofs.Ytinenbgdkchghaa
namespace Go.Proofs.Ytinenbgdkchghaa
open Go.RowKit Go.Sort Go.Proofs.LawFrame

theorem le_false {a b : Str} (h : cmpS b a = -1) : (Op.bytesLess a b || a == b) = false := by
  have h1 : Op.bytesLess a b = false := less_not.2 (by rw [cmpS_anti b a, h]; decide)
  have h2 : (a == b) = false := by simpa using fun e : a = b => cmpS_ne h e.symm
  rw [h1, h2]; rfl
theorem le_true {a b : Str} (h : ¬ cmpS b a = -1) : (Op.bytesLess a b || a == b) = true := by
  rcases cmpS_tri b a with h1 | h1 | h1
  · exact absurd h1 h
  · have := cmpS_zero h1; subst this; simp
  · have : Op.bytesLess a b = true := less_iff.2 (by rw [cmpS_anti b a, h1])
    rw [this]; rfl

set_option maxHeartbeats 8000000 in
set_option maxRecDepth 20000 in
set_option maxRecDepth 4000 in
theorem rput_any (v : Value) (cs : List FC) (g : FC) (w : World) (hF : Flat w v cs.length (cs.flatMap FC.cells)) (hn : cs.length ≤ 4000) (L' : List FC) (hL' : pfF g false cs = L') :
    Calls Try.prog 49 #[v, .agg #[sV g.x, .int .i64 g.v.k, .int .i64 g.v.n, sV g.v.s, .slice g.v.la g.v.ln g.v.lc, .slice g.v.fa g.v.fn g.v.fc]] w fun e w' => ∃ kv, e = .returned kv ∧ Below w.heap.size w w' ∧ w'.ownsRow w.heap.size 33 6 kv L'.length (L'.flatMap FC.cells) := by
  obtain ⟨ao, cap, rfl, hlc, hcap, -⟩ := hF.out
  unfold maxLen at hcap
  obtain ⟨i35, hi35, hzi35, hsi35, hyi35⟩ := info_parts info35
  have HW := Lib.hid (below_alloc w (.cells #[sV g.x, .int .i64 g.v.k, .int .i64 g.v.n, sV g.v.s, .slice g.v.la g.v.ln g.v.lc, .slice g.v.fa g.v.fn g.v.fc] 33))
  have OG := Lib.hid (Own.new w (FC.cells g) 33)
  have hs0 : (w.alloc (.cells #[sV g.x, .int .i64 g.v.k, .int .i64 g.v.n, sV g.v.s, .slice g.v.la g.v.ln g.v.lc, .slice g.v.fa g.v.fn g.v.fc] 33)).heap.size = w.heap.size + 1 := size_alloc _ _
  go_enter Try.func49, Try.ntmps49
  go_wp2
  generalize w.alloc (.cells #[sV g.x, .int .i64 g.v.k, .int .i64 g.v.n, sV g.v.s, .slice g.v.la g.v.ln g.v.lc, .slice g.v.fa g.v.fn g.v.fc] 33) = W at *
  go_loopg [5, 6, 7] cs.length (fun gk kv dv i wr => ∃ (q : Nat) (acc : List FC) (d : Bool), q ≤ cs.length ∧ gk = cs.length - q ∧ i = .int .i64 q ∧ dv = .bool d ∧ Below W.heap.size W wr ∧ wr.ownsRow W.heap.size 33 6 kv acc.length (acc.flatMap FC.cells) ∧ acc.length ≤ 2 * q ∧ Hid (acc ++ pfF g d (cs.drop q) = pfF g false cs))
  case atStart => exact ⟨0, [], false, Nat.zero_le _, rfl, rfl, rfl, Below.refl _ _, own_nil _ _ _ _, Nat.le_refl _, Lib.hid rfl⟩
  case round =>
    obtain ⟨q, acc, d, hq, hg, rfl, rfl, hb, hown, hacc, HS⟩ := hrel
    have HG := Lib.hid hg
    clear hg
    by_cases hlt : q < cs.length
    case neg =>
      obtain rfl : q = cs.length := by omega
      have hbw := below_all HW.out hb
      have hVW := hb.size
      cases d
      · have HL : Hid (acc ++ [g] = L') := Lib.hid (by have h := HS.out; rw [List.drop_length, hL'] at h; exact h)
        have oG := OG.out.all hb
        have g0 := oG.cell (i := 0) rfl
        have g1 := oG.cell (i := 1) rfl
        have g2 := oG.cell (i := 2) rfl
        have g3 := oG.cell (i := 3) rfl
        have g4 := oG.cell (i := 4) rfl
        have g5 := oG.cell (i := 5) rfl
        clear oG
        go_wp2_with (first | (at_builtin; refine wpList_append_own _ rfl (.tmp 47) (.tmp 49) 23 rfl W.heap.size 33 i35 (.agg #[.string ⟨#[]⟩, .int .i64 0, .int .i64 0, .string ⟨#[]⟩, .slice none 0 0, .slice none 0 0]) 6 96 Try.underlying23 hi35 hzi35 hsi35 hyi35 rfl (by decide) _ _ _ rfl (hown.alloc _) ⟨wr.heap.size, 0, none⟩ 1 1 (FC.cells g) rfl rfl (cell_six_new _ g _) (six_one g) (by unfold maxLen; omega) (by omega) (by simp; omega) ?_; intro v' w5 hown5 hgrow5 hnil5) | fail)
        have hb5 := below_grown (hb.trans ((below_alloc wr _).mono (by omega))) hgrow5 (by rw [size_alloc]; omega) (own_row hown)
        go_ret
        refine ⟨_, rfl, below_all HW.out hb5, ?_⟩
        rw [← HL.out, flatMap_snoc, List.length_append]
        exact row_weak hown5 (by omega)
      · have HL : Hid (acc = L') := Lib.hid (by have h := HS.out; rw [List.drop_length, hL'] at h; simpa [pfF] using h)
        have HQ := Lib.hid (And.intro hbw hown)
        clear hbw hown hb
        go_wp2
        go_ret
        exact ⟨_, rfl, HQ.out.1, by rw [← HL.out]; exact row_weak HQ.out.2 (by omega)⟩
    have hy := List.getElem?_eq_getElem hlt
    generalize cs[q] = y at hy
    have HY := Lib.hid hy
    clear hy hL'
    cases d
    · by_cases hc : cmpS y.x g.x = -1
      · have HLE : Hid ((Op.bytesLess g.x y.x || g.x == y.x) = false) := Lib.hid (le_false hc)
        have H1 : Hid ((if !false && !decide (cmpS y.x g.x = -1) then [g] else []) = ([] : List FC)) := Lib.hid (by rw [decide_eq_true hc]; rfl)
        have H3 : Hid ((false || !decide (cmpS y.x g.x = -1)) = false) := Lib.hid (by rw [decide_eq_true hc]; rfl)
        clear hc
        obtain ⟨b, off, hao, y0, y1, y2, y3, y4, y5⟩ := hF.fieldAt (below_all HW.out hb) HY.out
        subst hao
        have oG := OG.out.all hb
        have g0 := oG.cell (i := 0) rfl
        go_upto_region 6 with (fail)
        have yg := cell_regrown y0
        have gg0 := cell_regrown g0
        clear y0 y1 y2 y3 y4 y5
        clear g0 oG
        refine wp_region_quiet_below (by kernel_rfl) (by kernel_rfl) ?_
        repeat (first | go_big_quiet_step (fail) | quiet_step (fail))
        refine wpQuiet_nil ?_
        intro _ hw'
        obtain ⟨⟨dq, osq⟩, hw''⟩ := hw'
        subst hw''
        have hbQ := below_regrown wr dq osq
        have hb1 := below_all hb hbQ
        have hown1 := own_below hown hbQ
        clear yg gg0 hbQ hb hown
        generalize grow (redrawn wr dq) osq = V1 at *
        rw [HLE.out]
        go_upto_region 9 with (fail)
        obtain ⟨b', off', hao', y0, y1, y2, y3, y4, y5⟩ := hF.fieldAt (below_all HW.out hb1) HY.out
        cases hao'
        have oG := OG.out.all hb1
        have g0 := oG.cell (i := 0) rfl
        have yg := cell_regrown y0
        have gg0 := cell_regrown g0
        clear y0 y1 y2 y3 y4 y5
        clear g0 oG
        by_cases he : y.x = g.x
        · have hyg : (y.x == g.x) = true := by simpa using he
          have HS2 := Lib.hid (pfF_step HS.out HY.out H1.out (if_pos he) H3.out)
          clear he
          refine wp_region_quiet_below (by kernel_rfl) (by kernel_rfl) ?_
          repeat (first | go_big_quiet_step (fail) | quiet_step (fail))
          refine wpQuiet_nil ?_
          intro _ hw'
          obtain ⟨⟨dq, osq⟩, hw''⟩ := hw'
          subst hw''
          have hbQ := below_regrown V1 dq osq
          have hb2 := below_all hb1 hbQ
          have hown2 := own_below hown1 hbQ
          clear yg gg0 hbQ
          generalize grow (redrawn V1 dq) osq = V2 at *
          go_wp2
          go_roundg (cs.length - (q + 1))
          case measure => have := HG.out; omega
          case rel => exact ⟨q + 1, acc, false, by omega, rfl, by go_num, rfl, hb2, hown2, by omega, Lib.hid (by have := HS2.out; simpa using this)⟩
        · have hyg : (y.x == g.x) = false := by simpa using he
          have HS2 := Lib.hid (pfF_step HS.out HY.out H1.out (if_neg he) H3.out)
          clear he
          refine wp_region_quiet_below (by kernel_rfl) (by kernel_rfl) ?_
          repeat (first | go_big_quiet_step (fail) | quiet_step (fail))
          refine wpQuiet_nil ?_
          intro _ hw'
          obtain ⟨⟨dq, osq⟩, hw''⟩ := hw'
          subst hw''
          have hbQ := below_regrown V1 dq osq
          have hb := below_all hb1 hbQ
          have hown := own_below hown1 hbQ
          clear yg gg0 hbQ
          generalize grow (redrawn V1 dq) osq = V2 at *
          obtain ⟨b', off', hao', y0, y1, y2, y3, y4, y5⟩ := hF.fieldAt (below_all HW.out hb) HY.out
          cases hao'
          have hal : (acc).length ≤ 2 * q + 1 := by omega
          have hVW := hb.size
          go_wp2_with (first | (at_builtin; refine wpList_append_own _ rfl (.tmp 38) (.tmp 43) 23 rfl W.heap.size 33 i35 (.agg #[.string ⟨#[]⟩, .int .i64 0, .int .i64 0, .string ⟨#[]⟩, .slice none 0 0, .slice none 0 0]) 6 96 Try.underlying23 hi35 hzi35 hsi35 hyi35 rfl (by decide) _ _ _ rfl (hown.alloc _) ⟨V2.heap.size, 0, none⟩ 1 1 (FC.cells y) rfl rfl (cell_six_new _ y _) (six_one y) (by unfold maxLen; omega) (by omega) (by simp; omega) ?_; intro v' w5 hown5 hgrow5 hnil5) | fail)
          have hb5 := below_grown (hb.trans ((below_alloc V2 _).mono (by omega))) hgrow5 (by rw [size_alloc]; omega) (own_row hown)
          go_roundg (cs.length - (q + 1))
          case measure => have := HG.out; omega
          case rel => exact ⟨q + 1, acc ++ [y], false, by omega, rfl, by go_num, rfl, hb5, by rw [flatMap_snoc, List.length_append]; exact hown5, by rw [List.length_append]; simp at hal ⊢; omega, Lib.hid (by have := HS2.out; simpa using this)⟩
      · have HLE : Hid ((Op.bytesLess g.x y.x || g.x == y.x) = true) := Lib.hid (le_true hc)
        have H1 : Hid ((if !false && !decide (cmpS y.x g.x = -1) then [g] else []) = [g]) := Lib.hid (by rw [decide_eq_false hc]; rfl)
        have H3 : Hid ((false || !decide (cmpS y.x g.x = -1)) = true) := Lib.hid (by rw [decide_eq_false hc]; rfl)
        clear hc
        obtain ⟨b, off, hao, y0, y1, y2, y3, y4, y5⟩ := hF.fieldAt (below_all HW.out hb) HY.out
        subst hao
        have oG := OG.out.all hb
        have g0 := oG.cell (i := 0) rfl
        go_upto_region 6 with (fail)
        have yg := cell_regrown y0
        have gg0 := cell_regrown g0
        clear y0 y1 y2 y3 y4 y5
        clear g0 oG
        refine wp_region_quiet_below (by kernel_rfl) (by kernel_rfl) ?_
        repeat (first | go_big_quiet_step (fail) | quiet_step (fail))
        refine wpQuiet_nil ?_
        intro _ hw'
        obtain ⟨⟨dq, osq⟩, hw''⟩ := hw'
        subst hw''
        have hbQ := below_regrown wr dq osq
        have hb1 := below_all hb hbQ
        have hown1 := own_below hown hbQ
        clear yg gg0 hbQ hb hown
        generalize grow (redrawn wr dq) osq = V1 at *
        rw [HLE.out]
        have hb := hb1
        have hown := hown1
        have hVW := hb.size
        have oG := OG.out.all hb
        have g0 := oG.cell (i := 0) rfl
        have g1 := oG.cell (i := 1) rfl
        have g2 := oG.cell (i := 2) rfl
        have g3 := oG.cell (i := 3) rfl
        have g4 := oG.cell (i := 4) rfl
        have g5 := oG.cell (i := 5) rfl
        clear oG hb1 hown1
        go_upto_region 9 with (first | (at_builtin; refine wpList_append_own _ rfl (.tmp 26) (.tmp 28) 23 rfl W.heap.size 33 i35 (.agg #[.string ⟨#[]⟩, .int .i64 0, .int .i64 0, .string ⟨#[]⟩, .slice none 0 0, .slice none 0 0]) 6 96 Try.underlying23 hi35 hzi35 hsi35 hyi35 rfl (by decide) _ _ _ rfl (hown.alloc _) ⟨V1.heap.size, 0, none⟩ 1 1 (FC.cells g) rfl rfl (cell_six_new _ g _) (six_one g) (by unfold maxLen; omega) (by omega) (by simp; omega) ?_; intro v' w5 hown5 hgrow5 hnil5) | fail)
        have hb5 := below_grown (hb.trans ((below_alloc V1 _).mono (by omega))) hgrow5 (by rw [size_alloc]; omega) (own_row hown)
        have hown6 : w5.ownsRow W.heap.size 33 6 v' (acc ++ [g]).length ((acc ++ [g]).flatMap FC.cells) := by rw [flatMap_snoc, List.length_append]; exact hown5
        clear g0 g1 g2 g3 g4 g5
        clear hb hown hown5 hgrow5 hnil5
        obtain ⟨b', off', hao', y0, y1, y2, y3, y4, y5⟩ := hF.fieldAt (below_all HW.out hb5) HY.out
        cases hao'
        have oG := OG.out.all hb5
        have g0 := oG.cell (i := 0) rfl
        have yg := cell_regrown y0
        have gg0 := cell_regrown g0
        clear y0 y1 y2 y3 y4 y5
        clear g0 oG
        by_cases he : y.x = g.x
        · have hyg : (y.x == g.x) = true := by simpa using he
          have HS2 := Lib.hid (pfF_step HS.out HY.out H1.out (if_pos he) H3.out)
          clear he
          refine wp_region_quiet_below (by kernel_rfl) (by kernel_rfl) ?_
          repeat (first | go_big_quiet_step (fail) | quiet_step (fail))
          refine wpQuiet_nil ?_
          intro _ hw'
          obtain ⟨⟨dq, osq⟩, hw''⟩ := hw'
          subst hw''
          have hbQ := below_regrown w5 dq osq
          have hb2 := below_all hb5 hbQ
          have hown2 := own_below hown6 hbQ
          clear yg gg0 hbQ
          generalize grow (redrawn w5 dq) osq = V2 at *
          go_wp2
          go_roundg (cs.length - (q + 1))
          case measure => have := HG.out; omega
          case rel => exact ⟨q + 1, acc ++ [g], true, by omega, rfl, by go_num, rfl, hb2, hown2, by (simp; omega), Lib.hid (by have := HS2.out; simpa using this)⟩
        · have hyg : (y.x == g.x) = false := by simpa using he
          have HS2 := Lib.hid (pfF_step HS.out HY.out H1.out (if_neg he) H3.out)
          clear he
          refine wp_region_quiet_below (by kernel_rfl) (by kernel_rfl) ?_
          repeat (first | go_big_quiet_step (fail) | quiet_step (fail))
          refine wpQuiet_nil ?_
          intro _ hw'
          obtain ⟨⟨dq, osq⟩, hw''⟩ := hw'
          subst hw''
          have hbQ := below_regrown w5 dq osq
          have hb := below_all hb5 hbQ
          have hown := own_below hown6 hbQ
          clear yg gg0 hbQ
          generalize grow (redrawn w5 dq) osq = V2 at *
          obtain ⟨b', off', hao', y0, y1, y2, y3, y4, y5⟩ := hF.fieldAt (below_all HW.out hb) HY.out
          cases hao'
          have hal : (acc ++ [g]).length ≤ 2 * q + 1 := by (simp; omega)
          have hVW := hb.size
          go_wp2_with (first | (at_builtin; refine wpList_append_own _ rfl (.tmp 38) (.tmp 43) 23 rfl W.heap.size 33 i35 (.agg #[.string ⟨#[]⟩, .int .i64 0, .int .i64 0, .string ⟨#[]⟩, .slice none 0 0, .slice none 0 0]) 6 96 Try.underlying23 hi35 hzi35 hsi35 hyi35 rfl (by decide) _ _ _ rfl (hown.alloc _) ⟨V2.heap.size, 0, none⟩ 1 1 (FC.cells y) rfl rfl (cell_six_new _ y _) (six_one y) (by unfold maxLen; omega) (by omega) (by simp; omega) ?_; intro v' w5 hown5 hgrow5 hnil5) | fail)
          have hb5 := below_grown (hb.trans ((below_alloc V2 _).mono (by omega))) hgrow5 (by rw [size_alloc]; omega) (own_row hown)
          go_roundg (cs.length - (q + 1))
          case measure => have := HG.out; omega
          case rel => exact ⟨q + 1, acc ++ [g] ++ [y], true, by omega, rfl, by go_num, rfl, hb5, by rw [flatMap_snoc, List.length_append]; exact hown5, by rw [List.length_append]; simp at hal ⊢; omega, Lib.hid (by have := HS2.out; simpa using this)⟩
    · have H1 : Hid ((if !true && !decide (cmpS y.x g.x = -1) then [g] else []) = ([] : List FC)) := Lib.hid rfl
      have H3 : Hid ((true || !decide (cmpS y.x g.x = -1)) = true) := Lib.hid rfl
      obtain ⟨b, off, hao, y0, y1, y2, y3, y4, y5⟩ := hF.fieldAt (below_all HW.out hb) HY.out
      subst hao
      have oG := OG.out.all hb
      have g0 := oG.cell (i := 0) rfl
      go_upto_region 6 with (fail)
      have yg := cell_regrown y0
      have gg0 := cell_regrown g0
      clear y0 y1 y2 y3 y4 y5
      clear g0 oG
      refine wp_region_quiet_below (by kernel_rfl) (by kernel_rfl) ?_
      repeat (first | go_big_quiet_step (fail) | quiet_step (fail))
      refine wpQuiet_nil ?_
      intro _ hw'
      obtain ⟨⟨dq, osq⟩, hw''⟩ := hw'
      subst hw''
      have hbQ := below_regrown wr dq osq
      have hb1 := below_all hb hbQ
      have hown1 := own_below hown hbQ
      clear yg gg0 hbQ hb hown
      generalize grow (redrawn wr dq) osq = V1 at *
      go_upto_region 9 with (fail)
      obtain ⟨b', off', hao', y0, y1, y2, y3, y4, y5⟩ := hF.fieldAt (below_all HW.out hb1) HY.out
      cases hao'
      have oG := OG.out.all hb1
      have g0 := oG.cell (i := 0) rfl
      have yg := cell_regrown y0
      have gg0 := cell_regrown g0
      clear y0 y1 y2 y3 y4 y5
      clear g0 oG
      by_cases he : y.x = g.x
      · have hyg : (y.x == g.x) = true := by simpa using he
        have HS2 := Lib.hid (pfF_step HS.out HY.out H1.out (if_pos he) H3.out)
        clear he
        refine wp_region_quiet_below (by kernel_rfl) (by kernel_rfl) ?_
        repeat (first | go_big_quiet_step (fail) | quiet_step (fail))
        refine wpQuiet_nil ?_
        intro _ hw'
        obtain ⟨⟨dq, osq⟩, hw''⟩ := hw'
        subst hw''
        have hbQ := below_regrown V1 dq osq
        have hb2 := below_all hb1 hbQ
        have hown2 := own_below hown1 hbQ
        clear yg gg0 hbQ
        generalize grow (redrawn V1 dq) osq = V2 at *
        go_wp2
        go_roundg (cs.length - (q + 1))
        case measure => have := HG.out; omega
        case rel => exact ⟨q + 1, acc, true, by omega, rfl, by go_num, rfl, hb2, hown2, by omega, Lib.hid (by have := HS2.out; simpa using this)⟩
      · have hyg : (y.x == g.x) = false := by simpa using he
        have HS2 := Lib.hid (pfF_step HS.out HY.out H1.out (if_neg he) H3.out)
        clear he
        refine wp_region_quiet_below (by kernel_rfl) (by kernel_rfl) ?_
        repeat (first | go_big_quiet_step (fail) | quiet_step (fail))
        refine wpQuiet_nil ?_
        intro _ hw'
        obtain ⟨⟨dq, osq⟩, hw''⟩ := hw'
        subst hw''
        have hbQ := below_regrown V1 dq osq
        have hb := below_all hb1 hbQ
        have hown := own_below hown1 hbQ
        clear yg gg0 hbQ
        generalize grow (redrawn V1 dq) osq = V2 at *
        obtain ⟨b', off', hao', y0, y1, y2, y3, y4, y5⟩ := hF.fieldAt (below_all HW.out hb) HY.out
        cases hao'
        have hal : (acc).length ≤ 2 * q + 1 := by omega
        have hVW := hb.size
        go_wp2_with (first | (at_builtin; refine wpList_append_own _ rfl (.tmp 38) (.tmp 43) 23 rfl W.heap.size 33 i35 (.agg #[.string ⟨#[]⟩, .int .i64 0, .int .i64 0, .string ⟨#[]⟩, .slice none 0 0, .slice none 0 0]) 6 96 Try.underlying23 hi35 hzi35 hsi35 hyi35 rfl (by decide) _ _ _ rfl (hown.alloc _) ⟨V2.heap.size, 0, none⟩ 1 1 (FC.cells y) rfl rfl (cell_six_new _ y _) (six_one y) (by unfold maxLen; omega) (by omega) (by simp; omega) ?_; intro v' w5 hown5 hgrow5 hnil5) | fail)
        have hb5 := below_grown (hb.trans ((below_alloc V2 _).mono (by omega))) hgrow5 (by rw [size_alloc]; omega) (own_row hown)
        go_roundg (cs.length - (q + 1))
        case measure => have := HG.out; omega
        case rel => exact ⟨q + 1, acc ++ [y], true, by omega, rfl, by go_num, rfl, hb5, by rw [flatMap_snoc, List.length_append]; exact hown5, by rw [List.length_append]; simp at hal ⊢; omega, Lib.hid (by have := HS2.out; simpa using this)⟩
end Go.Proofs.Ytinenbgdkchghaa
namespace Go.Proofs.Ytinenbgdkchghaa
open Go.RowKit Go.Sort Go.Proofs.LawFrame

/-- these cells are those fields, their trees in blocks of A -/
structure PWA (w : World) (A : Nat → Prop) (cs : List FC) (l : List (Str × T)) : Prop where
  len : cs.length = l.length
  all : ∀ (i : Nat) (x : FC) (p : Str × T), cs[i]? = some x → l[i]? = some p → x.x = p.1 ∧ IsA w A x.v p.2
theorem PWA.keep {w w' : World} {A : Nat → Prop} {cs : List FC} {l : List (Str × T)} (h : PWA w A cs l) (hs : w.heap.size ≤ w'.heap.size) (hk : ∀ b, A b → b < w.heap.size → w'.heap[b]? = w.heap[b]?) : PWA w' A cs l :=
  ⟨h.len, fun i x p hx hp => ⟨(h.all i x p hx hp).1, (h.all i x p hx hp).2.keep hs (fun _ h => h) hk⟩⟩
/-- a step of the reference's Map -/
theorem PWA.put {w : World} {A : Nat → Prop} {cs : List FC} {M : List (Str × T)} {g : FC} {t : T} (h : PWA w A cs M) (hg : IsA w A g.v t) : PWA w A (pfF g false cs) (pf g.x t false M) := by
  have key : ∀ (cs : List FC) (M : List (Str × T)) (d : Bool), PWA w A cs M → PWA w A (pfF g d cs) (pf g.x t d M) := by
    intro cs
    have app : ∀ {a b : List FC} {x y : List (Str × T)}, PWA w A a x → PWA w A b y → PWA w A (a ++ b) (x ++ y) := fun {a b x y} h1 h2 => by
      refine ⟨by rw [List.length_append, List.length_append, h1.len, h2.len], fun i c p hc hp => ?_⟩
      rcases Nat.lt_or_ge i a.length with hlt | hge
      · rw [List.getElem?_append_left hlt] at hc
        rw [List.getElem?_append_left (by rw [← h1.len]; exact hlt)] at hp
        exact h1.all i c p hc hp
      · rw [List.getElem?_append_right hge] at hc
        rw [List.getElem?_append_right (by rw [← h1.len]; exact hge), ← h1.len] at hp
        exact h2.all _ c p hc hp
    have nil : PWA w A [] [] := ⟨rfl, fun i c p hc => by simp at hc⟩
    have one : ∀ {c : FC} {p : Str × T}, c.x = p.1 → IsA w A c.v p.2 → PWA w A [c] [p] := fun {c p} h1 h2 => ⟨rfl, fun i c' p' hc hp => by
      cases i with
      | zero => simp at hc hp; subst hc hp; exact ⟨h1, h2⟩
      | succ i => simp at hc⟩
    induction cs with
    | nil =>
      intro M d h
      have : M = [] := List.eq_nil_of_length_eq_zero h.len.symm
      subst this
      cases d
      · exact one rfl hg
      · exact nil
    | cons y r ih =>
      intro M d h
      cases M with
      | nil => have := h.len; simp at this
      | cons p s =>
        obtain ⟨px, pt⟩ := p
        obtain ⟨h1, h2⟩ := h.all 0 y (px, pt) rfl rfl
        simp only at h1 h2
        subst h1
        have hr : PWA w A r s := ⟨by have := h.len; simpa using this, fun i c p hc hp => h.all (i + 1) c p (by simpa using hc) (by simpa using hp)⟩
        rw [pfF, pf]
        refine app ?_ (app ?_ (ih s _ hr))
        · split
          · exact one rfl hg
          · exact nil
        · split
          · exact nil
          · exact one rfl h2
  exact key cs M false h

set_option maxHeartbeats 16000000 in
set_option maxRecDepth 20000 in
set_option maxRecDepth 4000 in
theorem rmap_any (v : Value) (l : List (Str × T)) (w : World) (hv : Flds w v l) (hn : l.length ≤ 3900) (hs : ∀ p ∈ l, p.2.size ≤ 4000) :
    Calls Try.prog 41 #[v] w fun e w' => ∃ (c' : VC) (M : List (Str × T)), e = .returned c'.val ∧ Below w.heap.size w w' ∧ IsA w' (fun b => w.heap.size ≤ b) c' (.mk 5 0 [] [] M) ∧ MapOf l M := by
  obtain ⟨ao, cap, rfl, hlc, hcap⟩ := hv.form
  unfold maxLen at hcap
  have hw0 : Below w.heap.size w ((w.alloc (.cells #[.int .i64 0, .int .i64 0, .string ⟨#[]⟩, .slice none 0 0, .slice none 0 0] 25)).alloc (.cells #[.int .i64 5, .int .i64 0, .string ⟨#[]⟩, .slice none 0 0, .slice none 0 0] 25)) := ((Below.refl _ _).alloc (Nat.le_refl _) _).alloc (by simp) _
  have oR : Own ((w.alloc (.cells #[.int .i64 0, .int .i64 0, .string ⟨#[]⟩, .slice none 0 0, .slice none 0 0] 25)).alloc (.cells #[.int .i64 5, .int .i64 0, .string ⟨#[]⟩, .slice none 0 0, .slice none 0 0] 25)) w.heap.size [.int .i64 0, .int .i64 0, .string ⟨#[]⟩, .slice none 0 0, .slice none 0 0] 25 := (Own.new _ _ _).alloc _
  have oO : Own ((w.alloc (.cells #[.int .i64 0, .int .i64 0, .string ⟨#[]⟩, .slice none 0 0, .slice none 0 0] 25)).alloc (.cells #[.int .i64 5, .int .i64 0, .string ⟨#[]⟩, .slice none 0 0, .slice none 0 0] 25)) (w.heap.size + 1) [.int .i64 5, .int .i64 0, .string ⟨#[]⟩, .slice none 0 0, .slice none 0 0] 25 := Own.new_at (by rw [size_alloc]) _ _
  have hs0 : ((w.alloc (.cells #[.int .i64 0, .int .i64 0, .string ⟨#[]⟩, .slice none 0 0, .slice none 0 0] 25)).alloc (.cells #[.int .i64 5, .int .i64 0, .string ⟨#[]⟩, .slice none 0 0, .slice none 0 0] 25)).heap.size = w.heap.size + 2 := by rw [size_alloc, size_alloc]
  go_enter Try.func41, Try.ntmps41
  go_wp2
  generalize ((w.alloc (.cells #[.int .i64 0, .int .i64 0, .string ⟨#[]⟩, .slice none 0 0, .slice none 0 0] 25)).alloc (.cells #[.int .i64 5, .int .i64 0, .string ⟨#[]⟩, .slice none 0 0, .slice none 0 0] 25)) = W at *
  have HW := Lib.hid hw0
  have R0 := Lib.hid (And.intro oR oO)
  clear hw0 oR oO
  go_loopg [4] l.length (fun g i wr => ∃ (q : Nat) (ka : Option Addr) (kn kc : Nat) (cs : List FC) (M : List (Str × T)), q ≤ l.length ∧ g = l.length - q ∧ i = .int .i64 q ∧ But (w.heap.size + 1) W wr ∧ Own wr (w.heap.size + 1) [.int .i64 5, .int .i64 0, .string ⟨#[]⟩, .slice none 0 0, .slice ka kn kc] 25 ∧ FlatA wr (fun b => W.heap.size ≤ b) (.slice ka kn kc) cs.length (cs.flatMap FC.cells) ∧ cs.length ≤ q ∧ Hid (PWA wr (fun b => W.heap.size ≤ b) cs M ∧ MapOf (l.take q) M))
  case atStart => exact ⟨0, none, 0, 0, [], [], Nat.zero_le _, rfl, rfl, But.refl _ _, R0.out.2, FlatA.nil _ _ _, Nat.le_refl _, Lib.hid ⟨⟨rfl, fun i x p h => by simp at h⟩, mapOf_nil⟩⟩
  case round =>
    obtain ⟨q, ka, kn, kc, cs, M, hq, hg, rfl, hbt, oO, hFA, hcl, HP⟩ := hrel
    have HG := Lib.hid hg
    clear hg
    have oR := Own.but R0.out.1 hbt (by omega)
    have hszr := hbt.size
    have hbw : Below w.heap.size w wr := hbt.below HW.out (by omega) HW.out.size
    by_cases hlt : q < l.length
    case neg =>
      obtain rfl : q = l.length := by omega
      obtain ⟨hP, hM⟩ := HP.out
      rw [List.take_length] at hM
      have hlen := hP.len
      have hfin : IsA (((((wr.setCell ⟨w.heap.size, 0, none⟩ (.int .i64 5)).setCell ⟨w.heap.size, 1, none⟩ (.int .i64 0)).setCell ⟨w.heap.size, 2, none⟩ (.string ⟨#[]⟩)).setCell ⟨w.heap.size, 3, none⟩ (.slice none 0 0)).setCell ⟨w.heap.size, 4, none⟩ (.slice ka kn kc)) (fun b => w.heap.size + 2 ≤ b) ⟨5, 0, [], none, 0, 0, ka, kn, kc⟩ (.mk 5 0 [] [] M) :=
        .mk (c := ⟨5, 0, [], none, 0, 0, ka, kn, kc⟩) [] cs rfl (FlatA.nil _ _ _) (fun i x t h => by simp at h) hlen (((((((hlen ▸ hFA).up (fun b hb => by omega)).set (b := w.heap.size) (by omega) 0 (.int .i64 5)).set (b := w.heap.size) (by omega) 1 (.int .i64 0)).set (b := w.heap.size) (by omega) 2 (.string ⟨#[]⟩)).set (b := w.heap.size) (by omega) 3 (.slice none 0 0)).set (b := w.heap.size) (by omega) 4 (.slice ka kn kc)) (fun i x p hx hp => (hP.all i x p hx hp).1) (fun i x p hx hp => (((((((hP.all i x p hx hp).2.mono (fun b hb => by omega)).set (b := w.heap.size) (by omega) 0 (.int .i64 5)).set (b := w.heap.size) (by omega) 1 (.int .i64 0)).set (b := w.heap.size) (by omega) 2 (.string ⟨#[]⟩)).set (b := w.heap.size) (by omega) 3 (.slice none 0 0)).set (b := w.heap.size) (by omega) 4 (.slice ka kn kc)))
      have b0 := oO.cell (i := 0) rfl
      have b1 := oO.cell (i := 1) rfl
      have b2 := oO.cell (i := 2) rfl
      have b3 := oO.cell (i := 3) rfl
      have b4 := oO.cell (i := 4) rfl
      have r0 := oR.cell (i := 0) rfl
      have r1 := oR.cell (i := 1) rfl
      have r2 := oR.cell (i := 2) rfl
      have r3 := oR.cell (i := 3) rfl
      have r4 := oR.cell (i := 4) rfl
      have g0 := oR.frozen 0
      have g1 := oR.frozen 1
      have g2 := oR.frozen 2
      have g3 := oR.frozen 3
      have g4 := oR.frozen 4
      have HS := Lib.hid (And.intro (((((oR.set 0 (.int .i64 5)).set 1 (.int .i64 0)).set 2 (.string ⟨#[]⟩)).set 3 (.slice none 0 0)).set 4 (.slice ka kn kc)) (And.intro (below_set (below_set (below_set (below_set (below_set hbw (Nat.le_refl w.heap.size) (i := 0) (.int .i64 5)) (Nat.le_refl w.heap.size) (i := 1) (.int .i64 0)) (Nat.le_refl w.heap.size) (i := 2) (.string ⟨#[]⟩)) (Nat.le_refl w.heap.size) (i := 3) (.slice none 0 0)) (Nat.le_refl w.heap.size) (i := 4) (.slice ka kn kc)) (And.intro (hfin.mono (A' := fun b => w.heap.size ≤ b) (fun b hb => by omega)) hM)))
      clear hfin oO oR hbw hbt hFA hP hM HP hlen
      go_wp2
      clear b0 b1 b2 b3 b4 r0 r1 r2 r3 r4 g0 g1 g2 g3 g4
      change bodyPost Try.prog Try.f41 _ _ _ (((((wr.setCell ⟨w.heap.size, 0, none⟩ (.int .i64 5)).setCell ⟨w.heap.size, 1, none⟩ (.int .i64 0)).setCell ⟨w.heap.size, 2, none⟩ (.string ⟨#[]⟩)).setCell ⟨w.heap.size, 3, none⟩ (.slice none 0 0)).setCell ⟨w.heap.size, 4, none⟩ (.slice ka kn kc))
      generalize (((((wr.setCell ⟨w.heap.size, 0, none⟩ (.int .i64 5)).setCell ⟨w.heap.size, 1, none⟩ (.int .i64 0)).setCell ⟨w.heap.size, 2, none⟩ (.string ⟨#[]⟩)).setCell ⟨w.heap.size, 3, none⟩ (.slice none 0 0)).setCell ⟨w.heap.size, 4, none⟩ (.slice ka kn kc)) = U at *
      obtain ⟨oS, hbS, hIS, hM⟩ := HS.out
      have c0 : U.cell? ⟨w.heap.size, 0, none⟩ = some (.int .i64 5) := oS.cell rfl
      have c1 : U.cell? ⟨w.heap.size, 1, none⟩ = some (.int .i64 0) := oS.cell rfl
      have c2 : U.cell? ⟨w.heap.size, 2, none⟩ = some (.string ⟨#[]⟩) := oS.cell rfl
      have c3 : U.cell? ⟨w.heap.size, 3, none⟩ = some (.slice none 0 0) := oS.cell rfl
      have c4 : U.cell? ⟨w.heap.size, 4, none⟩ = some (.slice ka kn kc) := oS.cell rfl
      exact bodyPost_ret (v := .agg #[.int .i64 5, .int .i64 0, .string ⟨#[]⟩, .slice none 0 0, .slice ka kn kc]) (by simp [results, Try.results41, go_sem, c0, c1, c2, c3, c4]) rfl ⟨⟨5, 0, [], none, 0, 0, ka, kn, kc⟩, M, rfl, hbS, hIS, hM⟩
    have hx := List.getElem?_eq_getElem hlt
    generalize l[q] = x at hx
    obtain ⟨b, off, c, hao, hbl, hIx, q5, q0, q1, q2, q3, q4⟩ := hv.at hbw hx
    subst hao
    have kk := oO.cell (i := 4) rfl
    have HX := Lib.hid hx
    have hxs := hs x (List.mem_of_getElem? hx)
    clear hx
    go_upto_region 5 with (fail)
    have kkg := cell_regrown kk
    have q5g := cell_regrown q5
    have q0g := cell_regrown q0
    have q1g := cell_regrown q1
    have q2g := cell_regrown q2
    have q3g := cell_regrown q3
    have q4g := cell_regrown q4
    clear kk q5 q0 q1 q2 q3 q4
    refine wp_region_multi 15 (fun i => i == 12 || i == 14) (fun i xs u w' => (i = 12 → ∃ c' : VC, u = c'.val ∧ IsA w' (fun b => wr.heap.size ≤ b) c' x.2) ∧ (i = 14 → ∃ c2 : VC, xs.getLast? = some (.agg #[sV x.1, .int .i64 c2.k, .int .i64 c2.n, sV c2.s, .slice c2.la c2.ln c2.lc, .slice c2.fa c2.fn c2.fc]) ∧ FlatA w' (fun b => wr.heap.size ≤ b) u (pfF ⟨x.1, c2⟩ false cs).length ((pfF ⟨x.1, c2⟩ false cs).flatMap FC.cells)))
      (fun i u => (i = 12 → ∃ c' : VC, u = c'.val) ∧ (i = 14 → ∃ a n c, u = .slice a n c)) (by kernel_rfl) (by kernel_rfl)
      (fun i xs u w1 w2 h hb => ⟨fun e => by obtain ⟨c', a1, a2⟩ := h.1 e; exact ⟨c', a1, a2.all hb⟩, fun e => by obtain ⟨c2, a1, a2⟩ := h.2 e; exact ⟨c2, a1, a2.keep hb.size (fun _ h => h) (fun b _ hlt => hb.block b hlt)⟩⟩)
      (fun i => by
        by_cases e : i = 12
        · exact ⟨VC0.val, fun _ => ⟨VC0, rfl⟩, fun e' => by omega⟩
        · exact ⟨.slice none 0 0, fun e' => absurd e' e, fun _ => ⟨_, _, _, rfl⟩⟩) ?_
    simp only [List.take_succ_cons, List.take_zero, List.drop_succ_cons, List.drop_zero]
    refine wpM_stretch 12 rfl rfl rfl rfl ?_
    simp only [List.take_succ_cons, List.take_zero, List.drop_succ_cons, List.drop_zero]
    repeat (first | go_big_quiet_step (fail) | quiet_step (fail))
    refine wpQuiet_nil ?_
    refine wpM_dem rfl rfl rfl ?_ ?_
    · rintro _ ⟨pp, rfl⟩
      go_simp
      simp only [demUpon]
      refine ⟨trivial, (rcopyValue_any _ x.2 (Nat.le_refl _) hxs c _ (hIx.all (below_regrown wr pp.d pp.os))).mono ?_⟩
      rintro e w2 ⟨c', rfl, hb2, hN⟩
      have hsz := (below_regrown wr pp.d pp.os).size
      exact ⟨_, rfl, ⟨c', rfl⟩, hb2, c', rfl, hN.mono (fun b hb => by omega)⟩
    · rintro u hu
      obtain ⟨c', rfl⟩ := hu.1 rfl
      clear hu
      refine wpM_stretch 1 rfl rfl rfl rfl ?_
      simp only [List.take_succ_cons, List.take_zero, List.drop_succ_cons, List.drop_zero]
      repeat (first | go_big_quiet_step (fail) | quiet_step (fail))
      refine wpQuiet_nil ?_
      refine wpM_dem rfl rfl rfl ?_ ?_
      · rintro _ ⟨pp, rfl⟩
        have hsz := (below_regrown wr pp.d pp.os).size
        go_simp
        simp only [demUpon]
        refine ⟨trivial, (rput_any (.slice ka kn kc) cs ⟨x.1, c'⟩ _ (hFA.flat.all (below_regrown wr pp.d pp.os)) (by omega) _ rfl).mono ?_⟩
        rintro e w2 ⟨kv, rfl, hb2, hrow⟩
        have hfl := (flatA_of_own hrow).up (A' := fun b => wr.heap.size ≤ b) (fun b hb => by omega)
        exact ⟨_, rfl, AccF.form hrow, hb2, c', rfl, hfl⟩
      · rintro u hu
        obtain ⟨ka2, kn2, kc2, rfl⟩ := hu.2 rfl
        clear hu
        refine wpM_end ?_
        rintro U hbU ⟨⟨-, hV1⟩, hV2⟩
        obtain ⟨c2, he2, hN⟩ := hV1.1 (by first | rfl | trivial)
        obtain ⟨c3, hx3, hF3⟩ := hV2.2 (by first | rfl | trivial)
        obtain rfl := VC.val_inj he2
        have hx4 : some (.agg #[sV x.1, .int .i64 c'.k, .int .i64 c'.n, sV c'.s, .slice c'.la c'.ln c'.lc, .slice c'.fa c'.fn c'.fc] : Value) = some (.agg #[sV x.1, .int .i64 c3.k, .int .i64 c3.n, sV c3.s, .slice c3.la c3.ln c3.lc, .slice c3.fa c3.fn c3.fc]) := hx3
        obtain rfl : c' = c3 := aggF_inj (by rw [Option.some.inj hx4])
        clear hV1 hV2 he2 hx3 hx4 kkg q5g q0g q1g q2g q3g q4g
        have hUs := hbU.size
        have oO2 := oO.all hbU
        have hbt2 := hbt.all hbU
        have hP2 := (HP.out.1.keep hbU.size (fun b _ hlt => hbU.block b hlt)).put (g := ⟨x.1, c'⟩) (t := x.2) (hN.mono (fun b hb => by omega))
        have hMO := HP.out.2.put x.1 x.2
        rw [show l.take q ++ [(x.1, x.2)] = l.take (q + 1) from (take_snoc HX.out).symm] at hMO
        have hpl := pfF_len ⟨x.1, c'⟩ cs false
        have k4 := oO2.cell (i := 4) rfl
        have f4 := oO2.frozen 4
        have HH := Lib.hid (And.intro hP2 (And.intro hMO (And.intro hF3 (And.intro oO2 hbt2))))
        clear hP2 hMO hF3 oO2 hbt2 hN hFA oO hbt HP oR hbw hIx
        generalize pfF ⟨x.1, c'⟩ false cs = cs2 at *
        generalize pf x.1 x.2 false M = M2 at *
        go_wp2
        obtain ⟨hP2, hMO, hF3, oO2, hbt2⟩ := HH.out
        go_roundg (l.length - (q + 1))
        case measure => have := HG.out; omega
        case rel => exact ⟨q + 1, ka2, kn2, kc2, cs2, M2, by omega, rfl, by go_num, hbt2.set _ _, oO2.set 4 _, ((hF3.up (A' := fun b => W.heap.size ≤ b) (fun b hb => by omega)).set (by omega) _ _), by omega, Lib.hid ⟨hP2.keep (Nat.le_of_eq (by unfold World.setCell; simp)) (fun b hb _ => Below.heap_setCell _ _ _ _ (by rintro rfl; exact absurd hb (by show ¬ W.heap.size ≤ w.heap.size + 1; omega))), hMO⟩⟩
end Go.Proofs.Ytinenbgdkchghaa
namespace Go.Proofs.Ytinenbgdkchghaa
open Go.RowKit Go.Sort Go.Proofs.LawFrame

set_option maxHeartbeats 8000000 in
set_option maxRecDepth 4000 in
theorem rothers_any (c : VC) (k n : Int) (s : Str) (l : List T) (f : List (Str × T)) (nm : Str) (w0 w : World) (hI : Is w0 c (.mk k n s l f)) (h00 : Below w0.heap.size w0 w) (hfl : f.length ≤ 3900) :
    Calls Try.prog 42 #[c.val, sV nm] w fun e w' => ∃ kv, e = .returned kv ∧ Below w.heap.size w w' ∧ RowF w0 w' w.heap.size kv (othK k nm f) := by
  obtain ⟨hk, -, -⟩ := hI.same
  have hf := hI.flds
  obtain ⟨ck, cn, cst, cla, cln, clc, cfa, cfn, cfc⟩ := c
  obtain ⟨hfn, hfc, hfm⟩ := hf.slice
  simp only at hfn hfc hfm hk hf
  subst hfn
  unfold maxLen at hfm
  obtain ⟨i35, hi35, hzi35, hsi35, hyi35⟩ := info_parts info35
  show Calls Try.prog 42 #[.agg #[.int .i64 ck, .int .i64 cn, sV cst, .slice cla cln clc, .slice cfa f.length cfc], sV nm] w _
  have hw0 := below_alloc w (.cells #[.int .i64 ck, .int .i64 cn, sV cst, .slice cla cln clc, .slice cfa f.length cfc] 25)
  have oB := Own.new w [.int .i64 ck, .int .i64 cn, sV cst, .slice cla cln clc, .slice cfa f.length cfc] 25
  have hs0 : (w.alloc (.cells #[.int .i64 ck, .int .i64 cn, sV cst, .slice cla cln clc, .slice cfa f.length cfc] 25)).heap.size = w.heap.size + 1 := size_alloc _ _
  rw [← hk]
  clear hI hk
  by_cases h5 : ck = 5
  case neg =>
    have HE : Hid (othK ck nm f = []) := Lib.hid (if_neg h5)
    have hne : (ck != 5) = true := by simpa using h5
    have HB := Lib.hid hw0
    have OB := Lib.hid oB
    have hne2 : (ck == 5) = false := by simpa using h5
    clear hw0 oB hf h5 hne
    have oBc := OB.out
    have c0 := oBc.cell (i := 0) rfl
    have c4 := oBc.cell (i := 4) rfl
    clear oBc
    go_enter Try.func42, Try.ntmps42
    go_wp2
    refine wp_loop_rounds 1 ?_
    rw [rounds_succ]
    by_cases hfp : 0 < f.length
    · go_wp2
      go_ret
      exact ⟨_, rfl, HB.out, by rw [HE.out]; exact ⟨[], PW.nil _, own_nil _ _ _ _⟩⟩
    · go_wp2
      go_ret
      exact ⟨_, rfl, HB.out, by rw [HE.out]; exact ⟨[], PW.nil _, own_nil _ _ _ _⟩⟩
  have HE : Hid (othK ck nm f = oth nm f) := Lib.hid (if_pos h5)
  have hne : (ck == 5) = true := by simpa using h5
  have c0 := oB.cell (i := 0) rfl
  have c4 := oB.cell (i := 4) rfl
  have R0 := Lib.hid (And.intro hw0 oB)
  clear hw0 oB h5
  go_enter Try.func42, Try.ntmps42
  go_wp2
  clear c0 c4
  generalize w.alloc (.cells #[.int .i64 ck, .int .i64 cn, sV cst, .slice cla cln clc, .slice cfa f.length cfc] 25) = W at *
  go_loopg [5, 6] f.length (fun g kv i wr => ∃ (q : Nat) (cs : List FC), q ≤ f.length ∧ g = f.length - q ∧ i = .int .i64 q ∧ Below W.heap.size W wr ∧ wr.ownsRow W.heap.size 33 6 kv cs.length (cs.flatMap FC.cells) ∧ Hid (PW w0 cs (oth nm (f.take q))))
  case atStart => exact ⟨0, [], Nat.zero_le _, rfl, rfl, Below.refl _ _, own_nil _ _ _ _, Lib.hid (PW.nil _)⟩
  case round =>
    obtain ⟨q, cs, hq, hg, rfl, hb, hown, HP⟩ := hrel
    have HG := Lib.hid hg
    clear hg
    have hbw := below_all R0.out.1 hb
    have hbw0 := below_all h00 hbw
    have hcl : cs.length ≤ 3900 := by have := HP.out.len; have := oth_len nm (f.take q); simp at this; omega
    have oBr := R0.out.2.all hb
    have c0 := oBr.cell (i := 0) rfl
    have c4 := oBr.cell (i := 4) rfl
    clear oBr
    by_cases hlt : q < f.length
    case neg =>
      obtain rfl : q = f.length := by omega
      have HQ := Lib.hid (And.intro hbw hown)
      clear hbw hown hb hbw0
      go_wp2
      go_ret
      obtain ⟨hbw, hown⟩ := HQ.out
      refine ⟨_, rfl, hbw, ?_⟩
      rw [HE.out]
      have hP := HP.out
      rw [List.take_length] at hP
      exact ⟨cs, hP, row_weak hown (by omega)⟩
    have hx := List.getElem?_eq_getElem hlt
    generalize f[q] = p at hx
    obtain ⟨b, off, d, hao, hbl, hId, q5, q0, q1, q2, q3, q4⟩ := hf.at hbw0 hx
    have hdd : Is w0 d p.2 := by
      obtain ⟨cs0, g1, g2, g3, g4⟩ := hf.out
      obtain ⟨x0, hx0⟩ : ∃ x0, cs0[q]? = some x0 := ⟨_, List.getElem?_eq_getElem (by omega)⟩
      have hv0 : d = x0.v := by
        obtain ⟨ao', cap', e1, -, -, e4⟩ := g2.out
        cases e1
        obtain ⟨b0, off0, e5, e6, e7⟩ := e4 (by omega)
        rw [hao] at e5; cases e5
        have hc : ∀ j z, (FC.cells x0)[j]? = some z → wr.cell? ⟨b, off + q * 6 + j, none⟩ = some z := fun j z hz => by
          have hj : j < 6 := (List.getElem?_eq_some_iff.1 hz).1
          rw [hbw0.cell (p := ⟨b, off + q * 6 + j, none⟩) e6, Nat.add_assoc]
          exact e7 (q * 6 + j) z (by rw [flat_get FC.cells (m := 6) (fun _ => rfl) cs0 q j x0 hx0 hj]; exact hz)
        have a0 := hc 1 _ rfl
        have a1 := hc 2 _ rfl
        have a2 := hc 3 _ rfl
        have a3 := hc 4 _ rfl
        have a4 := hc 5 _ rfl
        rw [q0] at a0; rw [q1] at a1; rw [q2] at a2; rw [q3] at a3; rw [q4] at a4
        apply VC.cells_inj
        simp only [VC.cells]
        rw [Option.some.inj a0, Option.some.inj a1, Option.some.inj a2, Option.some.inj a3, Option.some.inj a4]
      rw [hv0]; exact g4 q x0 p hx0 hx
    subst hao
    have hwr := hb.size
    have HX := Lib.hid (And.intro hx hdd)
    clear hx hdd hId
    by_cases hnm : p.1 = nm
    · have HO : Hid (oth nm (f.take (q + 1)) = oth nm (f.take q)) := Lib.hid (by rw [oth_snoc HX.out.1, if_pos hnm]; simp)
      have hne2 : (p.1 == nm) = true := by simpa using hnm
      have HQ := Lib.hid (And.intro hb hown)
      clear hown hb hnm hbw hbw0
      go_wp2
      go_roundg (f.length - (q + 1))
      case measure => have := HG.out; omega
      case rel => exact ⟨q + 1, cs, by omega, rfl, by go_num, HQ.out.1, HQ.out.2, Lib.hid (by rw [HO.out]; exact HP.out)⟩
    · have HO : Hid (oth nm (f.take (q + 1)) = oth nm (f.take q) ++ [p]) := Lib.hid (by rw [oth_snoc HX.out.1, if_neg hnm])
      have hne2 : (p.1 == nm) = false := by simpa using hnm
      clear hnm hbw hbw0
      go_wp2_with (first | (at_builtin; refine wpList_append_own _ rfl (.tmp 27) (.tmp 33) 23 rfl W.heap.size 33 i35 (.agg #[.string ⟨#[]⟩, .int .i64 0, .int .i64 0, .string ⟨#[]⟩, .slice none 0 0, .slice none 0 0]) 6 96 Try.underlying23 hi35 hzi35 hsi35 hyi35 rfl (by decide) _ _ _ rfl (hown.alloc _) ⟨wr.heap.size, 0, none⟩ 1 1 (FC.cells ⟨p.1, d⟩) rfl rfl (cell_six_new _ ⟨p.1, d⟩ _) (six_one ⟨p.1, d⟩) (by unfold maxLen; omega) (by omega) (by simp; omega) ?_; intro v' w5 hown5 hgrow5 hnil5))
      go_roundg (f.length - (q + 1))
      case measure => have := HG.out; omega
      case rel => exact ⟨q + 1, cs ++ [⟨p.1, d⟩], by omega, rfl, by go_num, below_grown (hb.trans ((below_alloc wr _).mono (by omega))) hgrow5 (by rw [size_alloc]; omega) (own_row hown), by rw [flatMap_snoc, List.length_append]; exact hown5, Lib.hid (by rw [HO.out]; exact HP.out.snoc ⟨rfl, HX.out.2⟩)⟩
end Go.Proofs.Ytinenbgdkchghaa
