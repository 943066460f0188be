/- The contract of the insertion sort of fields. -/
import Derived.Test.YtmmembmohkideaaWn
import Derived.Test.YtmmembmohkideaaWj
import Derived.BigRegion
namespace Go.Proofs.Ytmmembmohkideaa
open Go.RowKit Go.Sort Go.Proofs.LawFrame

/-- old memory is left alone, block b apart -/
structure But (b : Nat) (w w' : World) : Prop where
  os : w'.os = w.os
  tape : w'.tape = w.tape
  output : w'.output = w.output
  size : w.heap.size ≤ w'.heap.size
  block : ∀ k, k < w.heap.size → k ≠ b → w'.heap[k]? = w.heap[k]?
theorem But.refl (b : Nat) (w : World) : But b w w := ⟨rfl, rfl, rfl, Nat.le_refl _, fun _ _ _ => rfl⟩
theorem But.all {b : Nat} {w w' w'' : World} (h : But b w w') (hb : Below w'.heap.size w' w'') : But b w w'' :=
  ⟨hb.os.trans h.os, hb.tape.trans h.tape, hb.output.trans h.output, Nat.le_trans h.size hb.size, fun k hk hne => (hb.block k (Nat.lt_of_lt_of_le hk h.size)).trans (h.block k hk hne)⟩
theorem But.trans {b : Nat} {w w' w'' : World} (h : But b w w') (hb : But b w' w'') : But b w w'' :=
  ⟨hb.os.trans h.os, hb.tape.trans h.tape, hb.output.trans h.output, Nat.le_trans h.size hb.size, fun k hk hne => (hb.block k (Nat.lt_of_lt_of_le hk h.size) hne).trans (h.block k hk hne)⟩
theorem But.set {b : Nat} {w w' : World} (h : But b w w') (i : Nat) (v : Value) : But b w (w'.setCell ⟨b, i, none⟩ v) :=
  ⟨h.os, h.tape, h.output, Nat.le_trans h.size (Nat.le_of_eq (by unfold World.setCell; simp)), fun k hk hne => (Below.heap_setCell _ _ _ _ hne).trans (h.block k hk hne)⟩
theorem But.drew {b : Nat} {w w' : World} (h : But b w w') : But b w w'.drew := ⟨h.os, h.tape, h.output, h.size, h.block⟩
theorem But.below {b B : Nat} {a w w' : World} (h : But b w w') (ha : Below B a w) (hB : B ≤ b) (hw : B ≤ w.heap.size) : Below B a w' :=
  ⟨h.os.trans ha.os, h.tape.trans ha.tape, h.output.trans ha.output, Nat.le_trans ha.size h.size, fun k hk => (h.block k (by omega) (by omega)).trans (ha.block k hk)⟩

/- the sort, as it goes -/
def ltF (x y : FC) : Bool := decide (cmpS x.x y.x < 0)
def swp (l : List FC) (j : Nat) : List FC := (l.set j (l.getD (j - 1) FC0)).set (j - 1) (l.getD j FC0)
def sink (a : Nat) : Nat → List FC → List FC
  | 0, l => l
  | j + 1, l => if a < j + 1 ∧ ltF (l.getD (j + 1) FC0) (l.getD j FC0) = true then sink a j (swp l (j + 1)) else l
def isort (a : Nat) : Nat → Nat → List FC → List FC
  | _, 0, l => l
  | i, n + 1, l => isort a (i + 1) n (sink a i l)
theorem sink_stop {a j : Nat} {l : List FC} (h : ¬ (a < j ∧ ltF (l.getD j FC0) (l.getD (j - 1) FC0) = true)) : sink a j l = l := by
  cases j with
  | zero => rfl
  | succ j => rw [sink, if_neg (by simpa using h)]
theorem sink_go {a j : Nat} {l : List FC} (h1 : a < j) (h2 : ltF (l.getD j FC0) (l.getD (j - 1) FC0) = true) : sink a j l = sink a (j - 1) (swp l j) := by
  cases j with
  | zero => omega
  | succ j => rw [sink, if_pos ⟨h1, by simpa using h2⟩]; rfl
theorem swp_length (l : List FC) (j : Nat) : (swp l j).length = l.length := by unfold swp; simp

set_option maxHeartbeats 400000 in
theorem byName_any (x y : FC) (w : World) : Calls Try.prog 50 #[.agg #[sV x.x, .int .i64 x.v.k, .int .i64 x.v.n, sV x.v.s, .slice x.v.la x.v.ln x.v.lc, .slice x.v.fa x.v.fn x.v.fc], .agg #[sV y.x, .int .i64 y.v.k, .int .i64 y.v.n, sV y.v.s, .slice y.v.la y.v.ln y.v.lc, .slice y.v.fa y.v.fn y.v.fc]] w fun e w' => e = .returned (.int .i64 (cmpS x.x y.x)) ∧ Below w.heap.size w w' := by
  go_enter Try.func50, Try.ntmps50
  go_wp2_with fail
  refine (strCmp_any _ _ _).mono ?_
  rintro e w' ⟨rfl, rfl⟩
  go_wp2
  go_ret
  exact ⟨rfl, ((Below.refl _ _).alloc (Nat.le_refl _) _).alloc (by simp) _⟩

set_option maxHeartbeats 4000000 in
theorem insertion_any (b cap a e : Nat) (rest : List Value) (l0 : List FC) (w : World) (ho : Own w b (l0.flatMap FC.cells ++ rest) 35) (hn : l0.length ≤ 1000) (ha : a ≤ 1000) (he : e ≤ l0.length) (hcap : l0.length ≤ cap) (hcm : cap ≤ maxLen) :
    Calls Try.prog 69 #[.slice (some ⟨b, 0, none⟩) l0.length cap, .int .i64 (a : Int), .int .i64 (e : Int), .func (.func 50) #[] #[]] w fun en w' => en = .returned (.tuple #[]) ∧ But b w w' ∧ Own w' b ((isort a (a + 1) (e - (a + 1)) l0).flatMap FC.cells ++ rest) 35 ∧ (isort a (a + 1) (e - (a + 1)) l0).length = l0.length := by
  unfold maxLen at hcm
  generalize hN : l0.length = N at *
  have HN := Lib.hid hN
  clear hN
  go_enter Try.func69, Try.ntmps69
  go_wp2
  have R0 := Lib.hid ho
  clear ho
  go_loopg [8] (e - (a + 1)) (fun g s wr => ∃ (i : Nat) (l : List FC), a + 1 ≤ i ∧ i ≤ 2000 ∧ g = e - i ∧ s = .int .i64 (i : Int) ∧ l.length = N ∧ But b w wr ∧ Own wr b (l.flatMap FC.cells ++ rest) 35 ∧ Hid (isort a i (e - i) l = isort a (a + 1) (e - (a + 1)) l0))
  case atStart => exact ⟨a + 1, l0, Nat.le_refl _, by omega, rfl, by go_num, HN.out, But.refl _ _, R0.out, Lib.hid rfl⟩
  case round =>
    obtain ⟨i, l, hi, hi2, hg, rfl, hl, hbt, o, HI⟩ := hrel
    have HG := Lib.hid hg
    clear hg R0
    by_cases hlt : i < e
    case neg =>
      have hge : ¬ (i : Int) < (e : Int) := by omega
      have hz : e - i = 0 := by omega
      have HZ := Lib.hid hz
      clear hz
      go_wp2
      have hq := HI.out
      rw [HZ.out, isort] at hq
      go_end0
      exact ⟨rfl, hbt, by rw [← hq]; exact o, by rw [← hq]; exact hl⟩
    go_wp2
    generalize wr = W1 at *
    have R1 := Lib.hid (And.intro hbt o)
    clear hbt o
    have HL := Lib.hid hl
    go_loopg [9] i (fun g s wr => ∃ (j : Nat) (l' : List FC), j ≤ i ∧ a ≤ j ∧ g = j ∧ s = .int .i64 (j : Int) ∧ l'.length = N ∧ But b w wr ∧ Own wr b (l'.flatMap FC.cells ++ rest) 35 ∧ Hid (sink a j l' = sink a i l))
    case atStart => exact ⟨i, l, Nat.le_refl _, by omega, rfl, rfl, HL.out, R1.out.1, R1.out.2, Lib.hid rfl⟩
    case round =>
      obtain ⟨j, l', hj, haj, hg2, rfl, hl', hbt, o, HS⟩ := hrel
      have HG2 := Lib.hid hg2
      clear hg2 R1
      by_cases haj2 : a < j
      case neg =>
        have hge : ¬ (a : Int) < (j : Int) := by omega
        have HST : Hid (sink a j l' = l') := Lib.hid (sink_stop (fun h => haj2 h.1))
        go_wp2
        refine wp_region_quiet_below (by kernel_rfl) (by kernel_rfl) ?_
        repeat (first | go_big_quiet_step (fail) | quiet_step (fail))
        refine wpQuiet_nil ?_
        intro _ hw'
        obtain ⟨⟨dq, osq⟩, hw''⟩ := hw'
        subst hw''
        have hb1 := hbt.all (below_regrown wr dq osq)
        have o1 := o.all (below_regrown wr dq osq)
        clear hbt o
        go_wp2
        go_roundg (e - (i + 1))
        case measure => have := HG.out; omega
        case rel =>
          refine ⟨i + 1, l', by omega, by omega, rfl, by go_num, hl', hb1, o1, Lib.hid ?_⟩
          rw [← HI.out, show e - i = (e - (i + 1)) + 1 by omega, isort, ← HS.out, HST.out]
      have hx : l'[j]? = some (l'.getD j FC0) := by rw [List.getD_eq_getElem?_getD, List.getElem?_eq_getElem (by omega)]; rfl
      have hy : l'[j - 1]? = some (l'.getD (j - 1) FC0) := by rw [List.getD_eq_getElem?_getD, List.getElem?_eq_getElem (by omega)]; rfl
      have HST := Lib.hid (fun h => sink_stop (a := a) (j := j) (l := l') h)
      have HGO := Lib.hid (fun h => sink_go (a := a) (j := j) (l := l') haj2 h)
      have HSW : Hid (swp l' j = (l'.set j (l'.getD (j - 1) FC0)).set (j - 1) (l'.getD j FC0)) := Lib.hid rfl
      generalize l'.getD j FC0 = x at *
      generalize l'.getD (j - 1) FC0 = y at *
      obtain ⟨x0, x1, x2, x3, x4, x5⟩ := Own.fieldAt o hx
      obtain ⟨y0, y1, y2, y3, y4, y5⟩ := Own.fieldAt o hy
      have gx0 := cell_regrown x0
      have gx1 := cell_regrown x1
      have gx2 := cell_regrown x2
      have gx3 := cell_regrown x3
      have gx4 := cell_regrown x4
      have gx5 := cell_regrown x5
      have gy0 := cell_regrown y0
      have gy1 := cell_regrown y1
      have gy2 := cell_regrown y2
      have gy3 := cell_regrown y3
      have gy4 := cell_regrown y4
      have gy5 := cell_regrown y5
      have cB : ∀ dd os, Calls Try.prog 50 #[.agg #[sV x.x, .int .i64 x.v.k, .int .i64 x.v.n, sV x.v.s, .slice x.v.la x.v.ln x.v.lc, .slice x.v.fa x.v.fn x.v.fc], .agg #[sV y.x, .int .i64 y.v.k, .int .i64 y.v.n, sV y.v.s, .slice y.v.la y.v.ln y.v.lc, .slice y.v.fa y.v.fn y.v.fc]] (grow (redrawn wr dd) os) fun e w'' => e = .returned (.int .i64 (cmpS x.x y.x)) ∧ ∃ p : Regrown, w'' = grow (redrawn wr p.d) p.os := fun dd os => Calls.regrown_of (byName_any x y _)
      by_cases hc : cmpS x.x y.x < 0
      case neg =>
        have HC : Hid (¬ (a < j ∧ ltF x y = true)) := Lib.hid (fun h => by have := h.2; unfold ltF at this; simp at this; omega)
        go_wp2
        refine wp_region_quiet_below (by kernel_rfl) (by kernel_rfl) ?_
        repeat (first | go_big_quiet_step ((with_reducible exact cB _ _)) | quiet_step (with_reducible exact cB _ _))
        refine wpQuiet_nil ?_
        intro _ hw'
        obtain ⟨⟨dq, osq⟩, hw''⟩ := hw'
        subst hw''
        have hb1 := hbt.all (below_regrown wr dq osq)
        have o1 := o.all (below_regrown wr dq osq)
        clear hbt o x0 x1 x2 x3 x4 x5 y0 y1 y2 y3 y4 y5 gx0 gx1 gx2 gx3 gx4 gx5 gy0 gy1 gy2 gy3 gy4 gy5 cB
        go_wp2
        go_roundg (e - (i + 1))
        case measure => have := HG.out; omega
        case rel =>
          refine ⟨i + 1, l', by omega, by omega, rfl, by go_num, hl', hb1, o1, Lib.hid ?_⟩
          rw [← HI.out, show e - i = (e - (i + 1)) + 1 by omega, isort, ← HS.out, HST.out HC.out]
      have HC : Hid (ltF x y = true) := Lib.hid (by unfold ltF; simp; exact hc)
      go_wp2
      refine wp_region_quiet_below (by kernel_rfl) (by kernel_rfl) ?_
      repeat (first | go_big_quiet_step ((with_reducible exact cB _ _)) | quiet_step (with_reducible exact cB _ _))
      refine wpQuiet_nil ?_
      intro _ hw'
      obtain ⟨⟨dq, osq⟩, hw''⟩ := hw'
      subst hw''
      have hb1 := hbt.all (below_regrown wr dq osq)
      have o1 := o.all (below_regrown wr dq osq)
      clear hbt o x0 x1 x2 x3 x4 x5 y0 y1 y2 y3 y4 y5 gx0 gx1 gx2 gx3 gx4 gx5 gy0 gy1 gy2 gy3 gy4 gy5 cB
      generalize grow (redrawn wr dq) osq = V at *
      obtain ⟨x0, x1, x2, x3, x4, x5⟩ := Own.fieldAt o1 hx
      obtain ⟨y0, y1, y2, y3, y4, y5⟩ := Own.fieldAt o1 hy
      have fx0 := o1.frozen (j * 6)
      have fy0 := o1.frozen ((j - 1) * 6)
      have fx1 := o1.frozen (j * 6 + 1)
      have fy1 := o1.frozen ((j - 1) * 6 + 1)
      have fx2 := o1.frozen (j * 6 + 2)
      have fy2 := o1.frozen ((j - 1) * 6 + 2)
      have fx3 := o1.frozen (j * 6 + 3)
      have fy3 := o1.frozen ((j - 1) * 6 + 3)
      have fx4 := o1.frozen (j * 6 + 4)
      have fy4 := o1.frozen ((j - 1) * 6 + 4)
      have fx5 := o1.frozen (j * 6 + 5)
      have fy5 := o1.frozen ((j - 1) * 6 + 5)
      have HO := Lib.hid (And.intro hb1 o1)
      clear hb1 o1 hx hy
      go_wp2
      go_region
      go_wp2
      obtain ⟨hb1, o1⟩ := HO.out
      have o2 := Own.setFR (Own.setFR o1 (k := j) (by omega) y) (k := j - 1) (by rw [List.length_set]; omega) x
      have h12 := ((((((((((((hb1.set (j * 6) (sV y.x)).set (j * 6 + 1) (.int .i64 y.v.k)).set (j * 6 + 2) (.int .i64 y.v.n)).set (j * 6 + 3) (sV y.v.s)).set (j * 6 + 4) (.slice y.v.la y.v.ln y.v.lc)).set (j * 6 + 5) (.slice y.v.fa y.v.fn y.v.fc)).set ((j - 1) * 6) (sV x.x)).set ((j - 1) * 6 + 1) (.int .i64 x.v.k)).set ((j - 1) * 6 + 2) (.int .i64 x.v.n)).set ((j - 1) * 6 + 3) (sV x.v.s)).set ((j - 1) * 6 + 4) (.slice x.v.la x.v.ln x.v.lc)).set ((j - 1) * 6 + 5) (.slice x.v.fa x.v.fn x.v.fc)).drew
      go_roundg (j - 1)
      case measure => have := HG2.out; omega
      case rel => exact ⟨j - 1, swp l' j, by omega, by omega, rfl, by go_num, by rw [swp_length]; exact hl', h12, by rw [HSW.out]; exact o2.drew, Lib.hid ((HGO.out HC.out).symm.trans HS.out)⟩
end Go.Proofs.Ytmmembmohkideaa
