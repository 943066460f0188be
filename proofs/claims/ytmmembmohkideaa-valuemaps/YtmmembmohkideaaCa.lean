/- The contract of copyFields, out of that of copyValue. -/
import Derived.Test.YtmmembmohkideaaRm
import Derived.Deep.Cut
import Derived.Test.YtmmembmohkideaaPa
import Derived.Test.YtmmembmohkideaaWm
namespace Go.Proofs.Ytmmembmohkideaa
open Go.RowKit Go.Sort Go.Proofs.LawFrame

theorem VC.val_inj {c d : VC} (h : c.val = d.val) : c = d := by
  obtain ⟨k, n, s, la, ln, lc, fa, fn, fc⟩ := c
  obtain ⟨k', n', s', la', ln', lc', fa', fn', fc'⟩ := d
  simp [VC.val] at h
  simp [h]

set_option maxHeartbeats 4000000 in
theorem copyFields_of (l : List (Str × T)) (H : ∀ (i : Nat) (p : Str × T), l[i]? = some p → ∀ (c : VC) (w : World), Is w c p.2 →
      Calls Try.prog 54 #[c.val] w fun e w' => ∃ c' : VC, e = .returned c'.val ∧ Below w.heap.size w w' ∧ IsA w' (fun b => w.heap.size ≤ b) c' p.2)
    (v : Value) (w : World) (hv : Flds w v l) (hn : l.length ≤ 1000) :
    Calls Try.prog 51 #[v] w fun e w' => ∃ v', e = .returned v' ∧ Below w.heap.size w w' ∧ NewF w w' v' l := by
  obtain ⟨ao, cap, rfl, hlc, hlm⟩ := hv.form
  unfold maxLen at hlm
  by_cases h0 : l.length = 0
  · have HE : Hid (l = []) := Lib.hid (by simpa using h0)
    have hz : ((l.length : Int) == 0) = true := by rw [h0]; rfl
    clear h0 H
    go_enter Try.func51, Try.ntmps51
    go_wp2
    go_ret
    exact ⟨_, rfl, Below.refl _ _, ⟨Or.inl ⟨HE.out, rfl⟩⟩⟩
  have hz : ((l.length : Int) == 0) = false := by rw [beq_eq_false_iff_ne]; omega
  obtain ⟨i0, hi0, hz0, hs0, hb0⟩ := info_parts info35
  have hmk : ∀ w : World, (Instr.makeSlice 23 (.int .i64 (l.length : Int)) (.int .i64 (l.length : Int))).run Try.prog w = .ok (.slice (some ⟨w.heap.size, 0, none⟩) l.length l.length) (w.alloc (.cells ((List.replicate l.length FC0).flatMap FC.cells).toArray 35)) := fun w => by
    have := run_make (P := Try.prog) w 23 35 i0 _ Try.underlying23 hi0 hz0 .i64 .i64 (l.length : Int) (l.length : Int) (by omega) (Int.le_refl _) (by rw [hb0]; omega) (by omega)
    rw [this, hs0]
    have e := made_row FC.cells (m := 6) (fun _ => rfl) FC0 (Value.cells (.agg #[.string ⟨#[]⟩, .int .i64 0, .int .i64 0, .string ⟨#[]⟩, .slice none 0 0, .slice none 0 0])) rfl l.length
    simp only [Int.toNat_natCast]
    rw [← e]
  go_enter Try.func51, Try.ntmps51
  go_wp2
  have o0 : Own (w.alloc (.cells ((List.replicate l.length FC0).flatMap FC.cells).toArray 35)) w.heap.size ((List.replicate l.length FC0).flatMap FC.cells) 35 := Own.new _ _ _
  have hw0 : Below w.heap.size w (w.alloc (.cells ((List.replicate l.length FC0).flatMap FC.cells).toArray 35)) := (Below.refl _ _).alloc (Nat.le_refl _) _
  generalize w.alloc (.cells ((List.replicate l.length FC0).flatMap FC.cells).toArray 35) = W at *
  have R0 := Lib.hid (And.intro hw0 o0)
  clear hw0 o0 hmk
  go_loopg [14] l.length (fun g i wr => ∃ (k : Nat) (cs : List FC), k ≤ l.length ∧ g = l.length - k ∧ i = .int .i64 k ∧ cs.length = l.length ∧ Below w.heap.size w wr ∧ Own wr w.heap.size (cs.flatMap FC.cells) 35 ∧ Hid (∀ (i : Nat) (x : FC) (p : Str × T), i < k → cs[i]? = some x → l[i]? = some p → x.x = p.1 ∧ IsA wr (fun b => w.heap.size < b) x.v p.2))
  case atStart =>
    obtain ⟨hw0, o0⟩ := R0.out
    exact ⟨0, List.replicate l.length FC0, Nat.zero_le _, rfl, rfl, by simp, hw0, o0, Lib.hid (fun i x t h => absurd h (by omega))⟩
  case round =>
    obtain ⟨k, cs, hk, hg, rfl, hcs, hb, o0, HA⟩ := hrel
    have HG := Lib.hid hg
    clear hg R0
    by_cases hlt : k < l.length
    case neg =>
      obtain rfl : k = l.length := by omega
      go_wp2
      go_ret
      exact ⟨_, rfl, hb, ⟨Or.inr ⟨w.heap.size, cs, rfl, by unfold maxLen; omega, Nat.le_refl _, hcs, o0, fun i x t hx ht => (HA.out i x t (by have := (List.getElem?_eq_some_iff.1 ht).1; omega) hx ht).1, fun i x t hx ht => (HA.out i x t (by have := (List.getElem?_eq_some_iff.1 ht).1; omega) hx ht).2⟩⟩⟩
    have hx := List.getElem?_eq_getElem hlt
    generalize l[k] = p at hx
    obtain ⟨b, off, c, rfl, hbl, hI, q, q0, q1, q2, q3, q4⟩ := hv.at hb hx
    have hbb := hb.alloc hb.size (.cells #[sV p.1, .int .i64 c.k, .int .i64 c.n, sV c.s, .slice c.la c.ln c.lc, .slice c.fa c.fn c.fc] 35)
    have oo := o0.alloc (.cells #[sV p.1, .int .i64 c.k, .int .i64 c.n, sV c.s, .slice c.la c.ln c.lc, .slice c.fa c.fn c.fc] 35)
    have hbx := (Below.refl wr.heap.size wr).alloc (Nat.le_refl _) (.cells #[sV p.1, .int .i64 c.k, .int .i64 c.n, sV c.s, .slice c.la c.ln c.lc, .slice c.fa c.fn c.fc] 35)
    have hII := hI.all hbx
    have oN : Own (wr.alloc (.cells #[sV p.1, .int .i64 c.k, .int .i64 c.n, sV c.s, .slice c.la c.ln c.lc, .slice c.fa c.fn c.fc] 35)) wr.heap.size [sV p.1, .int .i64 c.k, .int .i64 c.n, sV c.s, .slice c.la c.ln c.lc, .slice c.fa c.fn c.fc] 35 := Own.new _ _ _
    have hwl := o0.lt
    have IH := Lib.hid (H k p hx)
    have HX := Lib.hid hx
    clear hI hb o0 hx H
    go_upto_region 7 with (fail)
    clear q q0 q1 q2 q3 q4
    have hVl := oN.lt
    have hVs : (wr.alloc (.cells #[sV p.1, .int .i64 c.k, .int .i64 c.n, sV c.s, .slice c.la c.ln c.lc, .slice c.fa c.fn c.fc] 35)).heap.size = wr.heap.size + 1 := size_alloc _ _
    generalize wr.alloc (.cells #[sV p.1, .int .i64 c.k, .int .i64 c.n, sV c.s, .slice c.la c.ln c.lc, .slice c.fa c.fn c.fc] 35) = V at *
    have z0 := cell_regrown (oN.cell (i := 0) rfl)
    have z1 := cell_regrown (oN.cell (i := 1) rfl)
    have z2 := cell_regrown (oN.cell (i := 2) rfl)
    have z3 := cell_regrown (oN.cell (i := 3) rfl)
    have z4 := cell_regrown (oN.cell (i := 4) rfl)
    have z5 := cell_regrown (oN.cell (i := 5) rfl)
    refine wp_region_multi 9 (fun i => i == 6) (fun _ _ u w' => ∃ c' : VC, u = c'.val ∧ IsA w' (fun b => V.heap.size ≤ b) c' p.2) (fun _ u => ∃ c' : VC, u = c'.val) (by kernel_rfl) (by kernel_rfl) (fun _ _ _ w1 w2 ⟨c', h1, h2⟩ hb => ⟨c', h1, h2.all hb⟩) (fun _ => ⟨VC0.val, VC0, rfl⟩) ?_
    simp only [List.take_succ_cons, List.take_zero, List.drop_succ_cons, List.drop_zero]
    refine wpM_stretch 6 rfl rfl rfl rfl ?_
    simp only [List.take_succ_cons, List.take_zero, List.drop_succ_cons, List.drop_zero]
    repeat (first | go_big_quiet_step (fail) | quiet_step (fail))
    refine wpQuiet_nil ?_
    refine wpM_dem rfl rfl rfl ?_ ?_
    · rintro _ ⟨pp, rfl⟩
      go_simp
      simp only [demUpon]
      refine ⟨trivial, (IH.out c _ (hII.all (below_regrown V pp.d pp.os))).mono ?_⟩
      rintro e w2 ⟨c', rfl, hb2, hN⟩
      have hsz := (below_regrown V pp.d pp.os).size
      exact ⟨_, rfl, ⟨c', rfl⟩, hb2, c', rfl, hN.mono (fun b hb => by omega)⟩
    · rintro _ ⟨c', rfl⟩
      refine wpM_stretch 2 rfl rfl rfl rfl ?_
      simp only [List.take_succ_cons, List.take_zero, List.drop_succ_cons, List.drop_zero]
      repeat (first | go_big_quiet_step (fail) | quiet_step (fail))
      refine wpQuiet_nil ?_
      refine wpM_end ?_
      rintro U hb2 ⟨-, c2, he2, hN⟩
      obtain rfl := VC.val_inj he2
      have o2 := oo.all hb2
      have HN := Lib.hid hN
      have HBE := Lib.hid (And.intro (below_all hbb hb2) (below_all hbx hb2))
      clear oo hb2 hbb hbx hN he2 z0 z1 z2 z3 z4 z5 oN hII IH
      obtain ⟨z0, e0⟩ : ∃ z, U.cell? ⟨w.heap.size, k * 6, none⟩ = some z := ⟨_, o2.cell (List.getElem?_eq_getElem (by rw [flat_length FC.cells (m := 6) (fun _ => rfl), hcs]; omega))⟩
      have f0 := o2.frozen (k * 6)
      obtain ⟨z1, e1⟩ : ∃ z, U.cell? ⟨w.heap.size, k * 6 + 1, none⟩ = some z := ⟨_, o2.cell (List.getElem?_eq_getElem (by rw [flat_length FC.cells (m := 6) (fun _ => rfl), hcs]; omega))⟩
      have f1 := o2.frozen (k * 6 + 1)
      obtain ⟨z2, e2⟩ : ∃ z, U.cell? ⟨w.heap.size, k * 6 + 2, none⟩ = some z := ⟨_, o2.cell (List.getElem?_eq_getElem (by rw [flat_length FC.cells (m := 6) (fun _ => rfl), hcs]; omega))⟩
      have f2 := o2.frozen (k * 6 + 2)
      obtain ⟨z3, e3⟩ : ∃ z, U.cell? ⟨w.heap.size, k * 6 + 3, none⟩ = some z := ⟨_, o2.cell (List.getElem?_eq_getElem (by rw [flat_length FC.cells (m := 6) (fun _ => rfl), hcs]; omega))⟩
      have f3 := o2.frozen (k * 6 + 3)
      obtain ⟨z4, e4⟩ : ∃ z, U.cell? ⟨w.heap.size, k * 6 + 4, none⟩ = some z := ⟨_, o2.cell (List.getElem?_eq_getElem (by rw [flat_length FC.cells (m := 6) (fun _ => rfl), hcs]; omega))⟩
      have f4 := o2.frozen (k * 6 + 4)
      obtain ⟨z5, e5⟩ : ∃ z, U.cell? ⟨w.heap.size, k * 6 + 5, none⟩ = some z := ⟨_, o2.cell (List.getElem?_eq_getElem (by rw [flat_length FC.cells (m := 6) (fun _ => rfl), hcs]; omega))⟩
      have f5 := o2.frozen (k * 6 + 5)
      have HO := Lib.hid o2
      clear o2
      go_wp2
      have os := Own.setF HO.out (k := k) (by omega) ⟨p.1, c'⟩
      go_roundg (l.length - (k + 1))
      case measure => have := HG.out; omega
      case rel =>
        refine ⟨k + 1, cs.set k ⟨p.1, c'⟩, by omega, rfl, by go_num, by rw [List.length_set]; exact hcs, (below_set (below_set (below_set (below_set (below_set (below_set HBE.out.1 (Nat.le_refl _) _) (Nat.le_refl _) _) (Nat.le_refl _) _) (Nat.le_refl _) _) (Nat.le_refl _) _) (Nat.le_refl _) _), os, Lib.hid ?_⟩
        intro i y t hi hy ht
        have hset : ∀ {y : VC} {t : T}, IsA U (fun b => w.heap.size < b) y t → IsA ((((((U.setCell ⟨w.heap.size, k * 6, none⟩ (sV p.1)).setCell ⟨w.heap.size, k * 6 + 1, none⟩ (.int .i64 c'.k)).setCell ⟨w.heap.size, k * 6 + 2, none⟩ (.int .i64 c'.n)).setCell ⟨w.heap.size, k * 6 + 3, none⟩ (sV c'.s)).setCell ⟨w.heap.size, k * 6 + 4, none⟩ (.slice c'.la c'.ln c'.lc)).setCell ⟨w.heap.size, k * 6 + 5, none⟩ (.slice c'.fa c'.fn c'.fc)) (fun b => w.heap.size < b) y t := fun h => ((((((h.set (by omega) _ _).set (by omega) _ _).set (by omega) _ _).set (by omega) _ _).set (by omega) _ _).set (by omega) _ _)
        by_cases hik : i = k
        · subst hik
          rw [HX.out] at ht; cases ht
          rw [List.getElem?_set_self (by omega)] at hy; cases hy
          exact ⟨rfl, hset (HN.out.mono (fun b hb => by omega))⟩
        · rw [List.getElem?_set_ne (fun h => hik h.symm)] at hy
          have h := HA.out i y t (by omega) hy ht
          exact ⟨h.1, hset (h.2.all HBE.out.2)⟩
end Go.Proofs.Ytmmembmohkideaa
