/- The contract of the reference's List. -/
import Derived.Test.YtjpmnlefjmdelaaDoorCd
namespace Go.Proofs.YtjpmnlefjmdelaaDoor
open Go.RowKit Go.Sort Go.Proofs.LawFrame

set_option maxHeartbeats 16000000 in
set_option maxRecDepth 20000 in
set_option maxRecDepth 4000 in
theorem rlist_any (v : Value) (l : List T) (w : World) (hv : Vals w v l) (hll : l.length ≤ 1000) (hs : ∀ t ∈ l, t.size ≤ 1000) :
    Calls Tryd.prog 14 #[v] w fun e w' => ∃ c' : VC, e = .returned c'.val ∧ Below w.heap.size w w' ∧ IsA w' (fun b => w.heap.size ≤ b) c' (.mk 4 0 [] l []) := by
  obtain ⟨la, lc, rfl, hlc, hlm⟩ := hv.form
  unfold maxLen at hlm
  obtain ⟨i25, hi25, hz25, hs25, hb25⟩ := info_parts info25
  have IHL := Lib.hid (fun x (hx : x ∈ l) c w h => rcopyValue_any _ x (Nat.le_refl _) (hs x hx) c w h)
  have hw0 : Below w.heap.size w ((w.alloc (.cells #[.int .i64 0, .int .i64 0, .string ⟨#[]⟩, .slice none 0 0, .slice none 0 0] 26)).alloc (.cells #[.int .i64 4, .int .i64 0, .string ⟨#[]⟩, .slice none 0 0, .slice none 0 0] 26)) := ((Below.refl _ _).alloc (Nat.le_refl _) _).alloc (by simp) _
  have oR : Own ((w.alloc (.cells #[.int .i64 0, .int .i64 0, .string ⟨#[]⟩, .slice none 0 0, .slice none 0 0] 26)).alloc (.cells #[.int .i64 4, .int .i64 0, .string ⟨#[]⟩, .slice none 0 0, .slice none 0 0] 26)) w.heap.size [.int .i64 0, .int .i64 0, .string ⟨#[]⟩, .slice none 0 0, .slice none 0 0] 26 := (Own.new _ _ _).alloc _
  have oO : Own ((w.alloc (.cells #[.int .i64 0, .int .i64 0, .string ⟨#[]⟩, .slice none 0 0, .slice none 0 0] 26)).alloc (.cells #[.int .i64 4, .int .i64 0, .string ⟨#[]⟩, .slice none 0 0, .slice none 0 0] 26)) (w.heap.size + 1) [.int .i64 4, .int .i64 0, .string ⟨#[]⟩, .slice none 0 0, .slice none 0 0] 26 := Own.new_at (by rw [size_alloc]) _ _
  have hs0 : ((w.alloc (.cells #[.int .i64 0, .int .i64 0, .string ⟨#[]⟩, .slice none 0 0, .slice none 0 0] 26)).alloc (.cells #[.int .i64 4, .int .i64 0, .string ⟨#[]⟩, .slice none 0 0, .slice none 0 0] 26)).heap.size = w.heap.size + 2 := by rw [size_alloc, size_alloc]
  clear hs
  go_enter Tryd.func14, Tryd.ntmps14
  go_wp2
  generalize ((w.alloc (.cells #[.int .i64 0, .int .i64 0, .string ⟨#[]⟩, .slice none 0 0, .slice none 0 0] 26)).alloc (.cells #[.int .i64 4, .int .i64 0, .string ⟨#[]⟩, .slice none 0 0, .slice none 0 0] 26)) = W at *
  have HW := Lib.hid hw0
  clear hw0
  have R4 := Lib.hid (And.intro oR oO)
  clear oR oO
  go_loopg [4] l.length (fun g i wr => ∃ (q : Nat) (kv : Value) (cs : List VC), q ≤ l.length ∧ g = l.length - q ∧ i = .int .i64 q ∧ But (w.heap.size + 1) W wr ∧ Own wr (w.heap.size + 1) [.int .i64 4, .int .i64 0, .string ⟨#[]⟩, kv, .slice none 0 0] 26 ∧ wr.ownsRow W.heap.size 26 5 kv q (cs.flatMap VC.cells) ∧ AccV W.heap.size kv wr cs (l.take q))
  case atStart => exact ⟨0, .slice none 0 0, [], Nat.zero_le _, rfl, rfl, But.refl _ _, R4.out.2, own_nil _ _ _ _, AccV.nil _ _ _⟩
  case round =>
    obtain ⟨q, kv, cs, hq, hg, rfl, hbt, oO, hrow, hA⟩ := hrel
    have HG := Lib.hid hg
    clear hg
    obtain ⟨la2, ln2, lc2, rfl⟩ := AccV.form hrow
    have oR := Own.but R4.out.1 hbt (by omega)
    have hszr := hbt.size
    have hbw : Below w.heap.size w wr := hbt.below HW.out (by omega) HW.out.size
    by_cases hlt : q < l.length
    case neg =>
      obtain rfl : q = l.length := by omega
      rw [List.take_length] at hA
      obtain ⟨csL, l1, l2, l3⟩ := hA.flatA hrow
      have hfin : IsA (((((wr.setCell ⟨w.heap.size, 0, none⟩ (.int .i64 4)).setCell ⟨w.heap.size, 1, none⟩ (.int .i64 0)).setCell ⟨w.heap.size, 2, none⟩ (.string ⟨#[]⟩)).setCell ⟨w.heap.size, 3, none⟩ (.slice la2 ln2 lc2)).setCell ⟨w.heap.size, 4, none⟩ (.slice none 0 0)) (fun b => w.heap.size + 2 ≤ b) ⟨4, 0, [], la2, ln2, lc2, none, 0, 0⟩ (.mk 4 0 [] l []) :=
        .mk (c := ⟨4, 0, [], la2, ln2, lc2, none, 0, 0⟩) csL [] l1 ((((((l2.up (fun b hb => by omega)).set (b := w.heap.size) (by omega) 0 (.int .i64 4)).set (b := w.heap.size) (by omega) 1 (.int .i64 0)).set (b := w.heap.size) (by omega) 2 (.string ⟨#[]⟩)).set (b := w.heap.size) (by omega) 3 (.slice la2 ln2 lc2)).set (b := w.heap.size) (by omega) 4 (.slice none 0 0)) (fun i c t hc ht => (((((((l3 i c t hc ht).mono (fun b hb => by omega)).set (b := w.heap.size) (by omega) 0 (.int .i64 4)).set (b := w.heap.size) (by omega) 1 (.int .i64 0)).set (b := w.heap.size) (by omega) 2 (.string ⟨#[]⟩)).set (b := w.heap.size) (by omega) 3 (.slice la2 ln2 lc2)).set (b := w.heap.size) (by omega) 4 (.slice none 0 0))) rfl (FlatA.nil _ _ _) (fun i x t h => by simp at h) (fun i x t h => by simp at h)
      have b0 := oO.cell (i := 0) rfl
      have r0 := oR.cell (i := 0) rfl
      have g0 := oR.frozen 0
      have b1 := oO.cell (i := 1) rfl
      have r1 := oR.cell (i := 1) rfl
      have g1 := oR.frozen 1
      have b2 := oO.cell (i := 2) rfl
      have r2 := oR.cell (i := 2) rfl
      have g2 := oR.frozen 2
      have b3 := oO.cell (i := 3) rfl
      have r3 := oR.cell (i := 3) rfl
      have g3 := oR.frozen 3
      have b4 := oO.cell (i := 4) rfl
      have r4 := oR.cell (i := 4) rfl
      have g4 := oR.frozen 4
      have HS := Lib.hid (And.intro (((((oR.set 0 (.int .i64 4)).set 1 (.int .i64 0)).set 2 (.string ⟨#[]⟩)).set 3 (.slice la2 ln2 lc2)).set 4 (.slice none 0 0)) (And.intro (below_set (below_set (below_set (below_set (below_set hbw (Nat.le_refl w.heap.size) (i := 0) (.int .i64 4)) (Nat.le_refl w.heap.size) (i := 1) (.int .i64 0)) (Nat.le_refl w.heap.size) (i := 2) (.string ⟨#[]⟩)) (Nat.le_refl w.heap.size) (i := 3) (.slice la2 ln2 lc2)) (Nat.le_refl w.heap.size) (i := 4) (.slice none 0 0)) (hfin.mono (A' := fun b => w.heap.size ≤ b) (fun b hb => by omega))))
      clear hfin l1 l2 l3 oO oR hbw hbt hrow hA
      go_wp2
      clear b0 b1 b2 b3 b4 r0 r1 r2 r3 r4 g0 g1 g2 g3 g4
      change bodyPost Tryd.prog Tryd.f14 _ _ _ (((((wr.setCell ⟨w.heap.size, 0, none⟩ (.int .i64 4)).setCell ⟨w.heap.size, 1, none⟩ (.int .i64 0)).setCell ⟨w.heap.size, 2, none⟩ (.string ⟨#[]⟩)).setCell ⟨w.heap.size, 3, none⟩ (.slice la2 ln2 lc2)).setCell ⟨w.heap.size, 4, none⟩ (.slice none 0 0))
      generalize (((((wr.setCell ⟨w.heap.size, 0, none⟩ (.int .i64 4)).setCell ⟨w.heap.size, 1, none⟩ (.int .i64 0)).setCell ⟨w.heap.size, 2, none⟩ (.string ⟨#[]⟩)).setCell ⟨w.heap.size, 3, none⟩ (.slice la2 ln2 lc2)).setCell ⟨w.heap.size, 4, none⟩ (.slice none 0 0)) = U at *
      obtain ⟨oS, hbS, hIS⟩ := HS.out
      have c0 : U.cell? ⟨w.heap.size, 0, none⟩ = some (.int .i64 4) := oS.cell rfl
      have c1 : U.cell? ⟨w.heap.size, 1, none⟩ = some (.int .i64 0) := oS.cell rfl
      have c2 : U.cell? ⟨w.heap.size, 2, none⟩ = some (.string ⟨#[]⟩) := oS.cell rfl
      have c3 : U.cell? ⟨w.heap.size, 3, none⟩ = some (.slice la2 ln2 lc2) := oS.cell rfl
      have c4 : U.cell? ⟨w.heap.size, 4, none⟩ = some (.slice none 0 0) := oS.cell rfl
      exact bodyPost_ret (v := .agg #[.int .i64 4, .int .i64 0, .string ⟨#[]⟩, .slice la2 ln2 lc2, .slice none 0 0]) (by simp [results, Tryd.results14, go_sem, c0, c1, c2, c3, c4]) rfl ⟨⟨4, 0, [], la2, ln2, lc2, none, 0, 0⟩, rfl, hbS, hIS⟩
    have hx := List.getElem?_eq_getElem hlt
    generalize l[q] = x at hx
    obtain ⟨b, off, c, hao, hbl, hIx, q0, q1, q2, q3, q4⟩ := hv.at hbw hx
    subst hao
    have hmem := List.mem_of_getElem? hx
    have kk := oO.cell (i := 3) rfl
    have HX := Lib.hid (And.intro hx hmem)
    clear hx hmem
    go_upto_region 5 with (fail)
    have kkg := cell_regrown kk
    have q0g := cell_regrown q0
    have q1g := cell_regrown q1
    have q2g := cell_regrown q2
    have q3g := cell_regrown q3
    have q4g := cell_regrown q4
    clear kk q0 q1 q2 q3 q4
    refine wp_region_multi 8 (fun i => i == 6 || i == 7) (fun i xs u w' => (i = 6 → ∃ c' : VC, u = c'.val ∧ IsA w' (fun b => wr.heap.size ≤ b) c' x) ∧ (i = 7 → ∃ (c2 : VC) (b : Nat), xs = [c2.val] ∧ u = .slice (some ⟨b, 0, none⟩) 1 1 ∧ wr.heap.size ≤ b ∧ Own w' b (VC.cells c2) 26))
      (fun i u => (i = 6 → ∃ c' : VC, u = c'.val) ∧ (i = 7 → ∃ b, u = .slice (some ⟨b, 0, none⟩) 1 1)) (by kernel_rfl) (by kernel_rfl)
      (fun i xs u w1 w2 h hb => ⟨fun e => by obtain ⟨c', a1, a2⟩ := h.1 e; exact ⟨c', a1, a2.all hb⟩, fun e => by obtain ⟨c2, b, a1, a2, a3, a4⟩ := h.2 e; exact ⟨c2, b, a1, a2, a3, a4.all hb⟩⟩)
      (fun i => by
        by_cases e : i = 6
        · exact ⟨VC0.val, fun _ => ⟨VC0, rfl⟩, fun e' => by omega⟩
        · exact ⟨.slice (some ⟨0, 0, none⟩) 1 1, fun e' => absurd e' e, fun _ => ⟨0, rfl⟩⟩) ?_
    simp only [List.take_succ_cons, List.take_zero, List.drop_succ_cons, List.drop_zero]
    refine wpM_stretch 6 rfl rfl rfl rfl ?_
    simp only [List.take_succ_cons, List.take_zero, List.drop_succ_cons, List.drop_zero]
    repeat (first | go_big_quiet_step (fail) | quiet_step (fail))
    refine wpQuiet_nil ?_
    refine wpM_dem rfl rfl rfl ?_ ?_
    · rintro _ ⟨pp, rfl⟩
      go_simp
      simp only [demUpon]
      refine ⟨trivial, (IHL.out x HX.out.2 c _ (hIx.all (below_regrown wr pp.d pp.os))).mono ?_⟩
      rintro e w2 ⟨c', rfl, hb2, hN⟩
      have hsz := (below_regrown wr pp.d pp.os).size
      exact ⟨_, rfl, ⟨c', rfl⟩, hb2, c', rfl, hN.mono (fun b hb => by omega)⟩
    · rintro u hu
      obtain ⟨c', rfl⟩ := hu.1 rfl
      clear hu
      refine wpM_dem rfl rfl rfl ?_ ?_
      · rintro _ ⟨pp, rfl⟩
        have hsz := (below_regrown wr pp.d pp.os).size
        go_simp
        simp only [demUpon]
        exact ⟨⟨_, rfl⟩, below_alloc _ _, c', rfl, _, rfl, by first | omega | (simp [redrawn]; done) | (simp [redrawn, grow]; omega), Own.new_at (by simp [grow]) _ _⟩
      · rintro u hu
        obtain ⟨b8, rfl⟩ := hu.2 rfl
        clear hu
        refine wpM_end ?_
        rintro U hbU ⟨⟨-, hV7⟩, hV8⟩
        obtain ⟨c2, he2, hN⟩ := hV7.1 (by first | rfl | trivial)
        obtain ⟨c3, b', hx3, hu3, hlo, oS⟩ := hV8.2 (by first | rfl | trivial)
        obtain rfl := VC.val_inj he2
        have hx4 : ([c'.val] : List Value) = [c3.val] := hx3
        obtain rfl : c' = c3 := VC.val_inj (by simpa using hx4)
        obtain rfl : b8 = b' := by simpa using hu3
        clear hV7 hV8 he2 hx3 hx4 hu3
        have hUs := hbU.size
        have hrowU := own_below hrow hbU
        have hAU := hA.below hbU
        have oOU := oO.all hbU
        have hbtU := hbt.all hbU
        have hrl := own_row hrow
        have hrlt : ∀ k, (Value.slice la2 ln2 lc2).ownBlock = some k → k < wr.heap.size := fun k h => (hrow.lt k h).2
        have hAN := hAU.snoc (c := c') (t := x) (hN.mono (fun b hb => ⟨by omega, fun e => by have := hrlt b e; omega⟩))
        have hl1 : ((l.take q) ++ [x]) = l.take (q + 1) := (take_snoc HX.out.1).symm
        rw [hl1] at hAN
        have HAN := Lib.hid hAN
        clear hAN hl1 hAU hA hrow oO hbt hN q0g q1g q2g q3g q4g kkg hIx
        go_wp2_with (at_builtin; refine wpList_append_lies _ rfl (.tmp 13) (.tmp 19) 23 rfl W.heap.size 26 i25 (.agg #[.int .i64 0, .int .i64 0, .string ⟨#[]⟩, .slice none 0 0, .slice none 0 0]) 5 80 Tryd.underlying23 hi25 hz25 hs25 hb25 rfl (by decide) _ _ _ rfl hrowU ⟨b8, 0, none⟩ 1 1 (VC.cells c') rfl rfl (own_src oS) (five_one c') (by decide) (by unfold maxLen; omega) (by omega) (by omega) _ rfl ?_; intro gg gcap W5 hown5 hgrow5 hlies hglt; have o5 := own_kept' oOU hgrow5 (fun e => by have := hrl _ e; omega); have k5 := o5.cell (i := 3) rfl; have f5 := o5.frozen 3; have HH5 := Lib.hid (And.intro hown5 (And.intro hgrow5 (And.intro hlies o5))); clear hown5 hgrow5 hlies o5)
        obtain ⟨hown5, hgrow5, hlies, o5⟩ := HH5.out
        go_roundg (l.length - (q + 1))
        case measure => have := HG.out; omega
        case rel =>
          exact ⟨q + 1, .slice (some ⟨gg, 0, none⟩) (q + 1) gcap, cs ++ [c'], by omega, rfl, by go_num, (hbtU.grown hgrow5 (fun k h => hrl k h)).set _ _, o5.set 3 _, row_set (by rw [snocV]; exact hown5) (by omega) _ _, ((HAN.out.grow (n := q + 1) (cap := gcap) hgrow5 hlies).set (by omega) _ _)⟩
end Go.Proofs.YtjpmnlefjmdelaaDoor
