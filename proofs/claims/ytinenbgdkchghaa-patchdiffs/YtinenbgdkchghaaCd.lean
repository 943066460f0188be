/- The contract of the reference's Copy. -/
import Derived.Test.YtinenbgdkchghaaPdJ
import Derived.Test.YtinenbgdkchghaaCaJ
import Derived.Test.YtinenbgdkchghaaWpJ
import Derived.Deep.Cut
set_option linter.unusedSimpArgs false
set_option linter.unusedVariables false
namespace Go.Proofs.Ytinenbgdkchghaa
open Go.RowKit Go.Sort Go.Proofs.LawFrame

theorem aggF_inj {x : Str} {c d : VC} (h : ([.agg #[sV x, .int .i64 c.k, .int .i64 c.n, sV c.s, .slice c.la c.ln c.lc, .slice c.fa c.fn c.fc]] : List Value) = [.agg #[sV x, .int .i64 d.k, .int .i64 d.n, sV d.s, .slice d.la d.ln d.lc, .slice d.fa d.fn d.fc]]) : c = d := by
  obtain ⟨k, n, s, la, ln, lc, fa, fn, fc⟩ := c
  obtain ⟨k', n', s', la', ln', lc', fa', fn', fc'⟩ := d
  simp at h
  simp [h]
theorem FlatA.set {w : World} {A : Nat → Prop} {v : Value} {m : Nat} {xs : List Value} (h : FlatA w A v m xs) {b : Nat} (hb : ¬ A b) (i : Nat) (x : Value) : FlatA (w.setCell ⟨b, i, none⟩ x) A v m xs :=
  h.keep (Nat.le_of_eq (by unfold World.setCell; simp)) (fun _ h => h) (fun b' hA _ => Below.heap_setCell _ _ _ _ (by rintro rfl; exact hb hA))
theorem AccV.form {base : Nat} {p : Value} {w : World} {e : TypeId} {n : Nat} {xs : List Value} (ho : w.ownsRow base e 5 p n xs) : ∃ a m c, p = .slice a m c := by
  rcases ho.2 with ⟨rfl, -⟩ | ⟨g, cap, cur, rfl, -⟩
  · exact ⟨_, _, _, rfl⟩
  · exact ⟨_, _, _, rfl⟩
theorem AccF.form {base : Nat} {p : Value} {w : World} {e : TypeId} {n : Nat} {xs : List Value} (ho : w.ownsRow base e 6 p n xs) : ∃ a m c, p = .slice a m c := by
  rcases ho.2 with ⟨rfl, -⟩ | ⟨g, cap, cur, rfl, -⟩
  · exact ⟨_, _, _, rfl⟩
  · exact ⟨_, _, _, rfl⟩

set_option maxHeartbeats 16000000 in
set_option maxRecDepth 20000 in
set_option maxRecDepth 4000 in
theorem rcopyValue_any : ∀ (M : Nat) (t : T), SizeOf.sizeOf t ≤ M → t.size ≤ 4000 → ∀ (c : VC) (w : World), Is w c t →
    Calls Try.prog 35 #[c.val] w fun e w' => ∃ c' : VC, e = .returned c'.val ∧ Below w.heap.size w w' ∧ IsA w' (fun b => w.heap.size ≤ b) c' t := by
  intro M
  induction M with
  | zero => intro t h; cases t; simp at h
  | succ M ih =>
    rintro ⟨k0, n0, s0, l, f⟩ hM hsz ⟨k, n, s, la, ln, lc, fa, fn, fc⟩ w hI
    obtain ⟨h1, h2, h3⟩ := hI.same
    simp only at h1 h2 h3
    subst h1 h2 h3
    have hv := hI.vals
    have hf := hI.flds
    simp only at hv hf
    obtain ⟨hll, hfl⟩ := size_lens (M := 4000) hsz
    obtain ⟨hln, hlc, hlm⟩ := hv.slice
    obtain ⟨hfn, hfc, hfm⟩ := hf.slice
    subst hln hfn
    unfold maxLen at hlm hfm
    obtain ⟨i25, hi25, hz25, hs25, hb25⟩ := info_parts info25
    obtain ⟨i35, hi35, hz35, hs35, hb35⟩ := info_parts info35
    have IHL := Lib.hid (fun x (hx : x ∈ l) c w h => ih x (by have := sizeOf_l (k := k) (n := n) (s := s) (f := f) hx; omega) (by have := size_in_l (k := k) (n := n) (s := s) (f := f) hx; omega) c w h)
    have IHF := Lib.hid (fun p (hx : p ∈ f) c w h => ih p.2 (by have := sizeOf_f (k := k) (n := n) (s := s) (l := l) hx; omega) (by have := size_in_f (k := k) (n := n) (s := s) (l := l) hx; omega) c w h)
    have hw0 : Below w.heap.size w (((w.alloc (.cells #[.int .i64 k, .int .i64 n, sV s, .slice la l.length lc, .slice fa f.length fc] 25)).alloc (.cells #[.int .i64 0, .int .i64 0, .string ⟨#[]⟩, .slice none 0 0, .slice none 0 0] 25)).alloc (.cells #[.int .i64 k, .int .i64 n, sV s, .slice none 0 0, .slice none 0 0] 25)) := (((Below.refl _ _).alloc (Nat.le_refl _) _).alloc (by simp) _).alloc (by simp; omega) _
    have oB : Own (((w.alloc (.cells #[.int .i64 k, .int .i64 n, sV s, .slice la l.length lc, .slice fa f.length fc] 25)).alloc (.cells #[.int .i64 0, .int .i64 0, .string ⟨#[]⟩, .slice none 0 0, .slice none 0 0] 25)).alloc (.cells #[.int .i64 k, .int .i64 n, sV s, .slice none 0 0, .slice none 0 0] 25)) w.heap.size [.int .i64 k, .int .i64 n, sV s, .slice la l.length lc, .slice fa f.length fc] 25 := ((Own.new _ _ _).alloc _).alloc _
    have oR : Own (((w.alloc (.cells #[.int .i64 k, .int .i64 n, sV s, .slice la l.length lc, .slice fa f.length fc] 25)).alloc (.cells #[.int .i64 0, .int .i64 0, .string ⟨#[]⟩, .slice none 0 0, .slice none 0 0] 25)).alloc (.cells #[.int .i64 k, .int .i64 n, sV s, .slice none 0 0, .slice none 0 0] 25)) (w.heap.size + 1) [.int .i64 0, .int .i64 0, .string ⟨#[]⟩, .slice none 0 0, .slice none 0 0] 25 := (Own.new_at (by rw [size_alloc]) _ _).alloc _
    have oO : Own (((w.alloc (.cells #[.int .i64 k, .int .i64 n, sV s, .slice la l.length lc, .slice fa f.length fc] 25)).alloc (.cells #[.int .i64 0, .int .i64 0, .string ⟨#[]⟩, .slice none 0 0, .slice none 0 0] 25)).alloc (.cells #[.int .i64 k, .int .i64 n, sV s, .slice none 0 0, .slice none 0 0] 25)) (w.heap.size + 1 + 1) [.int .i64 k, .int .i64 n, sV s, .slice none 0 0, .slice none 0 0] 25 := Own.new_at (by rw [size_alloc, size_alloc]) _ _
    have hs0 : (((w.alloc (.cells #[.int .i64 k, .int .i64 n, sV s, .slice la l.length lc, .slice fa f.length fc] 25)).alloc (.cells #[.int .i64 0, .int .i64 0, .string ⟨#[]⟩, .slice none 0 0, .slice none 0 0] 25)).alloc (.cells #[.int .i64 k, .int .i64 n, sV s, .slice none 0 0, .slice none 0 0] 25)).heap.size = w.heap.size + 3 := by rw [size_alloc, size_alloc, size_alloc]
    clear ih hM hsz
    go_enter Try.func35, Try.ntmps35
    go_wp2
    generalize (((w.alloc (.cells #[.int .i64 k, .int .i64 n, sV s, .slice la l.length lc, .slice fa f.length fc] 25)).alloc (.cells #[.int .i64 0, .int .i64 0, .string ⟨#[]⟩, .slice none 0 0, .slice none 0 0] 25)).alloc (.cells #[.int .i64 k, .int .i64 n, sV s, .slice none 0 0, .slice none 0 0] 25)) = W at *
    have HW := Lib.hid hw0
    clear hw0
    have R4 := Lib.hid (And.intro oB (And.intro oR oO))
    clear oB oR oO
    go_loopg [4] l.length (fun g i wr => ∃ (q : Nat) (kv : Value) (cs : List VC), q ≤ l.length ∧ g = l.length - q ∧ i = .int .i64 q ∧ But (w.heap.size + 1 + 1) W wr ∧ Own wr (w.heap.size + 1 + 1) [.int .i64 k, .int .i64 n, sV s, kv, .slice none 0 0] 25 ∧ wr.ownsRow W.heap.size 25 5 kv q (cs.flatMap VC.cells) ∧ AccV W.heap.size kv wr cs (l.take q))
    case atStart => exact ⟨0, .slice none 0 0, [], Nat.zero_le _, rfl, rfl, But.refl _ _, R4.out.2.2, own_nil _ _ _ _, AccV.nil _ _ _⟩
    case round =>
      obtain ⟨q, kv, cs, hq, hg, rfl, hbt, oO, hrow, hA⟩ := hrel
      have HG := Lib.hid hg
      clear hg
      obtain ⟨la2, ln2, lc2, rfl⟩ := AccV.form hrow
      have oB := Own.but R4.out.1 hbt (by omega)
      have oR := Own.but R4.out.2.1 hbt (by omega)
      have hszr := hbt.size
      have hbw : Below w.heap.size w wr := hbt.below HW.out (by omega) HW.out.size
      have bb := oB.cell (i := 3) rfl
      by_cases hlt : q < l.length
      case neg =>
        obtain rfl : q = l.length := by omega
        rw [List.take_length] at hA
        have HL := Lib.hid (hA.flatA hrow)
        have HO3 := Lib.hid (And.intro oB (And.intro oR oO))
        have HW2 := Lib.hid hbw
        clear hA hrow oB oR oO hbt HG
        go_wp2
        clear bb
        generalize wr = W2 at *
        obtain ⟨oB, oR, oO⟩ := HO3.out
        clear HO3 hbw
        have R5 := Lib.hid (And.intro oB (And.intro oR oO))
        clear oB oR oO
        go_loopg [5] f.length (fun g i wr => ∃ (q : Nat) (kv : Value) (cs : List FC), q ≤ f.length ∧ g = f.length - q ∧ i = .int .i64 q ∧ But (w.heap.size + 1 + 1) W2 wr ∧ Own wr (w.heap.size + 1 + 1) [.int .i64 k, .int .i64 n, sV s, .slice la2 ln2 lc2, kv] 25 ∧ wr.ownsRow W2.heap.size 33 6 kv q (cs.flatMap FC.cells) ∧ AccF W2.heap.size kv wr cs (f.take q))
        case atStart => exact ⟨0, .slice none 0 0, [], Nat.zero_le _, rfl, rfl, But.refl _ _, R5.out.2.2, own_nil _ _ _ _, AccF.nil _ _ _⟩
        case round =>
          obtain ⟨q, kv, cs, hq, hg, rfl, hbt, oO, hrow, hA⟩ := hrel
          have HG := Lib.hid hg
          clear hg
          obtain ⟨fa2, fn2, fc2, rfl⟩ := AccF.form hrow
          have oB := Own.but R5.out.1 hbt (by omega)
          have oR := Own.but R5.out.2.1 hbt (by omega)
          have hszr := hbt.size
          have hbw : Below w.heap.size w wr := hbt.below HW2.out (by omega) HW2.out.size
          have bb := oB.cell (i := 4) rfl
          by_cases hlt : q < f.length
          case neg =>
            obtain rfl : q = f.length := by omega
            rw [List.take_length] at hA
            obtain ⟨csL, l1, l2, l3⟩ := HL.out
            obtain ⟨csF, f1, f2, f3, f4⟩ := hA.flatA hrow
            have hfin : IsA (((((wr.setCell ⟨w.heap.size + 1, 0, none⟩ (.int .i64 k)).setCell ⟨w.heap.size + 1, 1, none⟩ (.int .i64 n)).setCell ⟨w.heap.size + 1, 2, none⟩ (sV s)).setCell ⟨w.heap.size + 1, 3, none⟩ (.slice la2 ln2 lc2)).setCell ⟨w.heap.size + 1, 4, none⟩ (.slice fa2 fn2 fc2)) (fun b => w.heap.size + 3 ≤ b) ⟨k, n, s, la2, ln2, lc2, fa2, fn2, fc2⟩ (.mk k n s l f) :=
              .mk (c := ⟨k, n, s, la2, ln2, lc2, fa2, fn2, fc2⟩) csL csF l1 (((((((l2.up (fun b hb => by omega)).but hbt (by omega)).set (b := w.heap.size + 1) (by omega) 0 (.int .i64 k)).set (b := w.heap.size + 1) (by omega) 1 (.int .i64 n)).set (b := w.heap.size + 1) (by omega) 2 (sV s)).set (b := w.heap.size + 1) (by omega) 3 (.slice la2 ln2 lc2)).set (b := w.heap.size + 1) (by omega) 4 (.slice fa2 fn2 fc2)) (fun i c t hc ht => ((((((((l3 i c t hc ht).mono (fun b hb => by omega)).but hbt (by omega)).set (b := w.heap.size + 1) (by omega) 0 (.int .i64 k)).set (b := w.heap.size + 1) (by omega) 1 (.int .i64 n)).set (b := w.heap.size + 1) (by omega) 2 (sV s)).set (b := w.heap.size + 1) (by omega) 3 (.slice la2 ln2 lc2)).set (b := w.heap.size + 1) (by omega) 4 (.slice fa2 fn2 fc2))) f1 ((((((f2.up (fun b hb => by omega)).set (b := w.heap.size + 1) (by omega) 0 (.int .i64 k)).set (b := w.heap.size + 1) (by omega) 1 (.int .i64 n)).set (b := w.heap.size + 1) (by omega) 2 (sV s)).set (b := w.heap.size + 1) (by omega) 3 (.slice la2 ln2 lc2)).set (b := w.heap.size + 1) (by omega) 4 (.slice fa2 fn2 fc2)) f3 (fun i c t hc ht => (((((((f4 i c t hc ht).mono (fun b hb => by omega)).set (b := w.heap.size + 1) (by omega) 0 (.int .i64 k)).set (b := w.heap.size + 1) (by omega) 1 (.int .i64 n)).set (b := w.heap.size + 1) (by omega) 2 (sV s)).set (b := w.heap.size + 1) (by omega) 3 (.slice la2 ln2 lc2)).set (b := w.heap.size + 1) (by omega) 4 (.slice fa2 fn2 fc2)))
            have b0 := oO.cell (i := 0) rfl
            have b1 := oO.cell (i := 1) rfl
            have b2 := oO.cell (i := 2) rfl
            have b3 := oO.cell (i := 3) rfl
            have b4 := oO.cell (i := 4) rfl
            have r0 := oR.cell (i := 0) rfl
            have r1 := oR.cell (i := 1) rfl
            have r2 := oR.cell (i := 2) rfl
            have r3 := oR.cell (i := 3) rfl
            have r4 := oR.cell (i := 4) rfl
            have g0 := oR.frozen 0
            have g1 := oR.frozen 1
            have g2 := oR.frozen 2
            have g3 := oR.frozen 3
            have g4 := oR.frozen 4
            have HS := Lib.hid (And.intro (((((oR.set 0 (.int .i64 k)).set 1 (.int .i64 n)).set 2 (sV s)).set 3 (.slice la2 ln2 lc2)).set 4 (.slice fa2 fn2 fc2)) (And.intro (below_set (below_set (below_set (below_set (below_set hbw (by omega : w.heap.size ≤ w.heap.size + 1) (i := 0) (.int .i64 k)) (by omega : w.heap.size ≤ w.heap.size + 1) (i := 1) (.int .i64 n)) (by omega : w.heap.size ≤ w.heap.size + 1) (i := 2) (sV s)) (by omega : w.heap.size ≤ w.heap.size + 1) (i := 3) (.slice la2 ln2 lc2)) (by omega : w.heap.size ≤ w.heap.size + 1) (i := 4) (.slice fa2 fn2 fc2)) (hfin.mono (A' := fun b => w.heap.size ≤ b) (fun b hb => by omega))))
            clear hfin l1 l2 l3 f1 f2 f3 f4 oB oO oR hbw hbt hrow hA HL
            go_wp2
            clear b0 b1 b2 b3 b4 r0 r1 r2 r3 r4 g0 g1 g2 g3 g4
            change bodyPost Try.prog Try.f35 _ _ _ (((((wr.setCell ⟨w.heap.size + 1, 0, none⟩ (.int .i64 k)).setCell ⟨w.heap.size + 1, 1, none⟩ (.int .i64 n)).setCell ⟨w.heap.size + 1, 2, none⟩ (sV s)).setCell ⟨w.heap.size + 1, 3, none⟩ (.slice la2 ln2 lc2)).setCell ⟨w.heap.size + 1, 4, none⟩ (.slice fa2 fn2 fc2))
            generalize (((((wr.setCell ⟨w.heap.size + 1, 0, none⟩ (.int .i64 k)).setCell ⟨w.heap.size + 1, 1, none⟩ (.int .i64 n)).setCell ⟨w.heap.size + 1, 2, none⟩ (sV s)).setCell ⟨w.heap.size + 1, 3, none⟩ (.slice la2 ln2 lc2)).setCell ⟨w.heap.size + 1, 4, none⟩ (.slice fa2 fn2 fc2)) = U at *
            obtain ⟨oS, hbS, hIS⟩ := HS.out
            have c0 : U.cell? ⟨w.heap.size + 1, 0, none⟩ = some (.int .i64 k) := oS.cell rfl
            have c1 : U.cell? ⟨w.heap.size + 1, 1, none⟩ = some (.int .i64 n) := oS.cell rfl
            have c2 : U.cell? ⟨w.heap.size + 1, 2, none⟩ = some (sV s) := oS.cell rfl
            have c3 : U.cell? ⟨w.heap.size + 1, 3, none⟩ = some (.slice la2 ln2 lc2) := oS.cell rfl
            have c4 : U.cell? ⟨w.heap.size + 1, 4, none⟩ = some (.slice fa2 fn2 fc2) := oS.cell rfl
            exact bodyPost_ret (v := .agg #[.int .i64 k, .int .i64 n, sV s, .slice la2 ln2 lc2, .slice fa2 fn2 fc2]) (by simp [results, Try.results35, go_sem, c0, c1, c2, c3, c4]) rfl ⟨⟨k, n, s, la2, ln2, lc2, fa2, fn2, fc2⟩, rfl, hbS, hIS⟩
          have hx := List.getElem?_eq_getElem hlt
          generalize f[q] = x at hx
          obtain ⟨b, off, c, hao, hbl, hIx, q5, q0, q1, q2, q3, q4⟩ := hf.at hbw hx
          subst hao
          have hmem := List.mem_of_getElem? hx
          have kk := oO.cell (i := 4) rfl
          have HX := Lib.hid (And.intro hx hmem)
          clear hx hmem
          go_upto_region 9 with (fail)
          have bbg := cell_regrown bb
          have kkg := cell_regrown kk
          have q0g := cell_regrown q0
          have q1g := cell_regrown q1
          have q2g := cell_regrown q2
          have q3g := cell_regrown q3
          have q4g := cell_regrown q4
          have q5g := cell_regrown q5
          clear bb kk q0 q1 q2 q3 q4 q5
          refine wp_region_multi 17 (fun i => i == 14 || i == 16) (fun i xs u w' => (i = 14 → ∃ c' : VC, u = c'.val ∧ IsA w' (fun b => wr.heap.size ≤ b) c' x.2) ∧ (i = 16 → ∃ (c2 : VC) (b : Nat), xs = [.agg #[sV x.1, .int .i64 c2.k, .int .i64 c2.n, sV c2.s, .slice c2.la c2.ln c2.lc, .slice c2.fa c2.fn c2.fc]] ∧ u = .slice (some ⟨b, 0, none⟩) 1 1 ∧ wr.heap.size ≤ b ∧ Own w' b (FC.cells ⟨x.1, c2⟩) 33))
            (fun i u => (i = 14 → ∃ c' : VC, u = c'.val) ∧ (i = 16 → ∃ b, u = .slice (some ⟨b, 0, none⟩) 1 1)) (by kernel_rfl) (by kernel_rfl)
            (fun i xs u w1 w2 h hb => ⟨fun e => by obtain ⟨c', a1, a2⟩ := h.1 e; exact ⟨c', a1, a2.all hb⟩, fun e => by obtain ⟨c2, b, a1, a2, a3, a4⟩ := h.2 e; exact ⟨c2, b, a1, a2, a3, a4.all hb⟩⟩)
            (fun i => by
              by_cases e : i = 14
              · exact ⟨VC0.val, fun _ => ⟨VC0, rfl⟩, fun e' => by omega⟩
              · exact ⟨.slice (some ⟨0, 0, none⟩) 1 1, fun e' => absurd e' e, fun _ => ⟨0, rfl⟩⟩) ?_
          simp only [List.take_succ_cons, List.take_zero, List.drop_succ_cons, List.drop_zero]
          refine wpM_stretch 14 rfl rfl rfl rfl ?_
          simp only [List.take_succ_cons, List.take_zero, List.drop_succ_cons, List.drop_zero]
          repeat (first | go_big_quiet_step (fail) | quiet_step (fail))
          refine wpQuiet_nil ?_
          refine wpM_dem rfl rfl rfl ?_ ?_
          · rintro _ ⟨pp, rfl⟩
            go_simp
            simp only [demUpon]
            refine ⟨trivial, (IHF.out x HX.out.2 c _ (hIx.all (below_regrown wr pp.d pp.os))).mono ?_⟩
            rintro e w2 ⟨c', rfl, hb2, hN⟩
            have hsz := (below_regrown wr pp.d pp.os).size
            exact ⟨_, rfl, ⟨c', rfl⟩, hb2, c', rfl, hN.mono (fun b hb => by omega)⟩
          · rintro u hu
            obtain ⟨c', rfl⟩ := hu.1 rfl
            clear hu
            refine wpM_stretch 1 rfl rfl rfl rfl ?_
            simp only [List.take_succ_cons, List.take_zero, List.drop_succ_cons, List.drop_zero]
            repeat (first | go_big_quiet_step (fail) | quiet_step (fail))
            refine wpQuiet_nil ?_
            refine wpM_dem rfl rfl rfl ?_ ?_
            · rintro _ ⟨pp, rfl⟩
              have hsz := (below_regrown wr pp.d pp.os).size
              go_simp
              simp only [demUpon]
              exact ⟨⟨_, rfl⟩, below_alloc _ _, c', rfl, _, rfl, by first | omega | (simp [redrawn]; done) | (simp [redrawn, grow]; omega), Own.new_at (by simp [grow]) _ _⟩
            · rintro u hu
              obtain ⟨b8, rfl⟩ := hu.2 rfl
              clear hu
              refine wpM_end ?_
              rintro U hbU ⟨⟨-, hV7⟩, hV8⟩
              obtain ⟨c2, he2, hN⟩ := hV7.1 (by first | rfl | trivial)
              obtain ⟨c3, b', hx3, hu3, hlo, oS⟩ := hV8.2 (by first | rfl | trivial)
              obtain rfl := VC.val_inj he2
              have hx4 : ([.agg #[sV x.1, .int .i64 c'.k, .int .i64 c'.n, sV c'.s, .slice c'.la c'.ln c'.lc, .slice c'.fa c'.fn c'.fc]] : List Value) = [.agg #[sV x.1, .int .i64 c3.k, .int .i64 c3.n, sV c3.s, .slice c3.la c3.ln c3.lc, .slice c3.fa c3.fn c3.fc]] := hx3
              obtain rfl : c' = c3 := aggF_inj hx4
              obtain rfl : b8 = b' := by simpa using hu3
              clear hV7 hV8 he2 hx3 hx4 hu3
              have hUs := hbU.size
              have hrowU := own_below hrow hbU
              have hAU := hA.below hbU
              have oOU := oO.all hbU
              have hbtU := hbt.all hbU
              have hrl := own_row hrow
              have hrlt : ∀ k, (Value.slice fa2 fn2 fc2).ownBlock = some k → k < wr.heap.size := fun k h => (hrow.lt k h).2
              have hAN := hAU.snoc (c := ⟨x.1, c'⟩) (t := x) (⟨rfl, hN.mono (fun b hb => ⟨by omega, fun e => by have := hrlt b e; omega⟩)⟩)
              have hl1 : ((f.take q) ++ [x]) = f.take (q + 1) := (take_snoc HX.out.1).symm
              rw [hl1] at hAN
              have HAN := Lib.hid hAN
              clear hAN hl1 hAU hA hrow oO hbt hN q0g q1g q2g q3g q4g q5g bbg kkg hIx
              go_wp2_with (at_builtin; refine wpList_append_lies _ rfl (.tmp 39) (.tmp 54) 23 rfl W2.heap.size 33 i35 (.agg #[.string ⟨#[]⟩, .int .i64 0, .int .i64 0, .string ⟨#[]⟩, .slice none 0 0, .slice none 0 0]) 6 96 Try.underlying23 hi35 hz35 hs35 hb35 rfl (by decide) _ _ _ rfl hrowU ⟨b8, 0, none⟩ 1 1 (FC.cells ⟨x.1, c'⟩) rfl rfl (own_src oS) (six_one' ⟨x.1, c'⟩) (by decide) (by unfold maxLen; omega) (by omega) (by omega) _ rfl ?_; intro gg gcap W5 hown5 hgrow5 hlies hglt; have o5 := own_kept' oOU hgrow5 (fun e => by have := hrl _ e; omega); have k5 := o5.cell (i := 4) rfl; have f5 := o5.frozen 4; have HH5 := Lib.hid (And.intro hown5 (And.intro hgrow5 (And.intro hlies o5))); clear hown5 hgrow5 hlies o5)
              obtain ⟨hown5, hgrow5, hlies, o5⟩ := HH5.out
              go_roundg (f.length - (q + 1))
              case measure => have := HG.out; omega
              case rel =>
                exact ⟨q + 1, .slice (some ⟨gg, 0, none⟩) (q + 1) gcap, cs ++ [⟨x.1, c'⟩], by omega, rfl, by go_num, (hbtU.grown hgrow5 (fun k h => hrl k h)).set _ _, o5.set 4 _, row_set (by rw [snocF]; exact hown5) (by omega) _ _, ((HAN.out.grow (n := q + 1) (cap := gcap) hgrow5 hlies).set (by omega) _ _)⟩
      have hx := List.getElem?_eq_getElem hlt
      generalize l[q] = x at hx
      obtain ⟨b, off, c, hao, hbl, hIx, q0, q1, q2, q3, q4⟩ := hv.at hbw hx
      subst hao
      have hmem := List.mem_of_getElem? hx
      have kk := oO.cell (i := 3) rfl
      have HX := Lib.hid (And.intro hx hmem)
      clear hx hmem
      go_upto_region 5 with (fail)
      have bbg := cell_regrown bb
      have kkg := cell_regrown kk
      have q0g := cell_regrown q0
      have q1g := cell_regrown q1
      have q2g := cell_regrown q2
      have q3g := cell_regrown q3
      have q4g := cell_regrown q4
      clear bb kk q0 q1 q2 q3 q4
      refine wp_region_multi 9 (fun i => i == 7 || i == 8) (fun i xs u w' => (i = 7 → ∃ c' : VC, u = c'.val ∧ IsA w' (fun b => wr.heap.size ≤ b) c' x) ∧ (i = 8 → ∃ (c2 : VC) (b : Nat), xs = [c2.val] ∧ u = .slice (some ⟨b, 0, none⟩) 1 1 ∧ wr.heap.size ≤ b ∧ Own w' b (VC.cells c2) 25))
        (fun i u => (i = 7 → ∃ c' : VC, u = c'.val) ∧ (i = 8 → ∃ b, u = .slice (some ⟨b, 0, none⟩) 1 1)) (by kernel_rfl) (by kernel_rfl)
        (fun i xs u w1 w2 h hb => ⟨fun e => by obtain ⟨c', a1, a2⟩ := h.1 e; exact ⟨c', a1, a2.all hb⟩, fun e => by obtain ⟨c2, b, a1, a2, a3, a4⟩ := h.2 e; exact ⟨c2, b, a1, a2, a3, a4.all hb⟩⟩)
        (fun i => by
          by_cases e : i = 7
          · exact ⟨VC0.val, fun _ => ⟨VC0, rfl⟩, fun e' => by omega⟩
          · exact ⟨.slice (some ⟨0, 0, none⟩) 1 1, fun e' => absurd e' e, fun _ => ⟨0, rfl⟩⟩) ?_
      simp only [List.take_succ_cons, List.take_zero, List.drop_succ_cons, List.drop_zero]
      refine wpM_stretch 7 rfl rfl rfl rfl ?_
      simp only [List.take_succ_cons, List.take_zero, List.drop_succ_cons, List.drop_zero]
      repeat (first | go_big_quiet_step (fail) | quiet_step (fail))
      refine wpQuiet_nil ?_
      refine wpM_dem rfl rfl rfl ?_ ?_
      · rintro _ ⟨pp, rfl⟩
        go_simp
        simp only [demUpon]
        refine ⟨trivial, (IHL.out x HX.out.2 c _ (hIx.all (below_regrown wr pp.d pp.os))).mono ?_⟩
        rintro e w2 ⟨c', rfl, hb2, hN⟩
        have hsz := (below_regrown wr pp.d pp.os).size
        exact ⟨_, rfl, ⟨c', rfl⟩, hb2, c', rfl, hN.mono (fun b hb => by omega)⟩
      · rintro u hu
        obtain ⟨c', rfl⟩ := hu.1 rfl
        clear hu
        refine wpM_dem rfl rfl rfl ?_ ?_
        · rintro _ ⟨pp, rfl⟩
          have hsz := (below_regrown wr pp.d pp.os).size
          go_simp
          simp only [demUpon]
          exact ⟨⟨_, rfl⟩, below_alloc _ _, c', rfl, _, rfl, by first | omega | (simp [redrawn]; done) | (simp [redrawn, grow]; omega), Own.new_at (by simp [grow]) _ _⟩
        · rintro u hu
          obtain ⟨b8, rfl⟩ := hu.2 rfl
          clear hu
          refine wpM_end ?_
          rintro U hbU ⟨⟨-, hV7⟩, hV8⟩
          obtain ⟨c2, he2, hN⟩ := hV7.1 (by first | rfl | trivial)
          obtain ⟨c3, b', hx3, hu3, hlo, oS⟩ := hV8.2 (by first | rfl | trivial)
          obtain rfl := VC.val_inj he2
          have hx4 : ([c'.val] : List Value) = [c3.val] := hx3
          obtain rfl : c' = c3 := VC.val_inj (by simpa using hx4)
          obtain rfl : b8 = b' := by simpa using hu3
          clear hV7 hV8 he2 hx3 hx4 hu3
          have hUs := hbU.size
          have hrowU := own_below hrow hbU
          have hAU := hA.below hbU
          have oOU := oO.all hbU
          have hbtU := hbt.all hbU
          have hrl := own_row hrow
          have hrlt : ∀ k, (Value.slice la2 ln2 lc2).ownBlock = some k → k < wr.heap.size := fun k h => (hrow.lt k h).2
          have hAN := hAU.snoc (c := c') (t := x) (hN.mono (fun b hb => ⟨by omega, fun e => by have := hrlt b e; omega⟩))
          have hl1 : ((l.take q) ++ [x]) = l.take (q + 1) := (take_snoc HX.out.1).symm
          rw [hl1] at hAN
          have HAN := Lib.hid hAN
          clear hAN hl1 hAU hA hrow oO hbt hN q0g q1g q2g q3g q4g bbg kkg hIx
          go_wp2_with (at_builtin; refine wpList_append_lies _ rfl (.tmp 21) (.tmp 28) 22 rfl W.heap.size 25 i25 (.agg #[.int .i64 0, .int .i64 0, .string ⟨#[]⟩, .slice none 0 0, .slice none 0 0]) 5 80 Try.underlying22 hi25 hz25 hs25 hb25 rfl (by decide) _ _ _ rfl hrowU ⟨b8, 0, none⟩ 1 1 (VC.cells c') rfl rfl (own_src oS) (five_one c') (by decide) (by unfold maxLen; omega) (by omega) (by omega) _ rfl ?_; intro gg gcap W5 hown5 hgrow5 hlies hglt; have o5 := own_kept' oOU hgrow5 (fun e => by have := hrl _ e; omega); have k5 := o5.cell (i := 3) rfl; have f5 := o5.frozen 3; have HH5 := Lib.hid (And.intro hown5 (And.intro hgrow5 (And.intro hlies o5))); clear hown5 hgrow5 hlies o5)
          obtain ⟨hown5, hgrow5, hlies, o5⟩ := HH5.out
          go_roundg (l.length - (q + 1))
          case measure => have := HG.out; omega
          case rel =>
            exact ⟨q + 1, .slice (some ⟨gg, 0, none⟩) (q + 1) gcap, cs ++ [c'], by omega, rfl, by go_num, (hbtU.grown hgrow5 (fun k h => hrl k h)).set _ _, o5.set 3 _, row_set (by rw [snocV]; exact hown5) (by omega) _ _, ((HAN.out.grow (n := q + 1) (cap := gcap) hgrow5 hlies).set (by omega) _ _)⟩
end Go.Proofs.Ytinenbgdkchghaa
