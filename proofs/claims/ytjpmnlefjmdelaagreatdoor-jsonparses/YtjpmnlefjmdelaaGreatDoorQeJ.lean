/- The reference's parser: a value, given lists and maps. The reference's parser: a value that begins, given lists and maps. -/
import Derived.Test.YtjpmnlefjmdelaaGreatDoorQaJ
import Derived.Test.YtjpmnlefjmdelaaGreatDoorJd
namespace Go.Proofs.YtjpmnlefjmdelaaGreatDoor
open Go.RowKit Go.Sort Go.Proofs.LawFrame

def put7 (W : World) (b0 b1 : Nat) (v0 v1 v2 v3 v4 y0 y1 : Value) : World := ((put5 W b0 v0 v1 v2 v3 v4).setCell ⟨b1, 0, none⟩ y0).setCell ⟨b1, 1, none⟩ y1
theorem fin_own {W : World} {b0 b1 : Nat} {a0 a1 a2 a3 a4 x0 x1 : Value} (o : Own W b0 [a0, a1, a2, a3, a4] 25) (o2 : Own W b1 [x0, x1] 75) (hne : b0 ≠ b1) (v0 v1 v2 v3 v4 y0 y1 : Value) : Own (put7 W b0 b1 v0 v1 v2 v3 v4 y0 y1) b0 [v0, v1, v2, v3, v4] 25 ∧ Own (put7 W b0 b1 v0 v1 v2 v3 v4 y0 y1) b1 [y0, y1] 75 :=
  ⟨((own_put5 o v0 v1 v2 v3 v4).set_ne (b' := b1) hne 0 y0).set_ne (b' := b1) hne 1 y1,
   (((((((o2.set_ne (b' := b0) hne.symm 0 v0).set_ne (b' := b0) hne.symm 1 v1).set_ne (b' := b0) hne.symm 2 v2).set_ne (b' := b0) hne.symm 3 v3).set_ne (b' := b0) hne.symm 4 v4).set 0 y0).set 1 y1)⟩
theorem below_put7 {w W : World} (h : Below w.heap.size w W) {b0 b1 : Nat} (h0 : w.heap.size ≤ b0) (h1 : w.heap.size ≤ b1) (v0 v1 v2 v3 v4 y0 y1 : Value) : Below w.heap.size w (put7 W b0 b1 v0 v1 v2 v3 v4 y0 y1) :=
  below_set (below_set (below_set (below_set (below_set (below_set (below_set h h0 v0) h0 v1) h0 v2) h0 v3) h0 v4) h1 y0) h1 y1
theorem IsA.put7 {W : World} {A : Nat → Prop} {c : VC} {t : T} {b0 b1 : Nat} (h : IsA W A c t) (h0 : ¬ A b0) (h1 : ¬ A b1) (v0 v1 v2 v3 v4 y0 y1 : Value) : IsA (put7 W b0 b1 v0 v1 v2 v3 v4 y0 y1) A c t :=
  ((h.put5 h0 v0 v1 v2 v3 v4).set h1 0 y0).set h1 1 y1
/-- what value, elements and members answer -/
structure QVr (s : Str) (w : World) (x : R (T × Nat × Str)) (e : Ending) (w' : World) : Prop where
  below : Below w.heap.size w w'
  ok : ∀ t n r', x = .ok (t, n, r') → ∃ (c : VC) (j : Nat), Ps s j r' ∧ IsA w' (fun b => w.heap.size ≤ b) c t ∧ e = .returned (.tuple #[c.val, .int .i64 j, .int .i64 n, faultV 0 0])
  er : ∀ k b, x = .er k b → ∃ (c : VC) (j m : Int), e = .returned (.tuple #[c.val, .int .i64 j, .int .i64 m, faultV ((s.length - k : Nat) : Int) b])
theorem QVr.mkOk {s : Str} {w w' : World} {x : R (T × Nat × Str)} {e : Ending} {t : T} {n : Nat} {r' : Str} {c : VC} {j : Nat} (hx : x = .ok (t, n, r')) (hb : Below w.heap.size w w') (hp : Ps s j r') (hI : IsA w' (fun b => w.heap.size ≤ b) c t) (he : e = .returned (.tuple #[c.val, .int .i64 j, .int .i64 n, faultV 0 0])) : QVr s w x e w' :=
  ⟨hb, fun t n r h => (by rw [hx] at h; cases h; exact ⟨c, j, hp, hI, he⟩), fun k c h => (by rw [hx] at h; cases h)⟩
theorem QVr.mkEr {s : Str} {w w' : World} {x : R (T × Nat × Str)} {e : Ending} {k : Nat} {b : Int} (c : VC) {j m : Int} (hx : x = .er k b) (hb : Below w.heap.size w w') (he : e = .returned (.tuple #[c.val, .int .i64 j, .int .i64 m, faultV ((s.length - k : Nat) : Int) b])) : QVr s w x e w' :=
  ⟨hb, fun t n r h => (by rw [hx] at h; cases h), fun k' c' h => (by rw [hx] at h; cases h; exact ⟨c, j, m, he⟩)⟩
/-- the contracts at a depth -/
def RVr (s : Str) (pv : PV) (d : Int) : Prop := ∀ (full : Bool) (n : Nat) (r : Str) (i : Nat) (w : World), n ≤ 600 → Ps s i r → skp r = r → Calls Tryz.prog 54 #[sV s, .int .i64 i, .int .i64 d, .int .i64 n, .bool full] w (QVr s w (pv full n r))
def REr (s : Str) (pv : PV) (d : Int) : Prop := ∀ (n : Nat) (r : Str) (i : Nat) (w : World), n ≤ 600 → Ps s i r → Calls Tryz.prog 96 #[sV s, .int .i64 i, .int .i64 d, .int .i64 n] w (QVr s w (listR pv n r))
def RMr (s : Str) (pv : PV) (d : Int) : Prop := ∀ (n : Nat) (r : Str) (i : Nat) (w : World), n ≤ 600 → Ps s i r → Calls Tryz.prog 97 #[sV s, .int .i64 i, .int .i64 d, .int .i64 n] w (QVr s w (mapR pv n r))

set_option maxHeartbeats 8000000 in
set_option maxRecDepth 4000 in
theorem rvalue_fail {s : Str} (hl : s.length ≤ 20000) (pv : PV) (d : Int) (full : Bool) (n : Nat) (r : Str) (i : Nat) (w : World) (h : Ps s i r) (hd1 : 1 ≤ d) (hd2 : d ≤ 13)
    (hx : (r = [] ∧ pv full n r = .er 0 3) ∨ ∃ c r1, r = c :: r1 ∧ ((bgn c = false ∧ pv full n r = .er (r1.length + 1) 2) ∨ (bgn c = true ∧ (full = true ∨ 12 < d ∨ 600 ≤ n) ∧ pv full n r = .er (r1.length + 1) 4))) (hn : n ≤ 600) :
    Calls Tryz.prog 54 #[sV s, .int .i64 i, .int .i64 d, .int .i64 n, .bool full] w (QVr s w (pv full n r)) := by
  have hbA := (below_alloc w (.cells #[.int .i64 0, .int .i64 0, .string ⟨#[]⟩, .slice none 0 0, .slice none 0 0] 25)).alloc (by rw [size_alloc]; omega) (.cells #[.int .i64 0, .int .i64 0] 75)
  have oA := (Own.new w [.int .i64 0, .int .i64 0, .string ⟨#[]⟩, .slice none 0 0, .slice none 0 0] 25).alloc (.cells #[.int .i64 0, .int .i64 0] 75)
  have oB : Own ((w.alloc (.cells #[.int .i64 0, .int .i64 0, .string ⟨#[]⟩, .slice none 0 0, .slice none 0 0] 25)).alloc (.cells #[.int .i64 0, .int .i64 0] 75)) (w.heap.size + 1) [.int .i64 0, .int .i64 0] 75 := Own.new_at (by rw [size_alloc]) _ _
  have HV := Lib.hid (And.intro hbA (And.intro oA oB))
  clear hbA oA oB
  rcases hx with ⟨rfl, hx⟩ | ⟨c, r1, rfl, hx⟩
  · obtain rfl := h.fin
    have HQ := Lib.hid hx
    clear hx h
    go_enter Tryz.func54, Tryz.ntmps54
    go_upto_region 1 with (fail)
    change Code.wp Tryz.prog _ _ _ ((w.alloc (.cells #[.int .i64 0, .int .i64 0, .string ⟨#[]⟩, .slice none 0 0, .slice none 0 0] 25)).alloc (.cells #[.int .i64 0, .int .i64 0] 75))
    generalize (w.alloc (.cells #[.int .i64 0, .int .i64 0, .string ⟨#[]⟩, .slice none 0 0, .slice none 0 0] 25)).alloc (.cells #[.int .i64 0, .int .i64 0] 75) = V at *
    have r0 := HV.out.2.1.cell (i := 0) rfl
    have r1 := HV.out.2.1.cell (i := 1) rfl
    have r2 := HV.out.2.1.cell (i := 2) rfl
    have r3 := HV.out.2.1.cell (i := 3) rfl
    have r4 := HV.out.2.1.cell (i := 4) rfl
    have g0 := HV.out.2.1.frozen 0
    have g1 := HV.out.2.1.frozen 1
    have g2 := HV.out.2.1.frozen 2
    have g3 := HV.out.2.1.frozen 3
    have g4 := HV.out.2.1.frozen 4
    have y0 := HV.out.2.2.cell (i := 0) rfl
    have y1 := HV.out.2.2.cell (i := 1) rfl
    have z0 := HV.out.2.2.frozen 0
    have z1 := HV.out.2.2.frozen 1
    have HF := Lib.hid (And.intro (fin_own HV.out.2.1 HV.out.2.2 (by omega) (.int .i64 0) (.int .i64 0) (.string ⟨#[]⟩) (.slice none 0 0) (.slice none 0 0) (.int .i64 (s.length)) (.int .i64 (3))).1 (And.intro (fin_own HV.out.2.1 HV.out.2.2 (by omega) (.int .i64 0) (.int .i64 0) (.string ⟨#[]⟩) (.slice none 0 0) (.slice none 0 0) (.int .i64 (s.length)) (.int .i64 (3))).2 (And.intro (below_put7 HV.out.1 (Nat.le_refl _) (Nat.le_succ _) (.int .i64 0) (.int .i64 0) (.string ⟨#[]⟩) (.slice none 0 0) (.slice none 0 0) (.int .i64 (s.length)) (.int .i64 (3))) (trivial))))
    go_wp2
    clear r0 r1 r2 r3 r4 g0 g1 g2 g3 g4 y0 y1 z0 z1
    change bodyPost Tryz.prog Tryz.f54 _ _ _ (put7 V w.heap.size (w.heap.size + 1) (.int .i64 0) (.int .i64 0) (.string ⟨#[]⟩) (.slice none 0 0) (.slice none 0 0) (.int .i64 (s.length)) (.int .i64 (3)))
    generalize put7 V w.heap.size (w.heap.size + 1) (.int .i64 0) (.int .i64 0) (.string ⟨#[]⟩) (.slice none 0 0) (.slice none 0 0) (.int .i64 (s.length)) (.int .i64 (3)) = U at *
    obtain ⟨oS, o2S, hBU, hIU⟩ := HF.out
    have c0 := oS.cell (i := 0) rfl
    have c1 := oS.cell (i := 1) rfl
    have c2 := oS.cell (i := 2) rfl
    have c3 := oS.cell (i := 3) rfl
    have c4 := oS.cell (i := 4) rfl
    have d0 := o2S.cell (i := 0) rfl
    have d1 := o2S.cell (i := 1) rfl
    exact bodyPost_ret (v := .tuple #[VC0.val, .int .i64 (0), .int .i64 (0), faultV (s.length) (3)]) (by simp [results, Tryz.results54, go_sem, c0, c1, c2, c3, c4, d0, d1, VC.val, VC0, faultV]) rfl (QVr.mkEr VC0 (k := 0) (b := 3) (j := 0) (m := 0) HQ.out hBU (by rw [Nat.sub_zero]))
  · obtain ⟨hlt, hc, hd', hlen⟩ := drop_byte h.dr
    have hm : ((⟨s.toArray⟩ : ByteArray)[i]'hlt).toNat = c.toNat := by rw [← hc]; rfl
    have HLEN := Lib.hid hlen
    clear hc hd' hlen h
    have CS := fun w => Lib.hid (rstarts_any c w)
    rcases hx with ⟨hb, hx⟩ | ⟨hb, hor, hx⟩
    · have HQ := Lib.hid hx
      rw [hb] at CS
      clear hx hb
      go_enter Tryz.func54, Tryz.ntmps54
      go_upto_region 1 with (fail)
      change Code.wp Tryz.prog _ _ _ ((w.alloc (.cells #[.int .i64 0, .int .i64 0, .string ⟨#[]⟩, .slice none 0 0, .slice none 0 0] 25)).alloc (.cells #[.int .i64 0, .int .i64 0] 75))
      generalize (w.alloc (.cells #[.int .i64 0, .int .i64 0, .string ⟨#[]⟩, .slice none 0 0, .slice none 0 0] 25)).alloc (.cells #[.int .i64 0, .int .i64 0] 75) = V at *
      have C := CS V
      clear CS
      go_wp2_with fail
      refine C.out.mono ?_
      rintro e w' ⟨rfl, rfl⟩
      clear C
      have r0 := HV.out.2.1.cell (i := 0) rfl
      have r1 := HV.out.2.1.cell (i := 1) rfl
      have r2 := HV.out.2.1.cell (i := 2) rfl
      have r3 := HV.out.2.1.cell (i := 3) rfl
      have r4 := HV.out.2.1.cell (i := 4) rfl
      have g0 := HV.out.2.1.frozen 0
      have g1 := HV.out.2.1.frozen 1
      have g2 := HV.out.2.1.frozen 2
      have g3 := HV.out.2.1.frozen 3
      have g4 := HV.out.2.1.frozen 4
      have y0 := HV.out.2.2.cell (i := 0) rfl
      have y1 := HV.out.2.2.cell (i := 1) rfl
      have z0 := HV.out.2.2.frozen 0
      have z1 := HV.out.2.2.frozen 1
      have HF := Lib.hid (And.intro (fin_own HV.out.2.1 HV.out.2.2 (by omega) (.int .i64 0) (.int .i64 0) (.string ⟨#[]⟩) (.slice none 0 0) (.slice none 0 0) (.int .i64 (i)) (.int .i64 (2))).1 (And.intro (fin_own HV.out.2.1 HV.out.2.2 (by omega) (.int .i64 0) (.int .i64 0) (.string ⟨#[]⟩) (.slice none 0 0) (.slice none 0 0) (.int .i64 (i)) (.int .i64 (2))).2 (And.intro (below_put7 HV.out.1 (Nat.le_refl _) (Nat.le_succ _) (.int .i64 0) (.int .i64 0) (.string ⟨#[]⟩) (.slice none 0 0) (.slice none 0 0) (.int .i64 (i)) (.int .i64 (2))) (trivial))))
      go_wp2
      clear r0 r1 r2 r3 r4 g0 g1 g2 g3 g4 y0 y1 z0 z1
      change bodyPost Tryz.prog Tryz.f54 _ _ _ (put7 V w.heap.size (w.heap.size + 1) (.int .i64 0) (.int .i64 0) (.string ⟨#[]⟩) (.slice none 0 0) (.slice none 0 0) (.int .i64 (i)) (.int .i64 (2)))
      generalize put7 V w.heap.size (w.heap.size + 1) (.int .i64 0) (.int .i64 0) (.string ⟨#[]⟩) (.slice none 0 0) (.slice none 0 0) (.int .i64 (i)) (.int .i64 (2)) = U at *
      obtain ⟨oS, o2S, hBU, hIU⟩ := HF.out
      have c0 := oS.cell (i := 0) rfl
      have c1 := oS.cell (i := 1) rfl
      have c2 := oS.cell (i := 2) rfl
      have c3 := oS.cell (i := 3) rfl
      have c4 := oS.cell (i := 4) rfl
      have d0 := o2S.cell (i := 0) rfl
      have d1 := o2S.cell (i := 1) rfl
      exact bodyPost_ret (v := .tuple #[VC0.val, .int .i64 (0), .int .i64 (0), faultV (i) (2)]) (by simp [results, Tryz.results54, go_sem, c0, c1, c2, c3, c4, d0, d1, VC.val, VC0, faultV]) rfl (QVr.mkEr VC0 (k := r1.length + 1) (b := 2) (j := 0) (m := 0) HQ.out hBU (by rw [show s.length - (r1.length + 1) = i by have := HLEN.out; omega]))
    · have HQ := Lib.hid hx
      rw [hb] at CS
      clear hx hb
      go_enter Tryz.func54, Tryz.ntmps54
      go_upto_region 1 with (fail)
      change Code.wp Tryz.prog _ _ _ ((w.alloc (.cells #[.int .i64 0, .int .i64 0, .string ⟨#[]⟩, .slice none 0 0, .slice none 0 0] 25)).alloc (.cells #[.int .i64 0, .int .i64 0] 75))
      generalize (w.alloc (.cells #[.int .i64 0, .int .i64 0, .string ⟨#[]⟩, .slice none 0 0, .slice none 0 0] 25)).alloc (.cells #[.int .i64 0, .int .i64 0] 75) = V at *
      have C := CS V
      clear CS
      go_wp2_with fail
      refine C.out.mono ?_
      rintro e w' ⟨rfl, rfl⟩
      clear C
      cases full with
      | true =>
        have r0 := HV.out.2.1.cell (i := 0) rfl
        have r1 := HV.out.2.1.cell (i := 1) rfl
        have r2 := HV.out.2.1.cell (i := 2) rfl
        have r3 := HV.out.2.1.cell (i := 3) rfl
        have r4 := HV.out.2.1.cell (i := 4) rfl
        have g0 := HV.out.2.1.frozen 0
        have g1 := HV.out.2.1.frozen 1
        have g2 := HV.out.2.1.frozen 2
        have g3 := HV.out.2.1.frozen 3
        have g4 := HV.out.2.1.frozen 4
        have y0 := HV.out.2.2.cell (i := 0) rfl
        have y1 := HV.out.2.2.cell (i := 1) rfl
        have z0 := HV.out.2.2.frozen 0
        have z1 := HV.out.2.2.frozen 1
        have HF := Lib.hid (And.intro (fin_own HV.out.2.1 HV.out.2.2 (by omega) (.int .i64 0) (.int .i64 0) (.string ⟨#[]⟩) (.slice none 0 0) (.slice none 0 0) (.int .i64 (i)) (.int .i64 (4))).1 (And.intro (fin_own HV.out.2.1 HV.out.2.2 (by omega) (.int .i64 0) (.int .i64 0) (.string ⟨#[]⟩) (.slice none 0 0) (.slice none 0 0) (.int .i64 (i)) (.int .i64 (4))).2 (And.intro (below_put7 HV.out.1 (Nat.le_refl _) (Nat.le_succ _) (.int .i64 0) (.int .i64 0) (.string ⟨#[]⟩) (.slice none 0 0) (.slice none 0 0) (.int .i64 (i)) (.int .i64 (4))) (trivial))))
        go_wp2
        clear r0 r1 r2 r3 r4 g0 g1 g2 g3 g4 y0 y1 z0 z1
        change bodyPost Tryz.prog Tryz.f54 _ _ _ (put7 V w.heap.size (w.heap.size + 1) (.int .i64 0) (.int .i64 0) (.string ⟨#[]⟩) (.slice none 0 0) (.slice none 0 0) (.int .i64 (i)) (.int .i64 (4)))
        generalize put7 V w.heap.size (w.heap.size + 1) (.int .i64 0) (.int .i64 0) (.string ⟨#[]⟩) (.slice none 0 0) (.slice none 0 0) (.int .i64 (i)) (.int .i64 (4)) = U at *
        obtain ⟨oS, o2S, hBU, hIU⟩ := HF.out
        have c0 := oS.cell (i := 0) rfl
        have c1 := oS.cell (i := 1) rfl
        have c2 := oS.cell (i := 2) rfl
        have c3 := oS.cell (i := 3) rfl
        have c4 := oS.cell (i := 4) rfl
        have d0 := o2S.cell (i := 0) rfl
        have d1 := o2S.cell (i := 1) rfl
        exact bodyPost_ret (v := .tuple #[VC0.val, .int .i64 (0), .int .i64 (0), faultV (i) (4)]) (by simp [results, Tryz.results54, go_sem, c0, c1, c2, c3, c4, d0, d1, VC.val, VC0, faultV]) rfl (QVr.mkEr VC0 (k := r1.length + 1) (b := 4) (j := 0) (m := 0) HQ.out hBU (by rw [show s.length - (r1.length + 1) = i by have := HLEN.out; omega]))
      | false =>
        by_cases hdd : 12 < d
        · skip
          have r0 := HV.out.2.1.cell (i := 0) rfl
          have r1 := HV.out.2.1.cell (i := 1) rfl
          have r2 := HV.out.2.1.cell (i := 2) rfl
          have r3 := HV.out.2.1.cell (i := 3) rfl
          have r4 := HV.out.2.1.cell (i := 4) rfl
          have g0 := HV.out.2.1.frozen 0
          have g1 := HV.out.2.1.frozen 1
          have g2 := HV.out.2.1.frozen 2
          have g3 := HV.out.2.1.frozen 3
          have g4 := HV.out.2.1.frozen 4
          have y0 := HV.out.2.2.cell (i := 0) rfl
          have y1 := HV.out.2.2.cell (i := 1) rfl
          have z0 := HV.out.2.2.frozen 0
          have z1 := HV.out.2.2.frozen 1
          have HF := Lib.hid (And.intro (fin_own HV.out.2.1 HV.out.2.2 (by omega) (.int .i64 0) (.int .i64 0) (.string ⟨#[]⟩) (.slice none 0 0) (.slice none 0 0) (.int .i64 (i)) (.int .i64 (4))).1 (And.intro (fin_own HV.out.2.1 HV.out.2.2 (by omega) (.int .i64 0) (.int .i64 0) (.string ⟨#[]⟩) (.slice none 0 0) (.slice none 0 0) (.int .i64 (i)) (.int .i64 (4))).2 (And.intro (below_put7 HV.out.1 (Nat.le_refl _) (Nat.le_succ _) (.int .i64 0) (.int .i64 0) (.string ⟨#[]⟩) (.slice none 0 0) (.slice none 0 0) (.int .i64 (i)) (.int .i64 (4))) (trivial))))
          go_wp2
          clear r0 r1 r2 r3 r4 g0 g1 g2 g3 g4 y0 y1 z0 z1
          change bodyPost Tryz.prog Tryz.f54 _ _ _ (put7 V w.heap.size (w.heap.size + 1) (.int .i64 0) (.int .i64 0) (.string ⟨#[]⟩) (.slice none 0 0) (.slice none 0 0) (.int .i64 (i)) (.int .i64 (4)))
          generalize put7 V w.heap.size (w.heap.size + 1) (.int .i64 0) (.int .i64 0) (.string ⟨#[]⟩) (.slice none 0 0) (.slice none 0 0) (.int .i64 (i)) (.int .i64 (4)) = U at *
          obtain ⟨oS, o2S, hBU, hIU⟩ := HF.out
          have c0 := oS.cell (i := 0) rfl
          have c1 := oS.cell (i := 1) rfl
          have c2 := oS.cell (i := 2) rfl
          have c3 := oS.cell (i := 3) rfl
          have c4 := oS.cell (i := 4) rfl
          have d0 := o2S.cell (i := 0) rfl
          have d1 := o2S.cell (i := 1) rfl
          exact bodyPost_ret (v := .tuple #[VC0.val, .int .i64 (0), .int .i64 (0), faultV (i) (4)]) (by simp [results, Tryz.results54, go_sem, c0, c1, c2, c3, c4, d0, d1, VC.val, VC0, faultV]) rfl (QVr.mkEr VC0 (k := r1.length + 1) (b := 4) (j := 0) (m := 0) HQ.out hBU (by rw [show s.length - (r1.length + 1) = i by have := HLEN.out; omega]))
        · have hnn : 600 ≤ (n : Int) := by rcases hor with h | h | h; cases h; omega; omega
          clear hor
          have r0 := HV.out.2.1.cell (i := 0) rfl
          have r1 := HV.out.2.1.cell (i := 1) rfl
          have r2 := HV.out.2.1.cell (i := 2) rfl
          have r3 := HV.out.2.1.cell (i := 3) rfl
          have r4 := HV.out.2.1.cell (i := 4) rfl
          have g0 := HV.out.2.1.frozen 0
          have g1 := HV.out.2.1.frozen 1
          have g2 := HV.out.2.1.frozen 2
          have g3 := HV.out.2.1.frozen 3
          have g4 := HV.out.2.1.frozen 4
          have y0 := HV.out.2.2.cell (i := 0) rfl
          have y1 := HV.out.2.2.cell (i := 1) rfl
          have z0 := HV.out.2.2.frozen 0
          have z1 := HV.out.2.2.frozen 1
          have HF := Lib.hid (And.intro (fin_own HV.out.2.1 HV.out.2.2 (by omega) (.int .i64 0) (.int .i64 0) (.string ⟨#[]⟩) (.slice none 0 0) (.slice none 0 0) (.int .i64 (i)) (.int .i64 (4))).1 (And.intro (fin_own HV.out.2.1 HV.out.2.2 (by omega) (.int .i64 0) (.int .i64 0) (.string ⟨#[]⟩) (.slice none 0 0) (.slice none 0 0) (.int .i64 (i)) (.int .i64 (4))).2 (And.intro (below_put7 HV.out.1 (Nat.le_refl _) (Nat.le_succ _) (.int .i64 0) (.int .i64 0) (.string ⟨#[]⟩) (.slice none 0 0) (.slice none 0 0) (.int .i64 (i)) (.int .i64 (4))) (trivial))))
          go_wp2
          clear r0 r1 r2 r3 r4 g0 g1 g2 g3 g4 y0 y1 z0 z1
          change bodyPost Tryz.prog Tryz.f54 _ _ _ (put7 V w.heap.size (w.heap.size + 1) (.int .i64 0) (.int .i64 0) (.string ⟨#[]⟩) (.slice none 0 0) (.slice none 0 0) (.int .i64 (i)) (.int .i64 (4)))
          generalize put7 V w.heap.size (w.heap.size + 1) (.int .i64 0) (.int .i64 0) (.string ⟨#[]⟩) (.slice none 0 0) (.slice none 0 0) (.int .i64 (i)) (.int .i64 (4)) = U at *
          obtain ⟨oS, o2S, hBU, hIU⟩ := HF.out
          have c0 := oS.cell (i := 0) rfl
          have c1 := oS.cell (i := 1) rfl
          have c2 := oS.cell (i := 2) rfl
          have c3 := oS.cell (i := 3) rfl
          have c4 := oS.cell (i := 4) rfl
          have d0 := o2S.cell (i := 0) rfl
          have d1 := o2S.cell (i := 1) rfl
          exact bodyPost_ret (v := .tuple #[VC0.val, .int .i64 (0), .int .i64 (0), faultV (i) (4)]) (by simp [results, Tryz.results54, go_sem, c0, c1, c2, c3, c4, d0, d1, VC.val, VC0, faultV]) rfl (QVr.mkEr VC0 (k := r1.length + 1) (b := 4) (j := 0) (m := 0) HQ.out hBU (by rw [show s.length - (r1.length + 1) = i by have := HLEN.out; omega]))
end Go.Proofs.YtjpmnlefjmdelaaGreatDoor
namespace Go.Proofs.YtjpmnlefjmdelaaGreatDoor
open Go.RowKit Go.Sort Go.Proofs.LawFrame

set_option maxHeartbeats 8000000 in
set_option maxRecDepth 4000 in
theorem rvalue_list {s : Str} (hl : s.length ≤ 20000) {pv : PV} {d : Int} (hd1 : 1 ≤ d) (hd2 : d ≤ 12) (HE : REr s pv d) (n : Nat) (hn : n < 600) (c : UInt8) (r1 : Str) (i : Nat) (w : World) (h : Ps s i (c :: r1)) (hb : bgn c = true) (hcc : c.toNat = 91) :
    Calls Tryz.prog 54 #[sV s, .int .i64 i, .int .i64 d, .int .i64 n, .bool false] w (QVr s w (bodyR pv (n + 1) c r1)) := by
  have hbA := (below_alloc w (.cells #[.int .i64 0, .int .i64 0, .string ⟨#[]⟩, .slice none 0 0, .slice none 0 0] 25)).alloc (by rw [size_alloc]; omega) (.cells #[.int .i64 0, .int .i64 0] 75)
  have oA := (Own.new w [.int .i64 0, .int .i64 0, .string ⟨#[]⟩, .slice none 0 0, .slice none 0 0] 25).alloc (.cells #[.int .i64 0, .int .i64 0] 75)
  have oB : Own ((w.alloc (.cells #[.int .i64 0, .int .i64 0, .string ⟨#[]⟩, .slice none 0 0, .slice none 0 0] 25)).alloc (.cells #[.int .i64 0, .int .i64 0] 75)) (w.heap.size + 1) [.int .i64 0, .int .i64 0] 75 := Own.new_at (by rw [size_alloc]) _ _
  have HV := Lib.hid (And.intro hbA (And.intro oA oB))
  clear hbA oA oB
  obtain ⟨hlt, hc, -, hlen⟩ := drop_byte h.dr
  have hm : ((⟨s.toArray⟩ : ByteArray)[i]'hlt).toNat = c.toNat := by rw [← hc]; rfl
  have HLEN := Lib.hid hlen
  have CS := fun w => rstarts_any c w
  rw [hb] at CS
  replace CS := fun w => Lib.hid (CS w)
  obtain ⟨n1, hn1⟩ : ∃ n1 : Nat, n1 = n + 1 := ⟨_, rfl⟩
  obtain ⟨i1, hi1⟩ : ∃ i1 : Nat, i1 = i + 1 := ⟨_, rfl⟩
  have hnI : (n : Int) + 1 = (n1 : Int) := by omega
  have hiI : (i : Int) + 1 = (i1 : Int) := by omega
  have HD1 := Lib.hid (show Ps s i1 r1 from hi1 ▸ h.next)
  have HP0 := Lib.hid h
  have HN1 := Lib.hid (And.intro hn1 (show n1 ≤ 600 by omega))
  rw [← hn1]
  clear hc hlen hb hn1 hi1 h
  have HC := Lib.hid hcc
  have e1 : (c.toNat : Int) = 91 := by omega
  have CS91 : ∀ w, Hid (Calls Tryz.prog 95 #[.int .u8 91] w fun e w' => e = .returned (.bool true) ∧ w = w') := fun w => (show (c.toNat : Int) = 91 from e1) ▸ CS w
  clear hcc CS
  go_enter Tryz.func54, Tryz.ntmps54
  go_upto_region 1 with (fail)
  change Code.wp Tryz.prog _ _ _ ((w.alloc (.cells #[.int .i64 0, .int .i64 0, .string ⟨#[]⟩, .slice none 0 0, .slice none 0 0] 25)).alloc (.cells #[.int .i64 0, .int .i64 0] 75))
  generalize (w.alloc (.cells #[.int .i64 0, .int .i64 0, .string ⟨#[]⟩, .slice none 0 0, .slice none 0 0] 25)).alloc (.cells #[.int .i64 0, .int .i64 0] 75) = V at *
  have C := CS91 V
  clear CS91
  go_wp2_with fail
  refine C.out.mono ?_
  rintro e w' ⟨rfl, rfl⟩
  clear C
  have HBd : Hid (bodyR pv n1 c r1 = listR pv n1 r1) := Lib.hid (by unfold bodyR; rw [if_neg (by have := HC.out; omega), if_neg (by have := HC.out; omega), if_neg (by have := HC.out; omega), if_neg (by have := HC.out; omega), if_pos HC.out])
  have CE := Lib.hid (HE n1 r1 i1 V HN1.out.2 HD1.out)
  go_wp2_with fail
  refine CE.out.mono ?_
  rintro e w1 hq
  have hVs := HV.out.2.2.lt
  have HW := Lib.hid (And.intro (below_all HV.out.1 hq.below) (And.intro (HV.out.2.1.all hq.below) (HV.out.2.2.all hq.below)))
  clear CE
  cases hR : listR pv n1 r1 with
  | er k b =>
    obtain ⟨c9, j9, m9, rfl⟩ := hq.er k b hR
    have HQ : Hid (bodyR pv n1 c r1 = .er k b) := Lib.hid (by rw [HBd.out, hR])
    clear hR hq HV
    have r0 := HW.out.2.1.cell (i := 0) rfl
    have r1 := HW.out.2.1.cell (i := 1) rfl
    have r2 := HW.out.2.1.cell (i := 2) rfl
    have r3 := HW.out.2.1.cell (i := 3) rfl
    have r4 := HW.out.2.1.cell (i := 4) rfl
    have g0 := HW.out.2.1.frozen 0
    have g1 := HW.out.2.1.frozen 1
    have g2 := HW.out.2.1.frozen 2
    have g3 := HW.out.2.1.frozen 3
    have g4 := HW.out.2.1.frozen 4
    have y0 := HW.out.2.2.cell (i := 0) rfl
    have y1 := HW.out.2.2.cell (i := 1) rfl
    have z0 := HW.out.2.2.frozen 0
    have z1 := HW.out.2.2.frozen 1
    have HF := Lib.hid (And.intro (fin_own HW.out.2.1 HW.out.2.2 (by omega) (.int .i64 c9.k) (.int .i64 c9.n) (sV c9.s) (.slice c9.la c9.ln c9.lc) (.slice c9.fa c9.fn c9.fc) (.int .i64 ((s.length - k : Nat))) (.int .i64 (b))).1 (And.intro (fin_own HW.out.2.1 HW.out.2.2 (by omega) (.int .i64 c9.k) (.int .i64 c9.n) (sV c9.s) (.slice c9.la c9.ln c9.lc) (.slice c9.fa c9.fn c9.fc) (.int .i64 ((s.length - k : Nat))) (.int .i64 (b))).2 (And.intro (below_put7 HW.out.1 (Nat.le_refl _) (Nat.le_succ _) (.int .i64 c9.k) (.int .i64 c9.n) (sV c9.s) (.slice c9.la c9.ln c9.lc) (.slice c9.fa c9.fn c9.fc) (.int .i64 ((s.length - k : Nat))) (.int .i64 (b))) (trivial))))
    go_wp2
    clear r0 r1 r2 r3 r4 g0 g1 g2 g3 g4 y0 y1 z0 z1
    change bodyPost Tryz.prog Tryz.f54 _ _ _ (put7 w1 w.heap.size (w.heap.size + 1) (.int .i64 c9.k) (.int .i64 c9.n) (sV c9.s) (.slice c9.la c9.ln c9.lc) (.slice c9.fa c9.fn c9.fc) (.int .i64 ((s.length - k : Nat))) (.int .i64 (b)))
    generalize put7 w1 w.heap.size (w.heap.size + 1) (.int .i64 c9.k) (.int .i64 c9.n) (sV c9.s) (.slice c9.la c9.ln c9.lc) (.slice c9.fa c9.fn c9.fc) (.int .i64 ((s.length - k : Nat))) (.int .i64 (b)) = U at *
    obtain ⟨oS, o2S, hBU, hIU⟩ := HF.out
    have c0 := oS.cell (i := 0) rfl
    have c1 := oS.cell (i := 1) rfl
    have c2 := oS.cell (i := 2) rfl
    have c3 := oS.cell (i := 3) rfl
    have c4 := oS.cell (i := 4) rfl
    have d0 := o2S.cell (i := 0) rfl
    have d1 := o2S.cell (i := 1) rfl
    exact bodyPost_ret (v := .tuple #[c9.val, .int .i64 (j9), .int .i64 (m9), faultV ((s.length - k : Nat)) (b)]) (by simp [results, Tryz.results54, go_sem, c0, c1, c2, c3, c4, d0, d1, VC.val, VC0, faultV]) rfl (QVr.mkEr c9 (k := k) (b := b) (j := j9) (m := m9) HQ.out hBU rfl)
  | ok p =>
    obtain ⟨t, n', r'⟩ := p
    obtain ⟨c9, j9, hp, hI, rfl⟩ := hq.ok t n' r' hR
    have HQ : Hid (bodyR pv n1 c r1 = .ok (t, n', r')) := Lib.hid (by rw [HBd.out, hR])
    have HP := Lib.hid hp
    have HI := Lib.hid hI
    clear hR hq hp hI HV
    have r0 := HW.out.2.1.cell (i := 0) rfl
    have r1 := HW.out.2.1.cell (i := 1) rfl
    have r2 := HW.out.2.1.cell (i := 2) rfl
    have r3 := HW.out.2.1.cell (i := 3) rfl
    have r4 := HW.out.2.1.cell (i := 4) rfl
    have g0 := HW.out.2.1.frozen 0
    have g1 := HW.out.2.1.frozen 1
    have g2 := HW.out.2.1.frozen 2
    have g3 := HW.out.2.1.frozen 3
    have g4 := HW.out.2.1.frozen 4
    have y0 := HW.out.2.2.cell (i := 0) rfl
    have y1 := HW.out.2.2.cell (i := 1) rfl
    have z0 := HW.out.2.2.frozen 0
    have z1 := HW.out.2.2.frozen 1
    have HF := Lib.hid (And.intro (fin_own HW.out.2.1 HW.out.2.2 (by omega) (.int .i64 c9.k) (.int .i64 c9.n) (sV c9.s) (.slice c9.la c9.ln c9.lc) (.slice c9.fa c9.fn c9.fc) (.int .i64 (0)) (.int .i64 (0))).1 (And.intro (fin_own HW.out.2.1 HW.out.2.2 (by omega) (.int .i64 c9.k) (.int .i64 c9.n) (sV c9.s) (.slice c9.la c9.ln c9.lc) (.slice c9.fa c9.fn c9.fc) (.int .i64 (0)) (.int .i64 (0))).2 (And.intro (below_put7 HW.out.1 (Nat.le_refl _) (Nat.le_succ _) (.int .i64 c9.k) (.int .i64 c9.n) (sV c9.s) (.slice c9.la c9.ln c9.lc) (.slice c9.fa c9.fn c9.fc) (.int .i64 (0)) (.int .i64 (0))) (HI.out.put7 (show ¬ V.heap.size ≤ w.heap.size by omega) (show ¬ V.heap.size ≤ w.heap.size + 1 by omega) (.int .i64 c9.k) (.int .i64 c9.n) (sV c9.s) (.slice c9.la c9.ln c9.lc) (.slice c9.fa c9.fn c9.fc) (.int .i64 0) (.int .i64 0)))))
    go_wp2
    clear r0 r1 r2 r3 r4 g0 g1 g2 g3 g4 y0 y1 z0 z1
    change bodyPost Tryz.prog Tryz.f54 _ _ _ (put7 w1 w.heap.size (w.heap.size + 1) (.int .i64 c9.k) (.int .i64 c9.n) (sV c9.s) (.slice c9.la c9.ln c9.lc) (.slice c9.fa c9.fn c9.fc) (.int .i64 (0)) (.int .i64 (0)))
    generalize put7 w1 w.heap.size (w.heap.size + 1) (.int .i64 c9.k) (.int .i64 c9.n) (sV c9.s) (.slice c9.la c9.ln c9.lc) (.slice c9.fa c9.fn c9.fc) (.int .i64 (0)) (.int .i64 (0)) = U at *
    obtain ⟨oS, o2S, hBU, hIU⟩ := HF.out
    have c0 := oS.cell (i := 0) rfl
    have c1 := oS.cell (i := 1) rfl
    have c2 := oS.cell (i := 2) rfl
    have c3 := oS.cell (i := 3) rfl
    have c4 := oS.cell (i := 4) rfl
    have d0 := o2S.cell (i := 0) rfl
    have d1 := o2S.cell (i := 1) rfl
    exact bodyPost_ret (v := .tuple #[c9.val, .int .i64 (j9), .int .i64 (n'), faultV (0) (0)]) (by simp [results, Tryz.results54, go_sem, c0, c1, c2, c3, c4, d0, d1, VC.val, VC0, faultV]) rfl (QVr.mkOk (j := j9) HQ.out hBU HP.out (hIU.mono (fun b (hb : V.heap.size ≤ b) => by omega)) rfl)

set_option maxHeartbeats 8000000 in
set_option maxRecDepth 4000 in
theorem rvalue_map {s : Str} (hl : s.length ≤ 20000) {pv : PV} {d : Int} (hd1 : 1 ≤ d) (hd2 : d ≤ 12) (HM : RMr s pv d) (n : Nat) (hn : n < 600) (c : UInt8) (r1 : Str) (i : Nat) (w : World) (h : Ps s i (c :: r1)) (hb : bgn c = true) (hcc : c.toNat = 123) :
    Calls Tryz.prog 54 #[sV s, .int .i64 i, .int .i64 d, .int .i64 n, .bool false] w (QVr s w (bodyR pv (n + 1) c r1)) := by
  have hbA := (below_alloc w (.cells #[.int .i64 0, .int .i64 0, .string ⟨#[]⟩, .slice none 0 0, .slice none 0 0] 25)).alloc (by rw [size_alloc]; omega) (.cells #[.int .i64 0, .int .i64 0] 75)
  have oA := (Own.new w [.int .i64 0, .int .i64 0, .string ⟨#[]⟩, .slice none 0 0, .slice none 0 0] 25).alloc (.cells #[.int .i64 0, .int .i64 0] 75)
  have oB : Own ((w.alloc (.cells #[.int .i64 0, .int .i64 0, .string ⟨#[]⟩, .slice none 0 0, .slice none 0 0] 25)).alloc (.cells #[.int .i64 0, .int .i64 0] 75)) (w.heap.size + 1) [.int .i64 0, .int .i64 0] 75 := Own.new_at (by rw [size_alloc]) _ _
  have HV := Lib.hid (And.intro hbA (And.intro oA oB))
  clear hbA oA oB
  obtain ⟨hlt, hc, -, hlen⟩ := drop_byte h.dr
  have hm : ((⟨s.toArray⟩ : ByteArray)[i]'hlt).toNat = c.toNat := by rw [← hc]; rfl
  have HLEN := Lib.hid hlen
  have CS := fun w => rstarts_any c w
  rw [hb] at CS
  replace CS := fun w => Lib.hid (CS w)
  obtain ⟨n1, hn1⟩ : ∃ n1 : Nat, n1 = n + 1 := ⟨_, rfl⟩
  obtain ⟨i1, hi1⟩ : ∃ i1 : Nat, i1 = i + 1 := ⟨_, rfl⟩
  have hnI : (n : Int) + 1 = (n1 : Int) := by omega
  have hiI : (i : Int) + 1 = (i1 : Int) := by omega
  have HD1 := Lib.hid (show Ps s i1 r1 from hi1 ▸ h.next)
  have HP0 := Lib.hid h
  have HN1 := Lib.hid (And.intro hn1 (show n1 ≤ 600 by omega))
  rw [← hn1]
  clear hc hlen hb hn1 hi1 h
  have HC := Lib.hid hcc
  have e1 : (c.toNat : Int) = 123 := by omega
  have CS123 : ∀ w, Hid (Calls Tryz.prog 95 #[.int .u8 123] w fun e w' => e = .returned (.bool true) ∧ w = w') := fun w => (show (c.toNat : Int) = 123 from e1) ▸ CS w
  clear hcc CS
  go_enter Tryz.func54, Tryz.ntmps54
  go_upto_region 1 with (fail)
  change Code.wp Tryz.prog _ _ _ ((w.alloc (.cells #[.int .i64 0, .int .i64 0, .string ⟨#[]⟩, .slice none 0 0, .slice none 0 0] 25)).alloc (.cells #[.int .i64 0, .int .i64 0] 75))
  generalize (w.alloc (.cells #[.int .i64 0, .int .i64 0, .string ⟨#[]⟩, .slice none 0 0, .slice none 0 0] 25)).alloc (.cells #[.int .i64 0, .int .i64 0] 75) = V at *
  have C := CS123 V
  clear CS123
  go_wp2_with fail
  refine C.out.mono ?_
  rintro e w' ⟨rfl, rfl⟩
  clear C
  have HBd : Hid (bodyR pv n1 c r1 = mapR pv n1 r1) := Lib.hid (by unfold bodyR; rw [if_neg (by have := HC.out; omega), if_neg (by have := HC.out; omega), if_neg (by have := HC.out; omega), if_neg (by have := HC.out; omega), if_neg (by have := HC.out; omega), if_pos HC.out])
  have CE := Lib.hid (HM n1 r1 i1 V HN1.out.2 HD1.out)
  go_wp2_with fail
  refine CE.out.mono ?_
  rintro e w1 hq
  have hVs := HV.out.2.2.lt
  have HW := Lib.hid (And.intro (below_all HV.out.1 hq.below) (And.intro (HV.out.2.1.all hq.below) (HV.out.2.2.all hq.below)))
  clear CE
  cases hR : mapR pv n1 r1 with
  | er k b =>
    obtain ⟨c9, j9, m9, rfl⟩ := hq.er k b hR
    have HQ : Hid (bodyR pv n1 c r1 = .er k b) := Lib.hid (by rw [HBd.out, hR])
    clear hR hq HV
    have r0 := HW.out.2.1.cell (i := 0) rfl
    have r1 := HW.out.2.1.cell (i := 1) rfl
    have r2 := HW.out.2.1.cell (i := 2) rfl
    have r3 := HW.out.2.1.cell (i := 3) rfl
    have r4 := HW.out.2.1.cell (i := 4) rfl
    have g0 := HW.out.2.1.frozen 0
    have g1 := HW.out.2.1.frozen 1
    have g2 := HW.out.2.1.frozen 2
    have g3 := HW.out.2.1.frozen 3
    have g4 := HW.out.2.1.frozen 4
    have y0 := HW.out.2.2.cell (i := 0) rfl
    have y1 := HW.out.2.2.cell (i := 1) rfl
    have z0 := HW.out.2.2.frozen 0
    have z1 := HW.out.2.2.frozen 1
    have HF := Lib.hid (And.intro (fin_own HW.out.2.1 HW.out.2.2 (by omega) (.int .i64 c9.k) (.int .i64 c9.n) (sV c9.s) (.slice c9.la c9.ln c9.lc) (.slice c9.fa c9.fn c9.fc) (.int .i64 ((s.length - k : Nat))) (.int .i64 (b))).1 (And.intro (fin_own HW.out.2.1 HW.out.2.2 (by omega) (.int .i64 c9.k) (.int .i64 c9.n) (sV c9.s) (.slice c9.la c9.ln c9.lc) (.slice c9.fa c9.fn c9.fc) (.int .i64 ((s.length - k : Nat))) (.int .i64 (b))).2 (And.intro (below_put7 HW.out.1 (Nat.le_refl _) (Nat.le_succ _) (.int .i64 c9.k) (.int .i64 c9.n) (sV c9.s) (.slice c9.la c9.ln c9.lc) (.slice c9.fa c9.fn c9.fc) (.int .i64 ((s.length - k : Nat))) (.int .i64 (b))) (trivial))))
    go_wp2
    clear r0 r1 r2 r3 r4 g0 g1 g2 g3 g4 y0 y1 z0 z1
    change bodyPost Tryz.prog Tryz.f54 _ _ _ (put7 w1 w.heap.size (w.heap.size + 1) (.int .i64 c9.k) (.int .i64 c9.n) (sV c9.s) (.slice c9.la c9.ln c9.lc) (.slice c9.fa c9.fn c9.fc) (.int .i64 ((s.length - k : Nat))) (.int .i64 (b)))
    generalize put7 w1 w.heap.size (w.heap.size + 1) (.int .i64 c9.k) (.int .i64 c9.n) (sV c9.s) (.slice c9.la c9.ln c9.lc) (.slice c9.fa c9.fn c9.fc) (.int .i64 ((s.length - k : Nat))) (.int .i64 (b)) = U at *
    obtain ⟨oS, o2S, hBU, hIU⟩ := HF.out
    have c0 := oS.cell (i := 0) rfl
    have c1 := oS.cell (i := 1) rfl
    have c2 := oS.cell (i := 2) rfl
    have c3 := oS.cell (i := 3) rfl
    have c4 := oS.cell (i := 4) rfl
    have d0 := o2S.cell (i := 0) rfl
    have d1 := o2S.cell (i := 1) rfl
    exact bodyPost_ret (v := .tuple #[c9.val, .int .i64 (j9), .int .i64 (m9), faultV ((s.length - k : Nat)) (b)]) (by simp [results, Tryz.results54, go_sem, c0, c1, c2, c3, c4, d0, d1, VC.val, VC0, faultV]) rfl (QVr.mkEr c9 (k := k) (b := b) (j := j9) (m := m9) HQ.out hBU rfl)
  | ok p =>
    obtain ⟨t, n', r'⟩ := p
    obtain ⟨c9, j9, hp, hI, rfl⟩ := hq.ok t n' r' hR
    have HQ : Hid (bodyR pv n1 c r1 = .ok (t, n', r')) := Lib.hid (by rw [HBd.out, hR])
    have HP := Lib.hid hp
    have HI := Lib.hid hI
    clear hR hq hp hI HV
    have r0 := HW.out.2.1.cell (i := 0) rfl
    have r1 := HW.out.2.1.cell (i := 1) rfl
    have r2 := HW.out.2.1.cell (i := 2) rfl
    have r3 := HW.out.2.1.cell (i := 3) rfl
    have r4 := HW.out.2.1.cell (i := 4) rfl
    have g0 := HW.out.2.1.frozen 0
    have g1 := HW.out.2.1.frozen 1
    have g2 := HW.out.2.1.frozen 2
    have g3 := HW.out.2.1.frozen 3
    have g4 := HW.out.2.1.frozen 4
    have y0 := HW.out.2.2.cell (i := 0) rfl
    have y1 := HW.out.2.2.cell (i := 1) rfl
    have z0 := HW.out.2.2.frozen 0
    have z1 := HW.out.2.2.frozen 1
    have HF := Lib.hid (And.intro (fin_own HW.out.2.1 HW.out.2.2 (by omega) (.int .i64 c9.k) (.int .i64 c9.n) (sV c9.s) (.slice c9.la c9.ln c9.lc) (.slice c9.fa c9.fn c9.fc) (.int .i64 (0)) (.int .i64 (0))).1 (And.intro (fin_own HW.out.2.1 HW.out.2.2 (by omega) (.int .i64 c9.k) (.int .i64 c9.n) (sV c9.s) (.slice c9.la c9.ln c9.lc) (.slice c9.fa c9.fn c9.fc) (.int .i64 (0)) (.int .i64 (0))).2 (And.intro (below_put7 HW.out.1 (Nat.le_refl _) (Nat.le_succ _) (.int .i64 c9.k) (.int .i64 c9.n) (sV c9.s) (.slice c9.la c9.ln c9.lc) (.slice c9.fa c9.fn c9.fc) (.int .i64 (0)) (.int .i64 (0))) (HI.out.put7 (show ¬ V.heap.size ≤ w.heap.size by omega) (show ¬ V.heap.size ≤ w.heap.size + 1 by omega) (.int .i64 c9.k) (.int .i64 c9.n) (sV c9.s) (.slice c9.la c9.ln c9.lc) (.slice c9.fa c9.fn c9.fc) (.int .i64 0) (.int .i64 0)))))
    go_wp2
    clear r0 r1 r2 r3 r4 g0 g1 g2 g3 g4 y0 y1 z0 z1
    change bodyPost Tryz.prog Tryz.f54 _ _ _ (put7 w1 w.heap.size (w.heap.size + 1) (.int .i64 c9.k) (.int .i64 c9.n) (sV c9.s) (.slice c9.la c9.ln c9.lc) (.slice c9.fa c9.fn c9.fc) (.int .i64 (0)) (.int .i64 (0)))
    generalize put7 w1 w.heap.size (w.heap.size + 1) (.int .i64 c9.k) (.int .i64 c9.n) (sV c9.s) (.slice c9.la c9.ln c9.lc) (.slice c9.fa c9.fn c9.fc) (.int .i64 (0)) (.int .i64 (0)) = U at *
    obtain ⟨oS, o2S, hBU, hIU⟩ := HF.out
    have c0 := oS.cell (i := 0) rfl
    have c1 := oS.cell (i := 1) rfl
    have c2 := oS.cell (i := 2) rfl
    have c3 := oS.cell (i := 3) rfl
    have c4 := oS.cell (i := 4) rfl
    have d0 := o2S.cell (i := 0) rfl
    have d1 := o2S.cell (i := 1) rfl
    exact bodyPost_ret (v := .tuple #[c9.val, .int .i64 (j9), .int .i64 (n'), faultV (0) (0)]) (by simp [results, Tryz.results54, go_sem, c0, c1, c2, c3, c4, d0, d1, VC.val, VC0, faultV]) rfl (QVr.mkOk (j := j9) HQ.out hBU HP.out (hIU.mono (fun b (hb : V.heap.size ≤ b) => by omega)) rfl)

set_option maxHeartbeats 8000000 in
set_option maxRecDepth 4000 in
theorem rvalue_str {s : Str} (hl : s.length ≤ 20000) {pv : PV} {d : Int} (hd1 : 1 ≤ d) (hd2 : d ≤ 12) (n : Nat) (hn : n < 600) (c : UInt8) (r1 : Str) (i : Nat) (w : World) (h : Ps s i (c :: r1)) (hb : bgn c = true) (hcc : c.toNat = 34) :
    Calls Tryz.prog 54 #[sV s, .int .i64 i, .int .i64 d, .int .i64 n, .bool false] w (QVr s w (bodyR pv (n + 1) c r1)) := by
  have hbA := (below_alloc w (.cells #[.int .i64 0, .int .i64 0, .string ⟨#[]⟩, .slice none 0 0, .slice none 0 0] 25)).alloc (by rw [size_alloc]; omega) (.cells #[.int .i64 0, .int .i64 0] 75)
  have oA := (Own.new w [.int .i64 0, .int .i64 0, .string ⟨#[]⟩, .slice none 0 0, .slice none 0 0] 25).alloc (.cells #[.int .i64 0, .int .i64 0] 75)
  have oB : Own ((w.alloc (.cells #[.int .i64 0, .int .i64 0, .string ⟨#[]⟩, .slice none 0 0, .slice none 0 0] 25)).alloc (.cells #[.int .i64 0, .int .i64 0] 75)) (w.heap.size + 1) [.int .i64 0, .int .i64 0] 75 := Own.new_at (by rw [size_alloc]) _ _
  have HV := Lib.hid (And.intro hbA (And.intro oA oB))
  clear hbA oA oB
  obtain ⟨hlt, hc, -, hlen⟩ := drop_byte h.dr
  have hm : ((⟨s.toArray⟩ : ByteArray)[i]'hlt).toNat = c.toNat := by rw [← hc]; rfl
  have HLEN := Lib.hid hlen
  have CS := fun w => rstarts_any c w
  rw [hb] at CS
  replace CS := fun w => Lib.hid (CS w)
  obtain ⟨n1, hn1⟩ : ∃ n1 : Nat, n1 = n + 1 := ⟨_, rfl⟩
  obtain ⟨i1, hi1⟩ : ∃ i1 : Nat, i1 = i + 1 := ⟨_, rfl⟩
  have hnI : (n : Int) + 1 = (n1 : Int) := by omega
  have hiI : (i : Int) + 1 = (i1 : Int) := by omega
  have HD1 := Lib.hid (show Ps s i1 r1 from hi1 ▸ h.next)
  have HP0 := Lib.hid h
  have HN1 := Lib.hid (And.intro hn1 (show n1 ≤ 600 by omega))
  rw [← hn1]
  clear hc hlen hb hn1 hi1 h
  have HC := Lib.hid hcc
  have e1 : (c.toNat : Int) = 34 := by omega
  have CS34 : ∀ w, Hid (Calls Tryz.prog 95 #[.int .u8 34] w fun e w' => e = .returned (.bool true) ∧ w = w') := fun w => (show (c.toNat : Int) = 34 from e1) ▸ CS w
  clear hcc CS
  go_enter Tryz.func54, Tryz.ntmps54
  go_upto_region 1 with (fail)
  change Code.wp Tryz.prog _ _ _ ((w.alloc (.cells #[.int .i64 0, .int .i64 0, .string ⟨#[]⟩, .slice none 0 0, .slice none 0 0] 25)).alloc (.cells #[.int .i64 0, .int .i64 0] 75))
  generalize (w.alloc (.cells #[.int .i64 0, .int .i64 0, .string ⟨#[]⟩, .slice none 0 0, .slice none 0 0] 25)).alloc (.cells #[.int .i64 0, .int .i64 0] 75) = V at *
  have C := CS34 V
  clear CS34
  go_wp2_with fail
  refine C.out.mono ?_
  rintro e w' ⟨rfl, rfl⟩
  clear C
  have CE := Lib.hid (rstr_any hl HP0.out V)
  have HBd : Hid (bodyR pv n1 c r1 = wrapR n1 (fun l => .mk 3 0 l [] []) (strR (r1.length + 1) 0 r1)) := Lib.hid (by unfold bodyR; rw [if_neg (by have := HC.out; omega), if_neg (by have := HC.out; omega), if_neg (by have := HC.out; omega), if_pos HC.out])
  go_wp2_with fail
  refine CE.out.mono ?_
  rintro e w1 hq
  have HW := Lib.hid (And.intro (below_all HV.out.1 hq.below) (And.intro (HV.out.2.1.all hq.below) (HV.out.2.2.all hq.below)))
  clear CE HV
  cases hR : strR (r1.length + 1) 0 r1 with
  | er k b =>
    obtain rfl := hq.er k b hR
    have HQ : Hid (bodyR pv n1 c r1 = .er k b) := Lib.hid (by rw [HBd.out, hR]; rfl)
    clear hR hq
    have hA1 := below_alloc w1 (.cells #[.int .i64 ((s.length - k : Nat)), .int .i64 (b)] 75)
    have oT := Own.new w1 [.int .i64 ((s.length - k : Nat)), .int .i64 (b)] 75
    have HX := Lib.hid (And.intro (below_all HW.out.1 hA1) (And.intro (HW.out.2.1.all hA1) (And.intro (HW.out.2.2.all hA1) oT)))
    have hs1 := HW.out.2.2.lt
    clear hA1 oT HW
    go_upto_region 15 with (fail)
    change Code.wp Tryz.prog _ _ _ (w1.alloc (.cells #[.int .i64 ((s.length - k : Nat)), .int .i64 (b)] 75))
    generalize w1.alloc (.cells #[.int .i64 ((s.length - k : Nat)), .int .i64 (b)] 75) = V1 at *
    have ne1 : ¬ w1.heap.size = w.heap.size := by omega
    have ne2 : ¬ w1.heap.size = w.heap.size + 1 := by omega
    have ne3 : ¬ w.heap.size = w1.heap.size := by omega
    have ne4 : ¬ w.heap.size + 1 = w1.heap.size := by omega
    have t0 := HX.out.2.2.2.cell (i := 0) rfl
    have t1 := HX.out.2.2.2.cell (i := 1) rfl
    have r0 := HX.out.2.1.cell (i := 0) rfl
    have r1 := HX.out.2.1.cell (i := 1) rfl
    have r2 := HX.out.2.1.cell (i := 2) rfl
    have r3 := HX.out.2.1.cell (i := 3) rfl
    have r4 := HX.out.2.1.cell (i := 4) rfl
    have g0 := HX.out.2.1.frozen 0
    have g1 := HX.out.2.1.frozen 1
    have g2 := HX.out.2.1.frozen 2
    have g3 := HX.out.2.1.frozen 3
    have g4 := HX.out.2.1.frozen 4
    have y0 := HX.out.2.2.1.cell (i := 0) rfl
    have y1 := HX.out.2.2.1.cell (i := 1) rfl
    have z0 := HX.out.2.2.1.frozen 0
    have z1 := HX.out.2.2.1.frozen 1
    have HF := Lib.hid (And.intro (fin_own HX.out.2.1 HX.out.2.2.1 (by omega) (.int .i64 3) (.int .i64 0) (.string ⟨#[]⟩) (.slice none 0 0) (.slice none 0 0) (.int .i64 ((s.length - k : Nat))) (.int .i64 (b))).1 (And.intro (fin_own HX.out.2.1 HX.out.2.2.1 (by omega) (.int .i64 3) (.int .i64 0) (.string ⟨#[]⟩) (.slice none 0 0) (.slice none 0 0) (.int .i64 ((s.length - k : Nat))) (.int .i64 (b))).2 (And.intro (below_put7 HX.out.1 (Nat.le_refl _) (Nat.le_succ _) (.int .i64 3) (.int .i64 0) (.string ⟨#[]⟩) (.slice none 0 0) (.slice none 0 0) (.int .i64 ((s.length - k : Nat))) (.int .i64 (b))) (trivial))))
    go_region
    go_wp2
    clear t0 t1
    clear r0 r1 r2 r3 r4 g0 g1 g2 g3 g4 y0 y1 z0 z1
    change bodyPost Tryz.prog Tryz.f54 _ _ _ (put7 V1 w.heap.size (w.heap.size + 1) (.int .i64 3) (.int .i64 0) (.string ⟨#[]⟩) (.slice none 0 0) (.slice none 0 0) (.int .i64 ((s.length - k : Nat))) (.int .i64 (b))).drew
    generalize put7 V1 w.heap.size (w.heap.size + 1) (.int .i64 3) (.int .i64 0) (.string ⟨#[]⟩) (.slice none 0 0) (.slice none 0 0) (.int .i64 ((s.length - k : Nat))) (.int .i64 (b)) = U at *
    obtain ⟨oS, o2S, hBU, hIU⟩ := HF.out
    replace oS := oS.drew
    replace o2S := o2S.drew
    replace hBU := hBU.drew
    have c0 := oS.cell (i := 0) rfl
    have c1 := oS.cell (i := 1) rfl
    have c2 := oS.cell (i := 2) rfl
    have c3 := oS.cell (i := 3) rfl
    have c4 := oS.cell (i := 4) rfl
    have d0 := o2S.cell (i := 0) rfl
    have d1 := o2S.cell (i := 1) rfl
    exact bodyPost_ret (v := .tuple #[.agg #[.int .i64 3, .int .i64 0, .string ⟨#[]⟩, .slice none 0 0, .slice none 0 0], .int .i64 (0), .int .i64 (n1), faultV ((s.length - k : Nat)) (b)]) (by simp [results, Tryz.results54, go_sem, c0, c1, c2, c3, c4, d0, d1, VC.val, VC0, faultV]) rfl (QVr.mkEr ⟨3, 0, [], none, 0, 0, none, 0, 0⟩ (k := k) (b := b) (j := 0) (m := n1) HQ.out hBU rfl)
  | ok p =>
    obtain ⟨l, r'⟩ := p
    obtain ⟨j9, hp, rfl⟩ := hq.ok l r' hR
    have HQ : Hid (bodyR pv n1 c r1 = .ok ((.mk 3 0 l [] []), n1, r')) := Lib.hid (by rw [HBd.out, hR]; rfl)
    have HP := Lib.hid hp
    clear hR hq hp
    have hA1 := below_alloc w1 (.cells #[.int .i64 (0), .int .i64 (0)] 75)
    have oT := Own.new w1 [.int .i64 (0), .int .i64 (0)] 75
    have HX := Lib.hid (And.intro (below_all HW.out.1 hA1) (And.intro (HW.out.2.1.all hA1) (And.intro (HW.out.2.2.all hA1) oT)))
    have hs1 := HW.out.2.2.lt
    clear hA1 oT HW
    go_upto_region 15 with (fail)
    change Code.wp Tryz.prog _ _ _ (w1.alloc (.cells #[.int .i64 (0), .int .i64 (0)] 75))
    generalize w1.alloc (.cells #[.int .i64 (0), .int .i64 (0)] 75) = V1 at *
    have ne1 : ¬ w1.heap.size = w.heap.size := by omega
    have ne2 : ¬ w1.heap.size = w.heap.size + 1 := by omega
    have ne3 : ¬ w.heap.size = w1.heap.size := by omega
    have ne4 : ¬ w.heap.size + 1 = w1.heap.size := by omega
    have t0 := HX.out.2.2.2.cell (i := 0) rfl
    have t1 := HX.out.2.2.2.cell (i := 1) rfl
    have r0 := HX.out.2.1.cell (i := 0) rfl
    have r1 := HX.out.2.1.cell (i := 1) rfl
    have r2 := HX.out.2.1.cell (i := 2) rfl
    have r3 := HX.out.2.1.cell (i := 3) rfl
    have r4 := HX.out.2.1.cell (i := 4) rfl
    have g0 := HX.out.2.1.frozen 0
    have g1 := HX.out.2.1.frozen 1
    have g2 := HX.out.2.1.frozen 2
    have g3 := HX.out.2.1.frozen 3
    have g4 := HX.out.2.1.frozen 4
    have y0 := HX.out.2.2.1.cell (i := 0) rfl
    have y1 := HX.out.2.2.1.cell (i := 1) rfl
    have z0 := HX.out.2.2.1.frozen 0
    have z1 := HX.out.2.2.1.frozen 1
    have HF := Lib.hid (And.intro (fin_own HX.out.2.1 HX.out.2.2.1 (by omega) (.int .i64 3) (.int .i64 0) (sV l) (.slice none 0 0) (.slice none 0 0) (.int .i64 (0)) (.int .i64 (0))).1 (And.intro (fin_own HX.out.2.1 HX.out.2.2.1 (by omega) (.int .i64 3) (.int .i64 0) (sV l) (.slice none 0 0) (.slice none 0 0) (.int .i64 (0)) (.int .i64 (0))).2 (And.intro (below_put7 HX.out.1 (Nat.le_refl _) (Nat.le_succ _) (.int .i64 3) (.int .i64 0) (sV l) (.slice none 0 0) (.slice none 0 0) (.int .i64 (0)) (.int .i64 (0))) (trivial))))
    go_region
    go_wp2
    clear t0 t1
    clear r0 r1 r2 r3 r4 g0 g1 g2 g3 g4 y0 y1 z0 z1
    change bodyPost Tryz.prog Tryz.f54 _ _ _ (put7 V1 w.heap.size (w.heap.size + 1) (.int .i64 3) (.int .i64 0) (sV l) (.slice none 0 0) (.slice none 0 0) (.int .i64 (0)) (.int .i64 (0))).drew
    generalize put7 V1 w.heap.size (w.heap.size + 1) (.int .i64 3) (.int .i64 0) (sV l) (.slice none 0 0) (.slice none 0 0) (.int .i64 (0)) (.int .i64 (0)) = U at *
    obtain ⟨oS, o2S, hBU, hIU⟩ := HF.out
    replace oS := oS.drew
    replace o2S := o2S.drew
    replace hBU := hBU.drew
    have c0 := oS.cell (i := 0) rfl
    have c1 := oS.cell (i := 1) rfl
    have c2 := oS.cell (i := 2) rfl
    have c3 := oS.cell (i := 3) rfl
    have c4 := oS.cell (i := 4) rfl
    have d0 := o2S.cell (i := 0) rfl
    have d1 := o2S.cell (i := 1) rfl
    exact bodyPost_ret (v := .tuple #[.agg #[.int .i64 3, .int .i64 0, sV l, .slice none 0 0, .slice none 0 0], .int .i64 (j9), .int .i64 (n1), faultV (0) (0)]) (by simp [results, Tryz.results54, go_sem, c0, c1, c2, c3, c4, d0, d1, VC.val, VC0, faultV]) rfl (QVr.mkOk (c := ⟨3, 0, l, none, 0, 0, none, 0, 0⟩) (j := j9) HQ.out hBU HP.out (isA_leaf _ _ _ _ _) rfl)

set_option maxHeartbeats 8000000 in
set_option maxRecDepth 4000 in
theorem rvalue_null {s : Str} (hl : s.length ≤ 20000) {pv : PV} {d : Int} (hd1 : 1 ≤ d) (hd2 : d ≤ 12) (n : Nat) (hn : n < 600) (c : UInt8) (r1 : Str) (i : Nat) (w : World) (h : Ps s i (c :: r1)) (hb : bgn c = true) (hcc : c.toNat = 110) :
    Calls Tryz.prog 54 #[sV s, .int .i64 i, .int .i64 d, .int .i64 n, .bool false] w (QVr s w (bodyR pv (n + 1) c r1)) := by
  have hbA := (below_alloc w (.cells #[.int .i64 0, .int .i64 0, .string ⟨#[]⟩, .slice none 0 0, .slice none 0 0] 25)).alloc (by rw [size_alloc]; omega) (.cells #[.int .i64 0, .int .i64 0] 75)
  have oA := (Own.new w [.int .i64 0, .int .i64 0, .string ⟨#[]⟩, .slice none 0 0, .slice none 0 0] 25).alloc (.cells #[.int .i64 0, .int .i64 0] 75)
  have oB : Own ((w.alloc (.cells #[.int .i64 0, .int .i64 0, .string ⟨#[]⟩, .slice none 0 0, .slice none 0 0] 25)).alloc (.cells #[.int .i64 0, .int .i64 0] 75)) (w.heap.size + 1) [.int .i64 0, .int .i64 0] 75 := Own.new_at (by rw [size_alloc]) _ _
  have HV := Lib.hid (And.intro hbA (And.intro oA oB))
  clear hbA oA oB
  obtain ⟨hlt, hc, -, hlen⟩ := drop_byte h.dr
  have hm : ((⟨s.toArray⟩ : ByteArray)[i]'hlt).toNat = c.toNat := by rw [← hc]; rfl
  have HLEN := Lib.hid hlen
  have CS := fun w => rstarts_any c w
  rw [hb] at CS
  replace CS := fun w => Lib.hid (CS w)
  obtain ⟨n1, hn1⟩ : ∃ n1 : Nat, n1 = n + 1 := ⟨_, rfl⟩
  obtain ⟨i1, hi1⟩ : ∃ i1 : Nat, i1 = i + 1 := ⟨_, rfl⟩
  have hnI : (n : Int) + 1 = (n1 : Int) := by omega
  have hiI : (i : Int) + 1 = (i1 : Int) := by omega
  have HD1 := Lib.hid (show Ps s i1 r1 from hi1 ▸ h.next)
  have HP0 := Lib.hid h
  have HN1 := Lib.hid (And.intro hn1 (show n1 ≤ 600 by omega))
  rw [← hn1]
  clear hc hlen hb hn1 hi1 h
  have HC := Lib.hid hcc
  have e1 : (c.toNat : Int) = 110 := by omega
  have CS110 : ∀ w, Hid (Calls Tryz.prog 95 #[.int .u8 110] w fun e w' => e = .returned (.bool true) ∧ w = w') := fun w => (show (c.toNat : Int) = 110 from e1) ▸ CS w
  clear hcc CS
  go_enter Tryz.func54, Tryz.ntmps54
  go_upto_region 1 with (fail)
  change Code.wp Tryz.prog _ _ _ ((w.alloc (.cells #[.int .i64 0, .int .i64 0, .string ⟨#[]⟩, .slice none 0 0, .slice none 0 0] 25)).alloc (.cells #[.int .i64 0, .int .i64 0] 75))
  generalize (w.alloc (.cells #[.int .i64 0, .int .i64 0, .string ⟨#[]⟩, .slice none 0 0, .slice none 0 0] 25)).alloc (.cells #[.int .i64 0, .int .i64 0] 75) = V at *
  have C := CS110 V
  clear CS110
  go_wp2_with fail
  refine C.out.mono ?_
  rintro e w' ⟨rfl, rfl⟩
  clear C
  have CE := Lib.hid (rword_any hl HP0.out [110, 117, 108, 108] (by decide) V)
  have HBd : Hid (bodyR pv n1 c r1 = wordV n1 (.mk 0 0 [] [] []) (wordR [110, 117, 108, 108] (c :: r1))) := Lib.hid (by unfold bodyR; rw [if_pos HC.out])
  go_wp2_with fail
  refine CE.out.mono ?_
  rintro e w1 hq
  have HW := Lib.hid (And.intro (below_all HV.out.1 hq.below) (And.intro (HV.out.2.1.all hq.below) (HV.out.2.2.all hq.below)))
  clear CE HV
  cases hR : wordR [110, 117, 108, 108] (c :: r1) with
  | er k b =>
    obtain rfl := hq.er k b hR
    have HQ : Hid (bodyR pv n1 c r1 = .er k b) := Lib.hid (by rw [HBd.out, hR]; rfl)
    clear hR hq
    have hA1 := below_alloc w1 (.cells #[.int .i64 ((s.length - k : Nat)), .int .i64 (b)] 75)
    have oT := Own.new w1 [.int .i64 ((s.length - k : Nat)), .int .i64 (b)] 75
    have HX := Lib.hid (And.intro (below_all HW.out.1 hA1) (And.intro (HW.out.2.1.all hA1) (And.intro (HW.out.2.2.all hA1) oT)))
    have hs1 := HW.out.2.2.lt
    clear hA1 oT HW
    go_upto_region 18 with (fail)
    change Code.wp Tryz.prog _ _ _ (w1.alloc (.cells #[.int .i64 ((s.length - k : Nat)), .int .i64 (b)] 75))
    generalize w1.alloc (.cells #[.int .i64 ((s.length - k : Nat)), .int .i64 (b)] 75) = V1 at *
    have ne1 : ¬ w1.heap.size = w.heap.size := by omega
    have ne2 : ¬ w1.heap.size = w.heap.size + 1 := by omega
    have ne3 : ¬ w.heap.size = w1.heap.size := by omega
    have ne4 : ¬ w.heap.size + 1 = w1.heap.size := by omega
    have t0 := HX.out.2.2.2.cell (i := 0) rfl
    have t1 := HX.out.2.2.2.cell (i := 1) rfl
    have r0 := HX.out.2.1.cell (i := 0) rfl
    have r1 := HX.out.2.1.cell (i := 1) rfl
    have r2 := HX.out.2.1.cell (i := 2) rfl
    have r3 := HX.out.2.1.cell (i := 3) rfl
    have r4 := HX.out.2.1.cell (i := 4) rfl
    have g0 := HX.out.2.1.frozen 0
    have g1 := HX.out.2.1.frozen 1
    have g2 := HX.out.2.1.frozen 2
    have g3 := HX.out.2.1.frozen 3
    have g4 := HX.out.2.1.frozen 4
    have y0 := HX.out.2.2.1.cell (i := 0) rfl
    have y1 := HX.out.2.2.1.cell (i := 1) rfl
    have z0 := HX.out.2.2.1.frozen 0
    have z1 := HX.out.2.2.1.frozen 1
    have HF := Lib.hid (And.intro (fin_own HX.out.2.1 HX.out.2.2.1 (by omega) (.int .i64 0) (.int .i64 0) (.string ⟨#[]⟩) (.slice none 0 0) (.slice none 0 0) (.int .i64 ((s.length - k : Nat))) (.int .i64 (b))).1 (And.intro (fin_own HX.out.2.1 HX.out.2.2.1 (by omega) (.int .i64 0) (.int .i64 0) (.string ⟨#[]⟩) (.slice none 0 0) (.slice none 0 0) (.int .i64 ((s.length - k : Nat))) (.int .i64 (b))).2 (And.intro (below_put7 HX.out.1 (Nat.le_refl _) (Nat.le_succ _) (.int .i64 0) (.int .i64 0) (.string ⟨#[]⟩) (.slice none 0 0) (.slice none 0 0) (.int .i64 ((s.length - k : Nat))) (.int .i64 (b))) (trivial))))
    go_region
    go_wp2
    clear t0 t1
    clear r0 r1 r2 r3 r4 g0 g1 g2 g3 g4 y0 y1 z0 z1
    change bodyPost Tryz.prog Tryz.f54 _ _ _ (put7 V1 w.heap.size (w.heap.size + 1) (.int .i64 0) (.int .i64 0) (.string ⟨#[]⟩) (.slice none 0 0) (.slice none 0 0) (.int .i64 ((s.length - k : Nat))) (.int .i64 (b))).drew
    generalize put7 V1 w.heap.size (w.heap.size + 1) (.int .i64 0) (.int .i64 0) (.string ⟨#[]⟩) (.slice none 0 0) (.slice none 0 0) (.int .i64 ((s.length - k : Nat))) (.int .i64 (b)) = U at *
    obtain ⟨oS, o2S, hBU, hIU⟩ := HF.out
    replace oS := oS.drew
    replace o2S := o2S.drew
    replace hBU := hBU.drew
    have c0 := oS.cell (i := 0) rfl
    have c1 := oS.cell (i := 1) rfl
    have c2 := oS.cell (i := 2) rfl
    have c3 := oS.cell (i := 3) rfl
    have c4 := oS.cell (i := 4) rfl
    have d0 := o2S.cell (i := 0) rfl
    have d1 := o2S.cell (i := 1) rfl
    exact bodyPost_ret (v := .tuple #[.agg #[.int .i64 0, .int .i64 0, .string ⟨#[]⟩, .slice none 0 0, .slice none 0 0], .int .i64 (0), .int .i64 (n1), faultV ((s.length - k : Nat)) (b)]) (by simp [results, Tryz.results54, go_sem, c0, c1, c2, c3, c4, d0, d1, VC.val, VC0, faultV]) rfl (QVr.mkEr ⟨0, 0, [], none, 0, 0, none, 0, 0⟩ (k := k) (b := b) (j := 0) (m := n1) HQ.out hBU rfl)
  | ok p =>
    obtain ⟨j9, hp, rfl⟩ := hq.ok p hR
    have HQ : Hid (bodyR pv n1 c r1 = .ok ((.mk 0 0 [] [] []), n1, p)) := Lib.hid (by rw [HBd.out, hR]; rfl)
    have HP := Lib.hid hp
    clear hR hq hp
    have hA1 := below_alloc w1 (.cells #[.int .i64 (0), .int .i64 (0)] 75)
    have oT := Own.new w1 [.int .i64 (0), .int .i64 (0)] 75
    have HX := Lib.hid (And.intro (below_all HW.out.1 hA1) (And.intro (HW.out.2.1.all hA1) (And.intro (HW.out.2.2.all hA1) oT)))
    have hs1 := HW.out.2.2.lt
    clear hA1 oT HW
    go_upto_region 18 with (fail)
    change Code.wp Tryz.prog _ _ _ (w1.alloc (.cells #[.int .i64 (0), .int .i64 (0)] 75))
    generalize w1.alloc (.cells #[.int .i64 (0), .int .i64 (0)] 75) = V1 at *
    have ne1 : ¬ w1.heap.size = w.heap.size := by omega
    have ne2 : ¬ w1.heap.size = w.heap.size + 1 := by omega
    have ne3 : ¬ w.heap.size = w1.heap.size := by omega
    have ne4 : ¬ w.heap.size + 1 = w1.heap.size := by omega
    have t0 := HX.out.2.2.2.cell (i := 0) rfl
    have t1 := HX.out.2.2.2.cell (i := 1) rfl
    have r0 := HX.out.2.1.cell (i := 0) rfl
    have r1 := HX.out.2.1.cell (i := 1) rfl
    have r2 := HX.out.2.1.cell (i := 2) rfl
    have r3 := HX.out.2.1.cell (i := 3) rfl
    have r4 := HX.out.2.1.cell (i := 4) rfl
    have g0 := HX.out.2.1.frozen 0
    have g1 := HX.out.2.1.frozen 1
    have g2 := HX.out.2.1.frozen 2
    have g3 := HX.out.2.1.frozen 3
    have g4 := HX.out.2.1.frozen 4
    have y0 := HX.out.2.2.1.cell (i := 0) rfl
    have y1 := HX.out.2.2.1.cell (i := 1) rfl
    have z0 := HX.out.2.2.1.frozen 0
    have z1 := HX.out.2.2.1.frozen 1
    have HF := Lib.hid (And.intro (fin_own HX.out.2.1 HX.out.2.2.1 (by omega) (.int .i64 0) (.int .i64 0) (.string ⟨#[]⟩) (.slice none 0 0) (.slice none 0 0) (.int .i64 (0)) (.int .i64 (0))).1 (And.intro (fin_own HX.out.2.1 HX.out.2.2.1 (by omega) (.int .i64 0) (.int .i64 0) (.string ⟨#[]⟩) (.slice none 0 0) (.slice none 0 0) (.int .i64 (0)) (.int .i64 (0))).2 (And.intro (below_put7 HX.out.1 (Nat.le_refl _) (Nat.le_succ _) (.int .i64 0) (.int .i64 0) (.string ⟨#[]⟩) (.slice none 0 0) (.slice none 0 0) (.int .i64 (0)) (.int .i64 (0))) (trivial))))
    go_region
    go_wp2
    clear t0 t1
    clear r0 r1 r2 r3 r4 g0 g1 g2 g3 g4 y0 y1 z0 z1
    change bodyPost Tryz.prog Tryz.f54 _ _ _ (put7 V1 w.heap.size (w.heap.size + 1) (.int .i64 0) (.int .i64 0) (.string ⟨#[]⟩) (.slice none 0 0) (.slice none 0 0) (.int .i64 (0)) (.int .i64 (0))).drew
    generalize put7 V1 w.heap.size (w.heap.size + 1) (.int .i64 0) (.int .i64 0) (.string ⟨#[]⟩) (.slice none 0 0) (.slice none 0 0) (.int .i64 (0)) (.int .i64 (0)) = U at *
    obtain ⟨oS, o2S, hBU, hIU⟩ := HF.out
    replace oS := oS.drew
    replace o2S := o2S.drew
    replace hBU := hBU.drew
    have c0 := oS.cell (i := 0) rfl
    have c1 := oS.cell (i := 1) rfl
    have c2 := oS.cell (i := 2) rfl
    have c3 := oS.cell (i := 3) rfl
    have c4 := oS.cell (i := 4) rfl
    have d0 := o2S.cell (i := 0) rfl
    have d1 := o2S.cell (i := 1) rfl
    exact bodyPost_ret (v := .tuple #[.agg #[.int .i64 0, .int .i64 0, .string ⟨#[]⟩, .slice none 0 0, .slice none 0 0], .int .i64 (j9), .int .i64 (n1), faultV (0) (0)]) (by simp [results, Tryz.results54, go_sem, c0, c1, c2, c3, c4, d0, d1, VC.val, VC0, faultV]) rfl (QVr.mkOk (c := ⟨0, 0, [], none, 0, 0, none, 0, 0⟩) (j := j9) HQ.out hBU HP.out (isA_leaf _ _ _ _ _) rfl)

set_option maxHeartbeats 8000000 in
set_option maxRecDepth 4000 in
theorem rvalue_true {s : Str} (hl : s.length ≤ 20000) {pv : PV} {d : Int} (hd1 : 1 ≤ d) (hd2 : d ≤ 12) (n : Nat) (hn : n < 600) (c : UInt8) (r1 : Str) (i : Nat) (w : World) (h : Ps s i (c :: r1)) (hb : bgn c = true) (hcc : c.toNat = 116) :
    Calls Tryz.prog 54 #[sV s, .int .i64 i, .int .i64 d, .int .i64 n, .bool false] w (QVr s w (bodyR pv (n + 1) c r1)) := by
  have hbA := (below_alloc w (.cells #[.int .i64 0, .int .i64 0, .string ⟨#[]⟩, .slice none 0 0, .slice none 0 0] 25)).alloc (by rw [size_alloc]; omega) (.cells #[.int .i64 0, .int .i64 0] 75)
  have oA := (Own.new w [.int .i64 0, .int .i64 0, .string ⟨#[]⟩, .slice none 0 0, .slice none 0 0] 25).alloc (.cells #[.int .i64 0, .int .i64 0] 75)
  have oB : Own ((w.alloc (.cells #[.int .i64 0, .int .i64 0, .string ⟨#[]⟩, .slice none 0 0, .slice none 0 0] 25)).alloc (.cells #[.int .i64 0, .int .i64 0] 75)) (w.heap.size + 1) [.int .i64 0, .int .i64 0] 75 := Own.new_at (by rw [size_alloc]) _ _
  have HV := Lib.hid (And.intro hbA (And.intro oA oB))
  clear hbA oA oB
  obtain ⟨hlt, hc, -, hlen⟩ := drop_byte h.dr
  have hm : ((⟨s.toArray⟩ : ByteArray)[i]'hlt).toNat = c.toNat := by rw [← hc]; rfl
  have HLEN := Lib.hid hlen
  have CS := fun w => rstarts_any c w
  rw [hb] at CS
  replace CS := fun w => Lib.hid (CS w)
  obtain ⟨n1, hn1⟩ : ∃ n1 : Nat, n1 = n + 1 := ⟨_, rfl⟩
  obtain ⟨i1, hi1⟩ : ∃ i1 : Nat, i1 = i + 1 := ⟨_, rfl⟩
  have hnI : (n : Int) + 1 = (n1 : Int) := by omega
  have hiI : (i : Int) + 1 = (i1 : Int) := by omega
  have HD1 := Lib.hid (show Ps s i1 r1 from hi1 ▸ h.next)
  have HP0 := Lib.hid h
  have HN1 := Lib.hid (And.intro hn1 (show n1 ≤ 600 by omega))
  rw [← hn1]
  clear hc hlen hb hn1 hi1 h
  have HC := Lib.hid hcc
  have e1 : (c.toNat : Int) = 116 := by omega
  have CS116 : ∀ w, Hid (Calls Tryz.prog 95 #[.int .u8 116] w fun e w' => e = .returned (.bool true) ∧ w = w') := fun w => (show (c.toNat : Int) = 116 from e1) ▸ CS w
  clear hcc CS
  go_enter Tryz.func54, Tryz.ntmps54
  go_upto_region 1 with (fail)
  change Code.wp Tryz.prog _ _ _ ((w.alloc (.cells #[.int .i64 0, .int .i64 0, .string ⟨#[]⟩, .slice none 0 0, .slice none 0 0] 25)).alloc (.cells #[.int .i64 0, .int .i64 0] 75))
  generalize (w.alloc (.cells #[.int .i64 0, .int .i64 0, .string ⟨#[]⟩, .slice none 0 0, .slice none 0 0] 25)).alloc (.cells #[.int .i64 0, .int .i64 0] 75) = V at *
  have C := CS116 V
  clear CS116
  go_wp2_with fail
  refine C.out.mono ?_
  rintro e w' ⟨rfl, rfl⟩
  clear C
  have CE := Lib.hid (rword_any hl HP0.out [116, 114, 117, 101] (by decide) V)
  have HBd : Hid (bodyR pv n1 c r1 = wordV n1 (.mk 1 1 [] [] []) (wordR [116, 114, 117, 101] (c :: r1))) := Lib.hid (by unfold bodyR; rw [if_neg (by have := HC.out; omega), if_pos HC.out])
  go_wp2_with fail
  refine CE.out.mono ?_
  rintro e w1 hq
  have HW := Lib.hid (And.intro (below_all HV.out.1 hq.below) (And.intro (HV.out.2.1.all hq.below) (HV.out.2.2.all hq.below)))
  clear CE HV
  cases hR : wordR [116, 114, 117, 101] (c :: r1) with
  | er k b =>
    obtain rfl := hq.er k b hR
    have HQ : Hid (bodyR pv n1 c r1 = .er k b) := Lib.hid (by rw [HBd.out, hR]; rfl)
    clear hR hq
    have hA1 := below_alloc w1 (.cells #[.int .i64 ((s.length - k : Nat)), .int .i64 (b)] 75)
    have oT := Own.new w1 [.int .i64 ((s.length - k : Nat)), .int .i64 (b)] 75
    have HX := Lib.hid (And.intro (below_all HW.out.1 hA1) (And.intro (HW.out.2.1.all hA1) (And.intro (HW.out.2.2.all hA1) oT)))
    have hs1 := HW.out.2.2.lt
    clear hA1 oT HW
    go_upto_region 21 with (fail)
    change Code.wp Tryz.prog _ _ _ (w1.alloc (.cells #[.int .i64 ((s.length - k : Nat)), .int .i64 (b)] 75))
    generalize w1.alloc (.cells #[.int .i64 ((s.length - k : Nat)), .int .i64 (b)] 75) = V1 at *
    have ne1 : ¬ w1.heap.size = w.heap.size := by omega
    have ne2 : ¬ w1.heap.size = w.heap.size + 1 := by omega
    have ne3 : ¬ w.heap.size = w1.heap.size := by omega
    have ne4 : ¬ w.heap.size + 1 = w1.heap.size := by omega
    have t0 := HX.out.2.2.2.cell (i := 0) rfl
    have t1 := HX.out.2.2.2.cell (i := 1) rfl
    have r0 := HX.out.2.1.cell (i := 0) rfl
    have r1 := HX.out.2.1.cell (i := 1) rfl
    have r2 := HX.out.2.1.cell (i := 2) rfl
    have r3 := HX.out.2.1.cell (i := 3) rfl
    have r4 := HX.out.2.1.cell (i := 4) rfl
    have g0 := HX.out.2.1.frozen 0
    have g1 := HX.out.2.1.frozen 1
    have g2 := HX.out.2.1.frozen 2
    have g3 := HX.out.2.1.frozen 3
    have g4 := HX.out.2.1.frozen 4
    have y0 := HX.out.2.2.1.cell (i := 0) rfl
    have y1 := HX.out.2.2.1.cell (i := 1) rfl
    have z0 := HX.out.2.2.1.frozen 0
    have z1 := HX.out.2.2.1.frozen 1
    have HF := Lib.hid (And.intro (fin_own HX.out.2.1 HX.out.2.2.1 (by omega) (.int .i64 1) (.int .i64 1) (.string ⟨#[]⟩) (.slice none 0 0) (.slice none 0 0) (.int .i64 ((s.length - k : Nat))) (.int .i64 (b))).1 (And.intro (fin_own HX.out.2.1 HX.out.2.2.1 (by omega) (.int .i64 1) (.int .i64 1) (.string ⟨#[]⟩) (.slice none 0 0) (.slice none 0 0) (.int .i64 ((s.length - k : Nat))) (.int .i64 (b))).2 (And.intro (below_put7 HX.out.1 (Nat.le_refl _) (Nat.le_succ _) (.int .i64 1) (.int .i64 1) (.string ⟨#[]⟩) (.slice none 0 0) (.slice none 0 0) (.int .i64 ((s.length - k : Nat))) (.int .i64 (b))) (trivial))))
    go_region
    go_wp2
    clear t0 t1
    clear r0 r1 r2 r3 r4 g0 g1 g2 g3 g4 y0 y1 z0 z1
    change bodyPost Tryz.prog Tryz.f54 _ _ _ (put7 V1 w.heap.size (w.heap.size + 1) (.int .i64 1) (.int .i64 1) (.string ⟨#[]⟩) (.slice none 0 0) (.slice none 0 0) (.int .i64 ((s.length - k : Nat))) (.int .i64 (b))).drew
    generalize put7 V1 w.heap.size (w.heap.size + 1) (.int .i64 1) (.int .i64 1) (.string ⟨#[]⟩) (.slice none 0 0) (.slice none 0 0) (.int .i64 ((s.length - k : Nat))) (.int .i64 (b)) = U at *
    obtain ⟨oS, o2S, hBU, hIU⟩ := HF.out
    replace oS := oS.drew
    replace o2S := o2S.drew
    replace hBU := hBU.drew
    have c0 := oS.cell (i := 0) rfl
    have c1 := oS.cell (i := 1) rfl
    have c2 := oS.cell (i := 2) rfl
    have c3 := oS.cell (i := 3) rfl
    have c4 := oS.cell (i := 4) rfl
    have d0 := o2S.cell (i := 0) rfl
    have d1 := o2S.cell (i := 1) rfl
    exact bodyPost_ret (v := .tuple #[.agg #[.int .i64 1, .int .i64 1, .string ⟨#[]⟩, .slice none 0 0, .slice none 0 0], .int .i64 (0), .int .i64 (n1), faultV ((s.length - k : Nat)) (b)]) (by simp [results, Tryz.results54, go_sem, c0, c1, c2, c3, c4, d0, d1, VC.val, VC0, faultV]) rfl (QVr.mkEr ⟨1, 1, [], none, 0, 0, none, 0, 0⟩ (k := k) (b := b) (j := 0) (m := n1) HQ.out hBU rfl)
  | ok p =>
    obtain ⟨j9, hp, rfl⟩ := hq.ok p hR
    have HQ : Hid (bodyR pv n1 c r1 = .ok ((.mk 1 1 [] [] []), n1, p)) := Lib.hid (by rw [HBd.out, hR]; rfl)
    have HP := Lib.hid hp
    clear hR hq hp
    have hA1 := below_alloc w1 (.cells #[.int .i64 (0), .int .i64 (0)] 75)
    have oT := Own.new w1 [.int .i64 (0), .int .i64 (0)] 75
    have HX := Lib.hid (And.intro (below_all HW.out.1 hA1) (And.intro (HW.out.2.1.all hA1) (And.intro (HW.out.2.2.all hA1) oT)))
    have hs1 := HW.out.2.2.lt
    clear hA1 oT HW
    go_upto_region 21 with (fail)
    change Code.wp Tryz.prog _ _ _ (w1.alloc (.cells #[.int .i64 (0), .int .i64 (0)] 75))
    generalize w1.alloc (.cells #[.int .i64 (0), .int .i64 (0)] 75) = V1 at *
    have ne1 : ¬ w1.heap.size = w.heap.size := by omega
    have ne2 : ¬ w1.heap.size = w.heap.size + 1 := by omega
    have ne3 : ¬ w.heap.size = w1.heap.size := by omega
    have ne4 : ¬ w.heap.size + 1 = w1.heap.size := by omega
    have t0 := HX.out.2.2.2.cell (i := 0) rfl
    have t1 := HX.out.2.2.2.cell (i := 1) rfl
    have r0 := HX.out.2.1.cell (i := 0) rfl
    have r1 := HX.out.2.1.cell (i := 1) rfl
    have r2 := HX.out.2.1.cell (i := 2) rfl
    have r3 := HX.out.2.1.cell (i := 3) rfl
    have r4 := HX.out.2.1.cell (i := 4) rfl
    have g0 := HX.out.2.1.frozen 0
    have g1 := HX.out.2.1.frozen 1
    have g2 := HX.out.2.1.frozen 2
    have g3 := HX.out.2.1.frozen 3
    have g4 := HX.out.2.1.frozen 4
    have y0 := HX.out.2.2.1.cell (i := 0) rfl
    have y1 := HX.out.2.2.1.cell (i := 1) rfl
    have z0 := HX.out.2.2.1.frozen 0
    have z1 := HX.out.2.2.1.frozen 1
    have HF := Lib.hid (And.intro (fin_own HX.out.2.1 HX.out.2.2.1 (by omega) (.int .i64 1) (.int .i64 1) (.string ⟨#[]⟩) (.slice none 0 0) (.slice none 0 0) (.int .i64 (0)) (.int .i64 (0))).1 (And.intro (fin_own HX.out.2.1 HX.out.2.2.1 (by omega) (.int .i64 1) (.int .i64 1) (.string ⟨#[]⟩) (.slice none 0 0) (.slice none 0 0) (.int .i64 (0)) (.int .i64 (0))).2 (And.intro (below_put7 HX.out.1 (Nat.le_refl _) (Nat.le_succ _) (.int .i64 1) (.int .i64 1) (.string ⟨#[]⟩) (.slice none 0 0) (.slice none 0 0) (.int .i64 (0)) (.int .i64 (0))) (trivial))))
    go_region
    go_wp2
    clear t0 t1
    clear r0 r1 r2 r3 r4 g0 g1 g2 g3 g4 y0 y1 z0 z1
    change bodyPost Tryz.prog Tryz.f54 _ _ _ (put7 V1 w.heap.size (w.heap.size + 1) (.int .i64 1) (.int .i64 1) (.string ⟨#[]⟩) (.slice none 0 0) (.slice none 0 0) (.int .i64 (0)) (.int .i64 (0))).drew
    generalize put7 V1 w.heap.size (w.heap.size + 1) (.int .i64 1) (.int .i64 1) (.string ⟨#[]⟩) (.slice none 0 0) (.slice none 0 0) (.int .i64 (0)) (.int .i64 (0)) = U at *
    obtain ⟨oS, o2S, hBU, hIU⟩ := HF.out
    replace oS := oS.drew
    replace o2S := o2S.drew
    replace hBU := hBU.drew
    have c0 := oS.cell (i := 0) rfl
    have c1 := oS.cell (i := 1) rfl
    have c2 := oS.cell (i := 2) rfl
    have c3 := oS.cell (i := 3) rfl
    have c4 := oS.cell (i := 4) rfl
    have d0 := o2S.cell (i := 0) rfl
    have d1 := o2S.cell (i := 1) rfl
    exact bodyPost_ret (v := .tuple #[.agg #[.int .i64 1, .int .i64 1, .string ⟨#[]⟩, .slice none 0 0, .slice none 0 0], .int .i64 (j9), .int .i64 (n1), faultV (0) (0)]) (by simp [results, Tryz.results54, go_sem, c0, c1, c2, c3, c4, d0, d1, VC.val, VC0, faultV]) rfl (QVr.mkOk (c := ⟨1, 1, [], none, 0, 0, none, 0, 0⟩) (j := j9) HQ.out hBU HP.out (isA_leaf _ _ _ _ _) rfl)

set_option maxHeartbeats 8000000 in
set_option maxRecDepth 4000 in
theorem rvalue_false {s : Str} (hl : s.length ≤ 20000) {pv : PV} {d : Int} (hd1 : 1 ≤ d) (hd2 : d ≤ 12) (n : Nat) (hn : n < 600) (c : UInt8) (r1 : Str) (i : Nat) (w : World) (h : Ps s i (c :: r1)) (hb : bgn c = true) (hcc : c.toNat = 102) :
    Calls Tryz.prog 54 #[sV s, .int .i64 i, .int .i64 d, .int .i64 n, .bool false] w (QVr s w (bodyR pv (n + 1) c r1)) := by
  have hbA := (below_alloc w (.cells #[.int .i64 0, .int .i64 0, .string ⟨#[]⟩, .slice none 0 0, .slice none 0 0] 25)).alloc (by rw [size_alloc]; omega) (.cells #[.int .i64 0, .int .i64 0] 75)
  have oA := (Own.new w [.int .i64 0, .int .i64 0, .string ⟨#[]⟩, .slice none 0 0, .slice none 0 0] 25).alloc (.cells #[.int .i64 0, .int .i64 0] 75)
  have oB : Own ((w.alloc (.cells #[.int .i64 0, .int .i64 0, .string ⟨#[]⟩, .slice none 0 0, .slice none 0 0] 25)).alloc (.cells #[.int .i64 0, .int .i64 0] 75)) (w.heap.size + 1) [.int .i64 0, .int .i64 0] 75 := Own.new_at (by rw [size_alloc]) _ _
  have HV := Lib.hid (And.intro hbA (And.intro oA oB))
  clear hbA oA oB
  obtain ⟨hlt, hc, -, hlen⟩ := drop_byte h.dr
  have hm : ((⟨s.toArray⟩ : ByteArray)[i]'hlt).toNat = c.toNat := by rw [← hc]; rfl
  have HLEN := Lib.hid hlen
  have CS := fun w => rstarts_any c w
  rw [hb] at CS
  replace CS := fun w => Lib.hid (CS w)
  obtain ⟨n1, hn1⟩ : ∃ n1 : Nat, n1 = n + 1 := ⟨_, rfl⟩
  obtain ⟨i1, hi1⟩ : ∃ i1 : Nat, i1 = i + 1 := ⟨_, rfl⟩
  have hnI : (n : Int) + 1 = (n1 : Int) := by omega
  have hiI : (i : Int) + 1 = (i1 : Int) := by omega
  have HD1 := Lib.hid (show Ps s i1 r1 from hi1 ▸ h.next)
  have HP0 := Lib.hid h
  have HN1 := Lib.hid (And.intro hn1 (show n1 ≤ 600 by omega))
  rw [← hn1]
  clear hc hlen hb hn1 hi1 h
  have HC := Lib.hid hcc
  have e1 : (c.toNat : Int) = 102 := by omega
  have CS102 : ∀ w, Hid (Calls Tryz.prog 95 #[.int .u8 102] w fun e w' => e = .returned (.bool true) ∧ w = w') := fun w => (show (c.toNat : Int) = 102 from e1) ▸ CS w
  clear hcc CS
  go_enter Tryz.func54, Tryz.ntmps54
  go_upto_region 1 with (fail)
  change Code.wp Tryz.prog _ _ _ ((w.alloc (.cells #[.int .i64 0, .int .i64 0, .string ⟨#[]⟩, .slice none 0 0, .slice none 0 0] 25)).alloc (.cells #[.int .i64 0, .int .i64 0] 75))
  generalize (w.alloc (.cells #[.int .i64 0, .int .i64 0, .string ⟨#[]⟩, .slice none 0 0, .slice none 0 0] 25)).alloc (.cells #[.int .i64 0, .int .i64 0] 75) = V at *
  have C := CS102 V
  clear CS102
  go_wp2_with fail
  refine C.out.mono ?_
  rintro e w' ⟨rfl, rfl⟩
  clear C
  have CE := Lib.hid (rword_any hl HP0.out [102, 97, 108, 115, 101] (by decide) V)
  have HBd : Hid (bodyR pv n1 c r1 = wordV n1 (.mk 1 0 [] [] []) (wordR [102, 97, 108, 115, 101] (c :: r1))) := Lib.hid (by unfold bodyR; rw [if_neg (by have := HC.out; omega), if_neg (by have := HC.out; omega), if_pos HC.out])
  go_wp2_with fail
  refine CE.out.mono ?_
  rintro e w1 hq
  have HW := Lib.hid (And.intro (below_all HV.out.1 hq.below) (And.intro (HV.out.2.1.all hq.below) (HV.out.2.2.all hq.below)))
  clear CE HV
  cases hR : wordR [102, 97, 108, 115, 101] (c :: r1) with
  | er k b =>
    obtain rfl := hq.er k b hR
    have HQ : Hid (bodyR pv n1 c r1 = .er k b) := Lib.hid (by rw [HBd.out, hR]; rfl)
    clear hR hq
    have hA1 := below_alloc w1 (.cells #[.int .i64 ((s.length - k : Nat)), .int .i64 (b)] 75)
    have oT := Own.new w1 [.int .i64 ((s.length - k : Nat)), .int .i64 (b)] 75
    have HX := Lib.hid (And.intro (below_all HW.out.1 hA1) (And.intro (HW.out.2.1.all hA1) (And.intro (HW.out.2.2.all hA1) oT)))
    have hs1 := HW.out.2.2.lt
    clear hA1 oT HW
    go_upto_region 24 with (fail)
    change Code.wp Tryz.prog _ _ _ (w1.alloc (.cells #[.int .i64 ((s.length - k : Nat)), .int .i64 (b)] 75))
    generalize w1.alloc (.cells #[.int .i64 ((s.length - k : Nat)), .int .i64 (b)] 75) = V1 at *
    have ne1 : ¬ w1.heap.size = w.heap.size := by omega
    have ne2 : ¬ w1.heap.size = w.heap.size + 1 := by omega
    have ne3 : ¬ w.heap.size = w1.heap.size := by omega
    have ne4 : ¬ w.heap.size + 1 = w1.heap.size := by omega
    have t0 := HX.out.2.2.2.cell (i := 0) rfl
    have t1 := HX.out.2.2.2.cell (i := 1) rfl
    have r0 := HX.out.2.1.cell (i := 0) rfl
    have r1 := HX.out.2.1.cell (i := 1) rfl
    have r2 := HX.out.2.1.cell (i := 2) rfl
    have r3 := HX.out.2.1.cell (i := 3) rfl
    have r4 := HX.out.2.1.cell (i := 4) rfl
    have g0 := HX.out.2.1.frozen 0
    have g1 := HX.out.2.1.frozen 1
    have g2 := HX.out.2.1.frozen 2
    have g3 := HX.out.2.1.frozen 3
    have g4 := HX.out.2.1.frozen 4
    have y0 := HX.out.2.2.1.cell (i := 0) rfl
    have y1 := HX.out.2.2.1.cell (i := 1) rfl
    have z0 := HX.out.2.2.1.frozen 0
    have z1 := HX.out.2.2.1.frozen 1
    have HF := Lib.hid (And.intro (fin_own HX.out.2.1 HX.out.2.2.1 (by omega) (.int .i64 1) (.int .i64 0) (.string ⟨#[]⟩) (.slice none 0 0) (.slice none 0 0) (.int .i64 ((s.length - k : Nat))) (.int .i64 (b))).1 (And.intro (fin_own HX.out.2.1 HX.out.2.2.1 (by omega) (.int .i64 1) (.int .i64 0) (.string ⟨#[]⟩) (.slice none 0 0) (.slice none 0 0) (.int .i64 ((s.length - k : Nat))) (.int .i64 (b))).2 (And.intro (below_put7 HX.out.1 (Nat.le_refl _) (Nat.le_succ _) (.int .i64 1) (.int .i64 0) (.string ⟨#[]⟩) (.slice none 0 0) (.slice none 0 0) (.int .i64 ((s.length - k : Nat))) (.int .i64 (b))) (trivial))))
    go_region
    go_wp2
    clear t0 t1
    clear r0 r1 r2 r3 r4 g0 g1 g2 g3 g4 y0 y1 z0 z1
    change bodyPost Tryz.prog Tryz.f54 _ _ _ (put7 V1 w.heap.size (w.heap.size + 1) (.int .i64 1) (.int .i64 0) (.string ⟨#[]⟩) (.slice none 0 0) (.slice none 0 0) (.int .i64 ((s.length - k : Nat))) (.int .i64 (b))).drew
    generalize put7 V1 w.heap.size (w.heap.size + 1) (.int .i64 1) (.int .i64 0) (.string ⟨#[]⟩) (.slice none 0 0) (.slice none 0 0) (.int .i64 ((s.length - k : Nat))) (.int .i64 (b)) = U at *
    obtain ⟨oS, o2S, hBU, hIU⟩ := HF.out
    replace oS := oS.drew
    replace o2S := o2S.drew
    replace hBU := hBU.drew
    have c0 := oS.cell (i := 0) rfl
    have c1 := oS.cell (i := 1) rfl
    have c2 := oS.cell (i := 2) rfl
    have c3 := oS.cell (i := 3) rfl
    have c4 := oS.cell (i := 4) rfl
    have d0 := o2S.cell (i := 0) rfl
    have d1 := o2S.cell (i := 1) rfl
    exact bodyPost_ret (v := .tuple #[.agg #[.int .i64 1, .int .i64 0, .string ⟨#[]⟩, .slice none 0 0, .slice none 0 0], .int .i64 (0), .int .i64 (n1), faultV ((s.length - k : Nat)) (b)]) (by simp [results, Tryz.results54, go_sem, c0, c1, c2, c3, c4, d0, d1, VC.val, VC0, faultV]) rfl (QVr.mkEr ⟨1, 0, [], none, 0, 0, none, 0, 0⟩ (k := k) (b := b) (j := 0) (m := n1) HQ.out hBU rfl)
  | ok p =>
    obtain ⟨j9, hp, rfl⟩ := hq.ok p hR
    have HQ : Hid (bodyR pv n1 c r1 = .ok ((.mk 1 0 [] [] []), n1, p)) := Lib.hid (by rw [HBd.out, hR]; rfl)
    have HP := Lib.hid hp
    clear hR hq hp
    have hA1 := below_alloc w1 (.cells #[.int .i64 (0), .int .i64 (0)] 75)
    have oT := Own.new w1 [.int .i64 (0), .int .i64 (0)] 75
    have HX := Lib.hid (And.intro (below_all HW.out.1 hA1) (And.intro (HW.out.2.1.all hA1) (And.intro (HW.out.2.2.all hA1) oT)))
    have hs1 := HW.out.2.2.lt
    clear hA1 oT HW
    go_upto_region 24 with (fail)
    change Code.wp Tryz.prog _ _ _ (w1.alloc (.cells #[.int .i64 (0), .int .i64 (0)] 75))
    generalize w1.alloc (.cells #[.int .i64 (0), .int .i64 (0)] 75) = V1 at *
    have ne1 : ¬ w1.heap.size = w.heap.size := by omega
    have ne2 : ¬ w1.heap.size = w.heap.size + 1 := by omega
    have ne3 : ¬ w.heap.size = w1.heap.size := by omega
    have ne4 : ¬ w.heap.size + 1 = w1.heap.size := by omega
    have t0 := HX.out.2.2.2.cell (i := 0) rfl
    have t1 := HX.out.2.2.2.cell (i := 1) rfl
    have r0 := HX.out.2.1.cell (i := 0) rfl
    have r1 := HX.out.2.1.cell (i := 1) rfl
    have r2 := HX.out.2.1.cell (i := 2) rfl
    have r3 := HX.out.2.1.cell (i := 3) rfl
    have r4 := HX.out.2.1.cell (i := 4) rfl
    have g0 := HX.out.2.1.frozen 0
    have g1 := HX.out.2.1.frozen 1
    have g2 := HX.out.2.1.frozen 2
    have g3 := HX.out.2.1.frozen 3
    have g4 := HX.out.2.1.frozen 4
    have y0 := HX.out.2.2.1.cell (i := 0) rfl
    have y1 := HX.out.2.2.1.cell (i := 1) rfl
    have z0 := HX.out.2.2.1.frozen 0
    have z1 := HX.out.2.2.1.frozen 1
    have HF := Lib.hid (And.intro (fin_own HX.out.2.1 HX.out.2.2.1 (by omega) (.int .i64 1) (.int .i64 0) (.string ⟨#[]⟩) (.slice none 0 0) (.slice none 0 0) (.int .i64 (0)) (.int .i64 (0))).1 (And.intro (fin_own HX.out.2.1 HX.out.2.2.1 (by omega) (.int .i64 1) (.int .i64 0) (.string ⟨#[]⟩) (.slice none 0 0) (.slice none 0 0) (.int .i64 (0)) (.int .i64 (0))).2 (And.intro (below_put7 HX.out.1 (Nat.le_refl _) (Nat.le_succ _) (.int .i64 1) (.int .i64 0) (.string ⟨#[]⟩) (.slice none 0 0) (.slice none 0 0) (.int .i64 (0)) (.int .i64 (0))) (trivial))))
    go_region
    go_wp2
    clear t0 t1
    clear r0 r1 r2 r3 r4 g0 g1 g2 g3 g4 y0 y1 z0 z1
    change bodyPost Tryz.prog Tryz.f54 _ _ _ (put7 V1 w.heap.size (w.heap.size + 1) (.int .i64 1) (.int .i64 0) (.string ⟨#[]⟩) (.slice none 0 0) (.slice none 0 0) (.int .i64 (0)) (.int .i64 (0))).drew
    generalize put7 V1 w.heap.size (w.heap.size + 1) (.int .i64 1) (.int .i64 0) (.string ⟨#[]⟩) (.slice none 0 0) (.slice none 0 0) (.int .i64 (0)) (.int .i64 (0)) = U at *
    obtain ⟨oS, o2S, hBU, hIU⟩ := HF.out
    replace oS := oS.drew
    replace o2S := o2S.drew
    replace hBU := hBU.drew
    have c0 := oS.cell (i := 0) rfl
    have c1 := oS.cell (i := 1) rfl
    have c2 := oS.cell (i := 2) rfl
    have c3 := oS.cell (i := 3) rfl
    have c4 := oS.cell (i := 4) rfl
    have d0 := o2S.cell (i := 0) rfl
    have d1 := o2S.cell (i := 1) rfl
    exact bodyPost_ret (v := .tuple #[.agg #[.int .i64 1, .int .i64 0, .string ⟨#[]⟩, .slice none 0 0, .slice none 0 0], .int .i64 (j9), .int .i64 (n1), faultV (0) (0)]) (by simp [results, Tryz.results54, go_sem, c0, c1, c2, c3, c4, d0, d1, VC.val, VC0, faultV]) rfl (QVr.mkOk (c := ⟨1, 0, [], none, 0, 0, none, 0, 0⟩) (j := j9) HQ.out hBU HP.out (isA_leaf _ _ _ _ _) rfl)

set_option maxHeartbeats 8000000 in
set_option maxRecDepth 4000 in
theorem rvalue_num {s : Str} (hl : s.length ≤ 20000) {pv : PV} {d : Int} (hd1 : 1 ≤ d) (hd2 : d ≤ 12) (n : Nat) (hn : n < 600) (c : UInt8) (r1 : Str) (i : Nat) (w : World) (h : Ps s i (c :: r1)) (hb : bgn c = true) (hcc : ¬ c.toNat = 110 ∧ ¬ c.toNat = 116 ∧ ¬ c.toNat = 102 ∧ ¬ c.toNat = 34 ∧ ¬ c.toNat = 91 ∧ ¬ c.toNat = 123) :
    Calls Tryz.prog 54 #[sV s, .int .i64 i, .int .i64 d, .int .i64 n, .bool false] w (QVr s w (bodyR pv (n + 1) c r1)) := by
  have hbA := (below_alloc w (.cells #[.int .i64 0, .int .i64 0, .string ⟨#[]⟩, .slice none 0 0, .slice none 0 0] 25)).alloc (by rw [size_alloc]; omega) (.cells #[.int .i64 0, .int .i64 0] 75)
  have oA := (Own.new w [.int .i64 0, .int .i64 0, .string ⟨#[]⟩, .slice none 0 0, .slice none 0 0] 25).alloc (.cells #[.int .i64 0, .int .i64 0] 75)
  have oB : Own ((w.alloc (.cells #[.int .i64 0, .int .i64 0, .string ⟨#[]⟩, .slice none 0 0, .slice none 0 0] 25)).alloc (.cells #[.int .i64 0, .int .i64 0] 75)) (w.heap.size + 1) [.int .i64 0, .int .i64 0] 75 := Own.new_at (by rw [size_alloc]) _ _
  have HV := Lib.hid (And.intro hbA (And.intro oA oB))
  clear hbA oA oB
  obtain ⟨hlt, hc, -, hlen⟩ := drop_byte h.dr
  have hm : ((⟨s.toArray⟩ : ByteArray)[i]'hlt).toNat = c.toNat := by rw [← hc]; rfl
  have HLEN := Lib.hid hlen
  have CS := fun w => rstarts_any c w
  rw [hb] at CS
  replace CS := fun w => Lib.hid (CS w)
  obtain ⟨n1, hn1⟩ : ∃ n1 : Nat, n1 = n + 1 := ⟨_, rfl⟩
  obtain ⟨i1, hi1⟩ : ∃ i1 : Nat, i1 = i + 1 := ⟨_, rfl⟩
  have hnI : (n : Int) + 1 = (n1 : Int) := by omega
  have hiI : (i : Int) + 1 = (i1 : Int) := by omega
  have HD1 := Lib.hid (show Ps s i1 r1 from hi1 ▸ h.next)
  have HP0 := Lib.hid h
  have HN1 := Lib.hid (And.intro hn1 (show n1 ≤ 600 by omega))
  rw [← hn1]
  clear hc hlen hb hn1 hi1 h
  have HC := Lib.hid hcc
  obtain ⟨f1, f2, f3, f4, f5, f6⟩ := hcc
  have e110 : ¬ (c.toNat : Int) = 110 := by omega
  have b110 : ((c.toNat : Int) == 110) = false := by rw [beq_eq_false_iff_ne]; exact e110
  have e116 : ¬ (c.toNat : Int) = 116 := by omega
  have b116 : ((c.toNat : Int) == 116) = false := by rw [beq_eq_false_iff_ne]; exact e116
  have e102 : ¬ (c.toNat : Int) = 102 := by omega
  have b102 : ((c.toNat : Int) == 102) = false := by rw [beq_eq_false_iff_ne]; exact e102
  have e34 : ¬ (c.toNat : Int) = 34 := by omega
  have b34 : ((c.toNat : Int) == 34) = false := by rw [beq_eq_false_iff_ne]; exact e34
  have e91 : ¬ (c.toNat : Int) = 91 := by omega
  have b91 : ((c.toNat : Int) == 91) = false := by rw [beq_eq_false_iff_ne]; exact e91
  have e123 : ¬ (c.toNat : Int) = 123 := by omega
  have b123 : ((c.toNat : Int) == 123) = false := by rw [beq_eq_false_iff_ne]; exact e123
  clear f1 f2 f3 f4 f5 f6
  go_enter Tryz.func54, Tryz.ntmps54
  go_upto_region 1 with (fail)
  change Code.wp Tryz.prog _ _ _ ((w.alloc (.cells #[.int .i64 0, .int .i64 0, .string ⟨#[]⟩, .slice none 0 0, .slice none 0 0] 25)).alloc (.cells #[.int .i64 0, .int .i64 0] 75))
  generalize (w.alloc (.cells #[.int .i64 0, .int .i64 0, .string ⟨#[]⟩, .slice none 0 0, .slice none 0 0] 25)).alloc (.cells #[.int .i64 0, .int .i64 0] 75) = V at *
  have C := CS V
  clear CS
  go_wp2_with fail
  refine C.out.mono ?_
  rintro e w' ⟨rfl, rfl⟩
  clear C
  have CE := Lib.hid (rnumber_any hl HP0.out V)
  have HBd : Hid (bodyR pv n1 c r1 = wrapR n1 (fun k => .mk 2 k [] [] []) (numR (c :: r1))) := Lib.hid (by unfold bodyR; rw [if_neg HC.out.1, if_neg HC.out.2.1, if_neg HC.out.2.2.1, if_neg HC.out.2.2.2.1, if_neg HC.out.2.2.2.2.1, if_neg HC.out.2.2.2.2.2])
  go_wp2_with fail
  refine CE.out.mono ?_
  rintro e w1 hq
  have HW := Lib.hid (And.intro (below_all HV.out.1 hq.below) (And.intro (HV.out.2.1.all hq.below) (HV.out.2.2.all hq.below)))
  clear CE HV
  cases hR : numR (c :: r1) with
  | er k b =>
    obtain rfl := hq.er k b hR
    have HQ : Hid (bodyR pv n1 c r1 = .er k b) := Lib.hid (by rw [HBd.out, hR]; rfl)
    clear hR hq
    have hA1 := below_alloc w1 (.cells #[.int .i64 ((s.length - k : Nat)), .int .i64 (b)] 75)
    have oT := Own.new w1 [.int .i64 ((s.length - k : Nat)), .int .i64 (b)] 75
    have HX := Lib.hid (And.intro (below_all HW.out.1 hA1) (And.intro (HW.out.2.1.all hA1) (And.intro (HW.out.2.2.all hA1) oT)))
    have hs1 := HW.out.2.2.lt
    clear hA1 oT HW
    go_upto_region 26 with (fail)
    change Code.wp Tryz.prog _ _ _ (w1.alloc (.cells #[.int .i64 ((s.length - k : Nat)), .int .i64 (b)] 75))
    generalize w1.alloc (.cells #[.int .i64 ((s.length - k : Nat)), .int .i64 (b)] 75) = V1 at *
    have ne1 : ¬ w1.heap.size = w.heap.size := by omega
    have ne2 : ¬ w1.heap.size = w.heap.size + 1 := by omega
    have ne3 : ¬ w.heap.size = w1.heap.size := by omega
    have ne4 : ¬ w.heap.size + 1 = w1.heap.size := by omega
    have t0 := HX.out.2.2.2.cell (i := 0) rfl
    have t1 := HX.out.2.2.2.cell (i := 1) rfl
    have r0 := HX.out.2.1.cell (i := 0) rfl
    have r1 := HX.out.2.1.cell (i := 1) rfl
    have r2 := HX.out.2.1.cell (i := 2) rfl
    have r3 := HX.out.2.1.cell (i := 3) rfl
    have r4 := HX.out.2.1.cell (i := 4) rfl
    have g0 := HX.out.2.1.frozen 0
    have g1 := HX.out.2.1.frozen 1
    have g2 := HX.out.2.1.frozen 2
    have g3 := HX.out.2.1.frozen 3
    have g4 := HX.out.2.1.frozen 4
    have y0 := HX.out.2.2.1.cell (i := 0) rfl
    have y1 := HX.out.2.2.1.cell (i := 1) rfl
    have z0 := HX.out.2.2.1.frozen 0
    have z1 := HX.out.2.2.1.frozen 1
    have HF := Lib.hid (And.intro (fin_own HX.out.2.1 HX.out.2.2.1 (by omega) (.int .i64 2) (.int .i64 0) (.string ⟨#[]⟩) (.slice none 0 0) (.slice none 0 0) (.int .i64 ((s.length - k : Nat))) (.int .i64 (b))).1 (And.intro (fin_own HX.out.2.1 HX.out.2.2.1 (by omega) (.int .i64 2) (.int .i64 0) (.string ⟨#[]⟩) (.slice none 0 0) (.slice none 0 0) (.int .i64 ((s.length - k : Nat))) (.int .i64 (b))).2 (And.intro (below_put7 HX.out.1 (Nat.le_refl _) (Nat.le_succ _) (.int .i64 2) (.int .i64 0) (.string ⟨#[]⟩) (.slice none 0 0) (.slice none 0 0) (.int .i64 ((s.length - k : Nat))) (.int .i64 (b))) (trivial))))
    go_region
    go_wp2
    clear t0 t1
    clear r0 r1 r2 r3 r4 g0 g1 g2 g3 g4 y0 y1 z0 z1
    change bodyPost Tryz.prog Tryz.f54 _ _ _ (put7 V1 w.heap.size (w.heap.size + 1) (.int .i64 2) (.int .i64 0) (.string ⟨#[]⟩) (.slice none 0 0) (.slice none 0 0) (.int .i64 ((s.length - k : Nat))) (.int .i64 (b))).drew
    generalize put7 V1 w.heap.size (w.heap.size + 1) (.int .i64 2) (.int .i64 0) (.string ⟨#[]⟩) (.slice none 0 0) (.slice none 0 0) (.int .i64 ((s.length - k : Nat))) (.int .i64 (b)) = U at *
    obtain ⟨oS, o2S, hBU, hIU⟩ := HF.out
    replace oS := oS.drew
    replace o2S := o2S.drew
    replace hBU := hBU.drew
    have c0 := oS.cell (i := 0) rfl
    have c1 := oS.cell (i := 1) rfl
    have c2 := oS.cell (i := 2) rfl
    have c3 := oS.cell (i := 3) rfl
    have c4 := oS.cell (i := 4) rfl
    have d0 := o2S.cell (i := 0) rfl
    have d1 := o2S.cell (i := 1) rfl
    exact bodyPost_ret (v := .tuple #[.agg #[.int .i64 2, .int .i64 0, .string ⟨#[]⟩, .slice none 0 0, .slice none 0 0], .int .i64 (0), .int .i64 (n1), faultV ((s.length - k : Nat)) (b)]) (by simp [results, Tryz.results54, go_sem, c0, c1, c2, c3, c4, d0, d1, VC.val, VC0, faultV]) rfl (QVr.mkEr ⟨2, 0, [], none, 0, 0, none, 0, 0⟩ (k := k) (b := b) (j := 0) (m := n1) HQ.out hBU rfl)
  | ok p =>
    obtain ⟨n9, r'⟩ := p
    obtain ⟨j9, hp, rfl⟩ := hq.ok n9 r' hR
    have HQ : Hid (bodyR pv n1 c r1 = .ok ((.mk 2 n9 [] [] []), n1, r')) := Lib.hid (by rw [HBd.out, hR]; rfl)
    have HP := Lib.hid hp
    clear hR hq hp
    have hA1 := below_alloc w1 (.cells #[.int .i64 (0), .int .i64 (0)] 75)
    have oT := Own.new w1 [.int .i64 (0), .int .i64 (0)] 75
    have HX := Lib.hid (And.intro (below_all HW.out.1 hA1) (And.intro (HW.out.2.1.all hA1) (And.intro (HW.out.2.2.all hA1) oT)))
    have hs1 := HW.out.2.2.lt
    clear hA1 oT HW
    go_upto_region 26 with (fail)
    change Code.wp Tryz.prog _ _ _ (w1.alloc (.cells #[.int .i64 (0), .int .i64 (0)] 75))
    generalize w1.alloc (.cells #[.int .i64 (0), .int .i64 (0)] 75) = V1 at *
    have ne1 : ¬ w1.heap.size = w.heap.size := by omega
    have ne2 : ¬ w1.heap.size = w.heap.size + 1 := by omega
    have ne3 : ¬ w.heap.size = w1.heap.size := by omega
    have ne4 : ¬ w.heap.size + 1 = w1.heap.size := by omega
    have t0 := HX.out.2.2.2.cell (i := 0) rfl
    have t1 := HX.out.2.2.2.cell (i := 1) rfl
    have r0 := HX.out.2.1.cell (i := 0) rfl
    have r1 := HX.out.2.1.cell (i := 1) rfl
    have r2 := HX.out.2.1.cell (i := 2) rfl
    have r3 := HX.out.2.1.cell (i := 3) rfl
    have r4 := HX.out.2.1.cell (i := 4) rfl
    have g0 := HX.out.2.1.frozen 0
    have g1 := HX.out.2.1.frozen 1
    have g2 := HX.out.2.1.frozen 2
    have g3 := HX.out.2.1.frozen 3
    have g4 := HX.out.2.1.frozen 4
    have y0 := HX.out.2.2.1.cell (i := 0) rfl
    have y1 := HX.out.2.2.1.cell (i := 1) rfl
    have z0 := HX.out.2.2.1.frozen 0
    have z1 := HX.out.2.2.1.frozen 1
    have HF := Lib.hid (And.intro (fin_own HX.out.2.1 HX.out.2.2.1 (by omega) (.int .i64 2) (.int .i64 n9) (.string ⟨#[]⟩) (.slice none 0 0) (.slice none 0 0) (.int .i64 (0)) (.int .i64 (0))).1 (And.intro (fin_own HX.out.2.1 HX.out.2.2.1 (by omega) (.int .i64 2) (.int .i64 n9) (.string ⟨#[]⟩) (.slice none 0 0) (.slice none 0 0) (.int .i64 (0)) (.int .i64 (0))).2 (And.intro (below_put7 HX.out.1 (Nat.le_refl _) (Nat.le_succ _) (.int .i64 2) (.int .i64 n9) (.string ⟨#[]⟩) (.slice none 0 0) (.slice none 0 0) (.int .i64 (0)) (.int .i64 (0))) (trivial))))
    go_region
    go_wp2
    clear t0 t1
    clear r0 r1 r2 r3 r4 g0 g1 g2 g3 g4 y0 y1 z0 z1
    change bodyPost Tryz.prog Tryz.f54 _ _ _ (put7 V1 w.heap.size (w.heap.size + 1) (.int .i64 2) (.int .i64 n9) (.string ⟨#[]⟩) (.slice none 0 0) (.slice none 0 0) (.int .i64 (0)) (.int .i64 (0))).drew
    generalize put7 V1 w.heap.size (w.heap.size + 1) (.int .i64 2) (.int .i64 n9) (.string ⟨#[]⟩) (.slice none 0 0) (.slice none 0 0) (.int .i64 (0)) (.int .i64 (0)) = U at *
    obtain ⟨oS, o2S, hBU, hIU⟩ := HF.out
    replace oS := oS.drew
    replace o2S := o2S.drew
    replace hBU := hBU.drew
    have c0 := oS.cell (i := 0) rfl
    have c1 := oS.cell (i := 1) rfl
    have c2 := oS.cell (i := 2) rfl
    have c3 := oS.cell (i := 3) rfl
    have c4 := oS.cell (i := 4) rfl
    have d0 := o2S.cell (i := 0) rfl
    have d1 := o2S.cell (i := 1) rfl
    exact bodyPost_ret (v := .tuple #[.agg #[.int .i64 2, .int .i64 n9, .string ⟨#[]⟩, .slice none 0 0, .slice none 0 0], .int .i64 (j9), .int .i64 (n1), faultV (0) (0)]) (by simp [results, Tryz.results54, go_sem, c0, c1, c2, c3, c4, d0, d1, VC.val, VC0, faultV]) rfl (QVr.mkOk (c := ⟨2, n9, [], none, 0, 0, none, 0, 0⟩) (j := j9) HQ.out hBU HP.out (isA_leaf _ _ _ _ _) rfl)
end Go.Proofs.YtjpmnlefjmdelaaGreatDoor
