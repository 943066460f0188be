/- The contract of the reference's Map. The contract of the reference's others. The contracts of the reference's Without and With. -/
import Derived.Test.YtjpmnlefjmdelaaGreatDoorEaJ
import Derived.Test.YtjpmnlefjmdelaaGreatDoorCcJ
import Derived.Test.YtjpmnlefjmdelaaGreatDoorCeJJ
set_option linter.unusedSimpArgs false
set_option linter.unusedVariables false
namespace Go.Proofs.YtjpmnlefjmdelaaGreatDoor
open Go.RowKit Go.Sort Go.Proofs.LawFrame

/-- these cells are those fields, their trees in blocks of A -/
structure PWA (w : World) (A : Nat → Prop) (cs : List FC) (l : List (Str × T)) : Prop where
  len : cs.length = l.length
  all : ∀ (i : Nat) (x : FC) (p : Str × T), cs[i]? = some x → l[i]? = some p → x.x = p.1 ∧ IsA w A x.v p.2
theorem PWA.keep {w w' : World} {A : Nat → Prop} {cs : List FC} {l : List (Str × T)} (h : PWA w A cs l) (hs : w.heap.size ≤ w'.heap.size) (hk : ∀ b, A b → b < w.heap.size → w'.heap[b]? = w.heap[b]?) : PWA w' A cs l :=
  ⟨h.len, fun i x p hx hp => ⟨(h.all i x p hx hp).1, (h.all i x p hx hp).2.keep hs (fun _ h => h) hk⟩⟩
/-- a step of the reference's Map -/
theorem PWA.put {w : World} {A : Nat → Prop} {cs : List FC} {M : List (Str × T)} {g : FC} {t : T} (h : PWA w A cs M) (hg : IsA w A g.v t) : PWA w A (pfF g false cs) (pf g.x t false M) := by
  have key : ∀ (cs : List FC) (M : List (Str × T)) (d : Bool), PWA w A cs M → PWA w A (pfF g d cs) (pf g.x t d M) := by
    intro cs
    have app : ∀ {a b : List FC} {x y : List (Str × T)}, PWA w A a x → PWA w A b y → PWA w A (a ++ b) (x ++ y) := fun {a b x y} h1 h2 => by
      refine ⟨by rw [List.length_append, List.length_append, h1.len, h2.len], fun i c p hc hp => ?_⟩
      rcases Nat.lt_or_ge i a.length with hlt | hge
      · rw [List.getElem?_append_left hlt] at hc
        rw [List.getElem?_append_left (by rw [← h1.len]; exact hlt)] at hp
        exact h1.all i c p hc hp
      · rw [List.getElem?_append_right hge] at hc
        rw [List.getElem?_append_right (by rw [← h1.len]; exact hge), ← h1.len] at hp
        exact h2.all _ c p hc hp
    have nil : PWA w A [] [] := ⟨rfl, fun i c p hc => by simp at hc⟩
    have one : ∀ {c : FC} {p : Str × T}, c.x = p.1 → IsA w A c.v p.2 → PWA w A [c] [p] := fun {c p} h1 h2 => ⟨rfl, fun i c' p' hc hp => by
      cases i with
      | zero => simp at hc hp; subst hc hp; exact ⟨h1, h2⟩
      | succ i => simp at hc⟩
    induction cs with
    | nil =>
      intro M d h
      have : M = [] := List.eq_nil_of_length_eq_zero h.len.symm
      subst this
      cases d
      · exact one rfl hg
      · exact nil
    | cons y r ih =>
      intro M d h
      cases M with
      | nil => have := h.len; simp at this
      | cons p s =>
        obtain ⟨px, pt⟩ := p
        obtain ⟨h1, h2⟩ := h.all 0 y (px, pt) rfl rfl
        simp only at h1 h2
        subst h1
        have hr : PWA w A r s := ⟨by have := h.len; simpa using this, fun i c p hc hp => h.all (i + 1) c p (by simpa using hc) (by simpa using hp)⟩
        rw [pfF, pf]
        refine app ?_ (app ?_ (ih s _ hr))
        · split
          · exact one rfl hg
          · exact nil
        · split
          · exact nil
          · exact one rfl h2
  exact key cs M false h

set_option maxHeartbeats 16000000 in
set_option maxRecDepth 20000 in
set_option maxRecDepth 4000 in
theorem rmap_any (v : Value) (l : List (Str × T)) (w : World) (hv : Flds w v l) (hn : l.length ≤ 3900) (hs : ∀ p ∈ l, p.2.size ≤ 4000) :
    Calls Tryz.prog 43 #[v] w fun e w' => ∃ (c' : VC) (M : List (Str × T)), e = .returned c'.val ∧ Below w.heap.size w w' ∧ IsA w' (fun b => w.heap.size ≤ b) c' (.mk 5 0 [] [] M) ∧ MapOf l M := by
  obtain ⟨ao, cap, rfl, hlc, hcap⟩ := hv.form
  unfold maxLen at hcap
  have hw0 : Below w.heap.size w ((w.alloc (.cells #[.int .i64 0, .int .i64 0, .string ⟨#[]⟩, .slice none 0 0, .slice none 0 0] 25)).alloc (.cells #[.int .i64 5, .int .i64 0, .string ⟨#[]⟩, .slice none 0 0, .slice none 0 0] 25)) := ((Below.refl _ _).alloc (Nat.le_refl _) _).alloc (by simp) _
  have oR : Own ((w.alloc (.cells #[.int .i64 0, .int .i64 0, .string ⟨#[]⟩, .slice none 0 0, .slice none 0 0] 25)).alloc (.cells #[.int .i64 5, .int .i64 0, .string ⟨#[]⟩, .slice none 0 0, .slice none 0 0] 25)) w.heap.size [.int .i64 0, .int .i64 0, .string ⟨#[]⟩, .slice none 0 0, .slice none 0 0] 25 := (Own.new _ _ _).alloc _
  have oO : Own ((w.alloc (.cells #[.int .i64 0, .int .i64 0, .string ⟨#[]⟩, .slice none 0 0, .slice none 0 0] 25)).alloc (.cells #[.int .i64 5, .int .i64 0, .string ⟨#[]⟩, .slice none 0 0, .slice none 0 0] 25)) (w.heap.size + 1) [.int .i64 5, .int .i64 0, .string ⟨#[]⟩, .slice none 0 0, .slice none 0 0] 25 := Own.new_at (by rw [size_alloc]) _ _
  have hs0 : ((w.alloc (.cells #[.int .i64 0, .int .i64 0, .string ⟨#[]⟩, .slice none 0 0, .slice none 0 0] 25)).alloc (.cells #[.int .i64 5, .int .i64 0, .string ⟨#[]⟩, .slice none 0 0, .slice none 0 0] 25)).heap.size = w.heap.size + 2 := by rw [size_alloc, size_alloc]
  go_enter Tryz.func43, Tryz.ntmps43
  go_wp2
  generalize ((w.alloc (.cells #[.int .i64 0, .int .i64 0, .string ⟨#[]⟩, .slice none 0 0, .slice none 0 0] 25)).alloc (.cells #[.int .i64 5, .int .i64 0, .string ⟨#[]⟩, .slice none 0 0, .slice none 0 0] 25)) = W at *
  have HW := Lib.hid hw0
  have R0 := Lib.hid (And.intro oR oO)
  clear hw0 oR oO
  go_loopg [4] l.length (fun g i wr => ∃ (q : Nat) (ka : Option Addr) (kn kc : Nat) (cs : List FC) (M : List (Str × T)), q ≤ l.length ∧ g = l.length - q ∧ i = .int .i64 q ∧ But (w.heap.size + 1) W wr ∧ Own wr (w.heap.size + 1) [.int .i64 5, .int .i64 0, .string ⟨#[]⟩, .slice none 0 0, .slice ka kn kc] 25 ∧ FlatA wr (fun b => W.heap.size ≤ b) (.slice ka kn kc) cs.length (cs.flatMap FC.cells) ∧ cs.length ≤ q ∧ Hid (PWA wr (fun b => W.heap.size ≤ b) cs M ∧ MapOf (l.take q) M))
  case atStart => exact ⟨0, none, 0, 0, [], [], Nat.zero_le _, rfl, rfl, But.refl _ _, R0.out.2, FlatA.nil _ _ _, Nat.le_refl _, Lib.hid ⟨⟨rfl, fun i x p h => by simp at h⟩, mapOf_nil⟩⟩
  case round =>
    obtain ⟨q, ka, kn, kc, cs, M, hq, hg, rfl, hbt, oO, hFA, hcl, HP⟩ := hrel
    have HG := Lib.hid hg
    clear hg
    have oR := Own.but R0.out.1 hbt (by omega)
    have hszr := hbt.size
    have hbw : Below w.heap.size w wr := hbt.below HW.out (by omega) HW.out.size
    by_cases hlt : q < l.length
    case neg =>
      obtain rfl : q = l.length := by omega
      obtain ⟨hP, hM⟩ := HP.out
      rw [List.take_length] at hM
      have hlen := hP.len
      have hfin : IsA (((((wr.setCell ⟨w.heap.size, 0, none⟩ (.int .i64 5)).setCell ⟨w.heap.size, 1, none⟩ (.int .i64 0)).setCell ⟨w.heap.size, 2, none⟩ (.string ⟨#[]⟩)).setCell ⟨w.heap.size, 3, none⟩ (.slice none 0 0)).setCell ⟨w.heap.size, 4, none⟩ (.slice ka kn kc)) (fun b => w.heap.size + 2 ≤ b) ⟨5, 0, [], none, 0, 0, ka, kn, kc⟩ (.mk 5 0 [] [] M) :=
        .mk (c := ⟨5, 0, [], none, 0, 0, ka, kn, kc⟩) [] cs rfl (FlatA.nil _ _ _) (fun i x t h => by simp at h) hlen (((((((hlen ▸ hFA).up (fun b hb => by omega)).set (b := w.heap.size) (by omega) 0 (.int .i64 5)).set (b := w.heap.size) (by omega) 1 (.int .i64 0)).set (b := w.heap.size) (by omega) 2 (.string ⟨#[]⟩)).set (b := w.heap.size) (by omega) 3 (.slice none 0 0)).set (b := w.heap.size) (by omega) 4 (.slice ka kn kc)) (fun i x p hx hp => (hP.all i x p hx hp).1) (fun i x p hx hp => (((((((hP.all i x p hx hp).2.mono (fun b hb => by omega)).set (b := w.heap.size) (by omega) 0 (.int .i64 5)).set (b := w.heap.size) (by omega) 1 (.int .i64 0)).set (b := w.heap.size) (by omega) 2 (.string ⟨#[]⟩)).set (b := w.heap.size) (by omega) 3 (.slice none 0 0)).set (b := w.heap.size) (by omega) 4 (.slice ka kn kc)))
      have b0 := oO.cell (i := 0) rfl
      have b1 := oO.cell (i := 1) rfl
      have b2 := oO.cell (i := 2) rfl
      have b3 := oO.cell (i := 3) rfl
      have b4 := oO.cell (i := 4) rfl
      have r0 := oR.cell (i := 0) rfl
      have r1 := oR.cell (i := 1) rfl
      have r2 := oR.cell (i := 2) rfl
      have r3 := oR.cell (i := 3) rfl
      have r4 := oR.cell (i := 4) rfl
      have g0 := oR.frozen 0
      have g1 := oR.frozen 1
      have g2 := oR.frozen 2
      have g3 := oR.frozen 3
      have g4 := oR.frozen 4
      have HS := Lib.hid (And.intro (((((oR.set 0 (.int .i64 5)).set 1 (.int .i64 0)).set 2 (.string ⟨#[]⟩)).set 3 (.slice none 0 0)).set 4 (.slice ka kn kc)) (And.intro (below_set (below_set (below_set (below_set (below_set hbw (Nat.le_refl w.heap.size) (i := 0) (.int .i64 5)) (Nat.le_refl w.heap.size) (i := 1) (.int .i64 0)) (Nat.le_refl w.heap.size) (i := 2) (.string ⟨#[]⟩)) (Nat.le_refl w.heap.size) (i := 3) (.slice none 0 0)) (Nat.le_refl w.heap.size) (i := 4) (.slice ka kn kc)) (And.intro (hfin.mono (A' := fun b => w.heap.size ≤ b) (fun b hb => by omega)) hM)))
      clear hfin oO oR hbw hbt hFA hP hM HP hlen
      go_wp2
      clear b0 b1 b2 b3 b4 r0 r1 r2 r3 r4 g0 g1 g2 g3 g4
      change bodyPost Tryz.prog Tryz.f43 _ _ _ (((((wr.setCell ⟨w.heap.size, 0, none⟩ (.int .i64 5)).setCell ⟨w.heap.size, 1, none⟩ (.int .i64 0)).setCell ⟨w.heap.size, 2, none⟩ (.string ⟨#[]⟩)).setCell ⟨w.heap.size, 3, none⟩ (.slice none 0 0)).setCell ⟨w.heap.size, 4, none⟩ (.slice ka kn kc))
      generalize (((((wr.setCell ⟨w.heap.size, 0, none⟩ (.int .i64 5)).setCell ⟨w.heap.size, 1, none⟩ (.int .i64 0)).setCell ⟨w.heap.size, 2, none⟩ (.string ⟨#[]⟩)).setCell ⟨w.heap.size, 3, none⟩ (.slice none 0 0)).setCell ⟨w.heap.size, 4, none⟩ (.slice ka kn kc)) = U at *
      obtain ⟨oS, hbS, hIS, hM⟩ := HS.out
      have c0 : U.cell? ⟨w.heap.size, 0, none⟩ = some (.int .i64 5) := oS.cell rfl
      have c1 : U.cell? ⟨w.heap.size, 1, none⟩ = some (.int .i64 0) := oS.cell rfl
      have c2 : U.cell? ⟨w.heap.size, 2, none⟩ = some (.string ⟨#[]⟩) := oS.cell rfl
      have c3 : U.cell? ⟨w.heap.size, 3, none⟩ = some (.slice none 0 0) := oS.cell rfl
      have c4 : U.cell? ⟨w.heap.size, 4, none⟩ = some (.slice ka kn kc) := oS.cell rfl
      exact bodyPost_ret (v := .agg #[.int .i64 5, .int .i64 0, .string ⟨#[]⟩, .slice none 0 0, .slice ka kn kc]) (by simp [results, Tryz.results43, go_sem, c0, c1, c2, c3, c4]) rfl ⟨⟨5, 0, [], none, 0, 0, ka, kn, kc⟩, M, rfl, hbS, hIS, hM⟩
    have hx := List.getElem?_eq_getElem hlt
    generalize l[q] = x at hx
    obtain ⟨b, off, c, hao, hbl, hIx, q5, q0, q1, q2, q3, q4⟩ := hv.at hbw hx
    subst hao
    have kk := oO.cell (i := 4) rfl
    have HX := Lib.hid hx
    have hxs := hs x (List.mem_of_getElem? hx)
    clear hx
    go_upto_region 5 with (fail)
    have kkg := cell_regrown kk
    have q5g := cell_regrown q5
    have q0g := cell_regrown q0
    have q1g := cell_regrown q1
    have q2g := cell_regrown q2
    have q3g := cell_regrown q3
    have q4g := cell_regrown q4
    clear kk q5 q0 q1 q2 q3 q4
    refine wp_region_multi 15 (fun i => i == 12 || i == 14) (fun i xs u w' => (i = 12 → ∃ c' : VC, u = c'.val ∧ IsA w' (fun b => wr.heap.size ≤ b) c' x.2) ∧ (i = 14 → ∃ c2 : VC, xs.getLast? = some (.agg #[sV x.1, .int .i64 c2.k, .int .i64 c2.n, sV c2.s, .slice c2.la c2.ln c2.lc, .slice c2.fa c2.fn c2.fc]) ∧ FlatA w' (fun b => wr.heap.size ≤ b) u (pfF ⟨x.1, c2⟩ false cs).length ((pfF ⟨x.1, c2⟩ false cs).flatMap FC.cells)))
      (fun i u => (i = 12 → ∃ c' : VC, u = c'.val) ∧ (i = 14 → ∃ a n c, u = .slice a n c)) (by kernel_rfl) (by kernel_rfl)
      (fun i xs u w1 w2 h hb => ⟨fun e => by obtain ⟨c', a1, a2⟩ := h.1 e; exact ⟨c', a1, a2.all hb⟩, fun e => by obtain ⟨c2, a1, a2⟩ := h.2 e; exact ⟨c2, a1, a2.keep hb.size (fun _ h => h) (fun b _ hlt => hb.block b hlt)⟩⟩)
      (fun i => by
        by_cases e : i = 12
        · exact ⟨VC0.val, fun _ => ⟨VC0, rfl⟩, fun e' => by omega⟩
        · exact ⟨.slice none 0 0, fun e' => absurd e' e, fun _ => ⟨_, _, _, rfl⟩⟩) ?_
    simp only [List.take_succ_cons, List.take_zero, List.drop_succ_cons, List.drop_zero]
    refine wpM_stretch 12 rfl rfl rfl rfl ?_
    simp only [List.take_succ_cons, List.take_zero, List.drop_succ_cons, List.drop_zero]
    repeat (first | go_big_quiet_step (fail) | quiet_step (fail))
    refine wpQuiet_nil ?_
    refine wpM_dem rfl rfl rfl ?_ ?_
    · rintro _ ⟨pp, rfl⟩
      go_simp
      simp only [demUpon]
      refine ⟨trivial, (rcopyValue_any _ x.2 (Nat.le_refl _) hxs c _ (hIx.all (below_regrown wr pp.d pp.os))).mono ?_⟩
      rintro e w2 ⟨c', rfl, hb2, hN⟩
      have hsz := (below_regrown wr pp.d pp.os).size
      exact ⟨_, rfl, ⟨c', rfl⟩, hb2, c', rfl, hN.mono (fun b hb => by omega)⟩
    · rintro u hu
      obtain ⟨c', rfl⟩ := hu.1 rfl
      clear hu
      refine wpM_stretch 1 rfl rfl rfl rfl ?_
      simp only [List.take_succ_cons, List.take_zero, List.drop_succ_cons, List.drop_zero]
      repeat (first | go_big_quiet_step (fail) | quiet_step (fail))
      refine wpQuiet_nil ?_
      refine wpM_dem rfl rfl rfl ?_ ?_
      · rintro _ ⟨pp, rfl⟩
        have hsz := (below_regrown wr pp.d pp.os).size
        go_simp
        simp only [demUpon]
        refine ⟨trivial, (rput_any (.slice ka kn kc) cs ⟨x.1, c'⟩ _ (hFA.flat.all (below_regrown wr pp.d pp.os)) (by omega) _ rfl).mono ?_⟩
        rintro e w2 ⟨kv, rfl, hb2, hrow⟩
        have hfl := (flatA_of_own hrow).up (A' := fun b => wr.heap.size ≤ b) (fun b hb => by omega)
        exact ⟨_, rfl, AccF.form hrow, hb2, c', rfl, hfl⟩
      · rintro u hu
        obtain ⟨ka2, kn2, kc2, rfl⟩ := hu.2 rfl
        clear hu
        refine wpM_end ?_
        rintro U hbU ⟨⟨-, hV1⟩, hV2⟩
        obtain ⟨c2, he2, hN⟩ := hV1.1 (by first | rfl | trivial)
        obtain ⟨c3, hx3, hF3⟩ := hV2.2 (by first | rfl | trivial)
        obtain rfl := VC.val_inj he2
        have hx4 : some (.agg #[sV x.1, .int .i64 c'.k, .int .i64 c'.n, sV c'.s, .slice c'.la c'.ln c'.lc, .slice c'.fa c'.fn c'.fc] : Value) = some (.agg #[sV x.1, .int .i64 c3.k, .int .i64 c3.n, sV c3.s, .slice c3.la c3.ln c3.lc, .slice c3.fa c3.fn c3.fc]) := hx3
        obtain rfl : c' = c3 := aggF_inj (by rw [Option.some.inj hx4])
        clear hV1 hV2 he2 hx3 hx4 kkg q5g q0g q1g q2g q3g q4g
        have hUs := hbU.size
        have oO2 := oO.all hbU
        have hbt2 := hbt.all hbU
        have hP2 := (HP.out.1.keep hbU.size (fun b _ hlt => hbU.block b hlt)).put (g := ⟨x.1, c'⟩) (t := x.2) (hN.mono (fun b hb => by omega))
        have hMO := HP.out.2.put x.1 x.2
        rw [show l.take q ++ [(x.1, x.2)] = l.take (q + 1) from (take_snoc HX.out).symm] at hMO
        have hpl := pfF_len ⟨x.1, c'⟩ cs false
        have k4 := oO2.cell (i := 4) rfl
        have f4 := oO2.frozen 4
        have HH := Lib.hid (And.intro hP2 (And.intro hMO (And.intro hF3 (And.intro oO2 hbt2))))
        clear hP2 hMO hF3 oO2 hbt2 hN hFA oO hbt HP oR hbw hIx
        generalize pfF ⟨x.1, c'⟩ false cs = cs2 at *
        generalize pf x.1 x.2 false M = M2 at *
        go_wp2
        obtain ⟨hP2, hMO, hF3, oO2, hbt2⟩ := HH.out
        go_roundg (l.length - (q + 1))
        case measure => have := HG.out; omega
        case rel => exact ⟨q + 1, ka2, kn2, kc2, cs2, M2, by omega, rfl, by go_num, hbt2.set _ _, oO2.set 4 _, ((hF3.up (A' := fun b => W.heap.size ≤ b) (fun b hb => by omega)).set (by omega) _ _), by omega, Lib.hid ⟨hP2.keep (Nat.le_of_eq (by unfold World.setCell; simp)) (fun b hb _ => Below.heap_setCell _ _ _ _ (by rintro rfl; exact absurd hb (by show ¬ W.heap.size ≤ w.heap.size + 1; omega))), hMO⟩⟩
end Go.Proofs.YtjpmnlefjmdelaaGreatDoor
namespace Go.Proofs.YtjpmnlefjmdelaaGreatDoor
open Go.RowKit Go.Sort Go.Proofs.LawFrame

set_option maxHeartbeats 8000000 in
set_option maxRecDepth 4000 in
theorem rothers_any (c : VC) (k n : Int) (s : Str) (l : List T) (f : List (Str × T)) (nm : Str) (w0 w : World) (hI : Is w0 c (.mk k n s l f)) (h00 : Below w0.heap.size w0 w) (hfl : f.length ≤ 3900) :
    Calls Tryz.prog 160 #[c.val, sV nm] w fun e w' => ∃ kv, e = .returned kv ∧ Below w.heap.size w w' ∧ RowF w0 w' w.heap.size kv (othK k nm f) := by
  obtain ⟨hk, -, -⟩ := hI.same
  have hf := hI.flds
  obtain ⟨ck, cn, cst, cla, cln, clc, cfa, cfn, cfc⟩ := c
  obtain ⟨hfn, hfc, hfm⟩ := hf.slice
  simp only at hfn hfc hfm hk hf
  subst hfn
  unfold maxLen at hfm
  obtain ⟨i35, hi35, hzi35, hsi35, hyi35⟩ := info_parts info35
  show Calls Tryz.prog 160 #[.agg #[.int .i64 ck, .int .i64 cn, sV cst, .slice cla cln clc, .slice cfa f.length cfc], sV nm] w _
  have hw0 := below_alloc w (.cells #[.int .i64 ck, .int .i64 cn, sV cst, .slice cla cln clc, .slice cfa f.length cfc] 25)
  have oB := Own.new w [.int .i64 ck, .int .i64 cn, sV cst, .slice cla cln clc, .slice cfa f.length cfc] 25
  have hs0 : (w.alloc (.cells #[.int .i64 ck, .int .i64 cn, sV cst, .slice cla cln clc, .slice cfa f.length cfc] 25)).heap.size = w.heap.size + 1 := size_alloc _ _
  rw [← hk]
  clear hI hk
  by_cases h5 : ck = 5
  case neg =>
    have HE : Hid (othK ck nm f = []) := Lib.hid (if_neg h5)
    have hne : (ck != 5) = true := by simpa using h5
    have HB := Lib.hid hw0
    have OB := Lib.hid oB
    have hne2 : (ck == 5) = false := by simpa using h5
    clear hw0 oB hf h5 hne
    have oBc := OB.out
    have c0 := oBc.cell (i := 0) rfl
    have c4 := oBc.cell (i := 4) rfl
    clear oBc
    go_enter Tryz.func160, Tryz.ntmps160
    go_wp2
    refine wp_loop_rounds 1 ?_
    rw [rounds_succ]
    by_cases hfp : 0 < f.length
    · go_wp2
      go_ret
      exact ⟨_, rfl, HB.out, by rw [HE.out]; exact ⟨[], PW.nil _, own_nil _ _ _ _⟩⟩
    · go_wp2
      go_ret
      exact ⟨_, rfl, HB.out, by rw [HE.out]; exact ⟨[], PW.nil _, own_nil _ _ _ _⟩⟩
  have HE : Hid (othK ck nm f = oth nm f) := Lib.hid (if_pos h5)
  have hne : (ck == 5) = true := by simpa using h5
  have c0 := oB.cell (i := 0) rfl
  have c4 := oB.cell (i := 4) rfl
  have R0 := Lib.hid (And.intro hw0 oB)
  clear hw0 oB h5
  go_enter Tryz.func160, Tryz.ntmps160
  go_wp2
  clear c0 c4
  generalize w.alloc (.cells #[.int .i64 ck, .int .i64 cn, sV cst, .slice cla cln clc, .slice cfa f.length cfc] 25) = W at *
  go_loopg [5, 6] f.length (fun g kv i wr => ∃ (q : Nat) (cs : List FC), q ≤ f.length ∧ g = f.length - q ∧ i = .int .i64 q ∧ Below W.heap.size W wr ∧ wr.ownsRow W.heap.size 58 6 kv cs.length (cs.flatMap FC.cells) ∧ Hid (PW w0 cs (oth nm (f.take q))))
  case atStart => exact ⟨0, [], Nat.zero_le _, rfl, rfl, Below.refl _ _, own_nil _ _ _ _, Lib.hid (PW.nil _)⟩
  case round =>
    obtain ⟨q, cs, hq, hg, rfl, hb, hown, HP⟩ := hrel
    have HG := Lib.hid hg
    clear hg
    have hbw := below_all R0.out.1 hb
    have hbw0 := below_all h00 hbw
    have hcl : cs.length ≤ 3900 := by have := HP.out.len; have := oth_len nm (f.take q); simp at this; omega
    have oBr := R0.out.2.all hb
    have c0 := oBr.cell (i := 0) rfl
    have c4 := oBr.cell (i := 4) rfl
    clear oBr
    by_cases hlt : q < f.length
    case neg =>
      obtain rfl : q = f.length := by omega
      have HQ := Lib.hid (And.intro hbw hown)
      clear hbw hown hb hbw0
      go_wp2
      go_ret
      obtain ⟨hbw, hown⟩ := HQ.out
      refine ⟨_, rfl, hbw, ?_⟩
      rw [HE.out]
      have hP := HP.out
      rw [List.take_length] at hP
      exact ⟨cs, hP, row_weak hown (by omega)⟩
    have hx := List.getElem?_eq_getElem hlt
    generalize f[q] = p at hx
    obtain ⟨b, off, d, hao, hbl, hId, q5, q0, q1, q2, q3, q4⟩ := hf.at hbw0 hx
    have hdd : Is w0 d p.2 := by
      obtain ⟨cs0, g1, g2, g3, g4⟩ := hf.out
      obtain ⟨x0, hx0⟩ : ∃ x0, cs0[q]? = some x0 := ⟨_, List.getElem?_eq_getElem (by omega)⟩
      have hv0 : d = x0.v := by
        obtain ⟨ao', cap', e1, -, -, e4⟩ := g2.out
        cases e1
        obtain ⟨b0, off0, e5, e6, e7⟩ := e4 (by omega)
        rw [hao] at e5; cases e5
        have hc : ∀ j z, (FC.cells x0)[j]? = some z → wr.cell? ⟨b, off + q * 6 + j, none⟩ = some z := fun j z hz => by
          have hj : j < 6 := (List.getElem?_eq_some_iff.1 hz).1
          rw [hbw0.cell (p := ⟨b, off + q * 6 + j, none⟩) e6, Nat.add_assoc]
          exact e7 (q * 6 + j) z (by rw [flat_get FC.cells (m := 6) (fun _ => rfl) cs0 q j x0 hx0 hj]; exact hz)
        have a0 := hc 1 _ rfl
        have a1 := hc 2 _ rfl
        have a2 := hc 3 _ rfl
        have a3 := hc 4 _ rfl
        have a4 := hc 5 _ rfl
        rw [q0] at a0; rw [q1] at a1; rw [q2] at a2; rw [q3] at a3; rw [q4] at a4
        apply VC.cells_inj
        simp only [VC.cells]
        rw [Option.some.inj a0, Option.some.inj a1, Option.some.inj a2, Option.some.inj a3, Option.some.inj a4]
      rw [hv0]; exact g4 q x0 p hx0 hx
    subst hao
    have hwr := hb.size
    have HX := Lib.hid (And.intro hx hdd)
    clear hx hdd hId
    by_cases hnm : p.1 = nm
    · have HO : Hid (oth nm (f.take (q + 1)) = oth nm (f.take q)) := Lib.hid (by rw [oth_snoc HX.out.1, if_pos hnm]; simp)
      have hne2 : (p.1 == nm) = true := by simpa using hnm
      have HQ := Lib.hid (And.intro hb hown)
      clear hown hb hnm hbw hbw0
      go_wp2
      go_roundg (f.length - (q + 1))
      case measure => have := HG.out; omega
      case rel => exact ⟨q + 1, cs, by omega, rfl, by go_num, HQ.out.1, HQ.out.2, Lib.hid (by rw [HO.out]; exact HP.out)⟩
    · have HO : Hid (oth nm (f.take (q + 1)) = oth nm (f.take q) ++ [p]) := Lib.hid (by rw [oth_snoc HX.out.1, if_neg hnm])
      have hne2 : (p.1 == nm) = false := by simpa using hnm
      clear hnm hbw hbw0
      go_wp2_with (first | (at_builtin; refine wpList_append_own _ rfl (.tmp 27) (.tmp 33) 23 rfl W.heap.size 58 i35 (.agg #[.string ⟨#[]⟩, .int .i64 0, .int .i64 0, .string ⟨#[]⟩, .slice none 0 0, .slice none 0 0]) 6 96 Tryz.underlying23 hi35 hzi35 hsi35 hyi35 rfl (by decide) _ _ _ rfl (hown.alloc _) ⟨wr.heap.size, 0, none⟩ 1 1 (FC.cells ⟨p.1, d⟩) rfl rfl (cell_six_new _ ⟨p.1, d⟩ _) (six_one ⟨p.1, d⟩) (by unfold maxLen; omega) (by omega) (by simp; omega) ?_; intro v' w5 hown5 hgrow5 hnil5))
      go_roundg (f.length - (q + 1))
      case measure => have := HG.out; omega
      case rel => exact ⟨q + 1, cs ++ [⟨p.1, d⟩], by omega, rfl, by go_num, below_grown (hb.trans ((below_alloc wr _).mono (by omega))) hgrow5 (by rw [size_alloc]; omega) (own_row hown), by rw [flatMap_snoc, List.length_append]; exact hown5, Lib.hid (by rw [HO.out]; exact HP.out.snoc ⟨rfl, HX.out.2⟩)⟩
end Go.Proofs.YtjpmnlefjmdelaaGreatDoor
namespace Go.Proofs.YtjpmnlefjmdelaaGreatDoor
open Go.RowKit Go.Sort Go.Proofs.LawFrame

set_option maxHeartbeats 8000000 in
set_option maxRecDepth 4000 in
theorem rwith_any (c cx : VC) (k n : Int) (s : Str) (l : List T) (f : List (Str × T)) (nm : Str) (x : T) (w : World) (hI : Is w c (.mk k n s l f)) (hX : Is w cx x) (hsz : (T.mk k n s l f).size ≤ 3800) (hsx : x.size ≤ 4000) :
    Calls Tryz.prog 125 #[c.val, sV nm, cx.val] w fun e w' => ∃ (c' : VC) (M : List (Str × T)), e = .returned c'.val ∧ Below w.heap.size w w' ∧ IsA w' (fun b => w.heap.size ≤ b) c' (.mk 5 0 [] [] M) ∧ MapOf (othK k nm f ++ [(nm, x)]) M := by
  have hf := hI.flds
  have hsf : ∀ p ∈ f, p.2.size ≤ 4000 := fun p hp => Int.le_trans (size_in_f (k := k) (n := n) (s := s) (l := l) hp) (by omega)
  have hfl := (size_lens (M := 3800) hsz).2
  obtain ⟨i35, hi35, hzi35, hsi35, hyi35⟩ := info_parts info35
  obtain ⟨ck, cn, cst, cla, cln, clc, cfa, cfn, cfc⟩ := c
  obtain ⟨xk, xn, xs, xla, xln, xlc, xfa, xfn, xfc⟩ := cx
  obtain ⟨hfn, hfc, hfm⟩ := hf.slice
  simp only at hfn hfc hfm hf
  subst hfn
  unfold maxLen at hfm
  show Calls Tryz.prog 125 #[.agg #[.int .i64 ck, .int .i64 cn, sV cst, .slice cla cln clc, .slice cfa f.length cfc], sV nm, .agg #[.int .i64 xk, .int .i64 xn, sV xs, .slice xla xln xlc, .slice xfa xfn xfc]] w _
  have hw0 : Below w.heap.size w (((w.alloc (.cells #[.int .i64 ck, .int .i64 cn, sV cst, .slice cla cln clc, .slice cfa f.length cfc] 25)).alloc (.cells #[.int .i64 xk, .int .i64 xn, sV xs, .slice xla xln xlc, .slice xfa xfn xfc] 25)).alloc (.cells #[.int .i64 0, .int .i64 0, .string ⟨#[]⟩, .slice none 0 0, .slice none 0 0] 25)) := (((Below.refl _ _).alloc (Nat.le_refl _) _).alloc (by simp) _).alloc (by simp; omega) _
  have oB : Own (((w.alloc (.cells #[.int .i64 ck, .int .i64 cn, sV cst, .slice cla cln clc, .slice cfa f.length cfc] 25)).alloc (.cells #[.int .i64 xk, .int .i64 xn, sV xs, .slice xla xln xlc, .slice xfa xfn xfc] 25)).alloc (.cells #[.int .i64 0, .int .i64 0, .string ⟨#[]⟩, .slice none 0 0, .slice none 0 0] 25)) w.heap.size [.int .i64 ck, .int .i64 cn, sV cst, .slice cla cln clc, .slice cfa f.length cfc] 25 := ((Own.new _ _ _).alloc _).alloc _
  have oX : Own (((w.alloc (.cells #[.int .i64 ck, .int .i64 cn, sV cst, .slice cla cln clc, .slice cfa f.length cfc] 25)).alloc (.cells #[.int .i64 xk, .int .i64 xn, sV xs, .slice xla xln xlc, .slice xfa xfn xfc] 25)).alloc (.cells #[.int .i64 0, .int .i64 0, .string ⟨#[]⟩, .slice none 0 0, .slice none 0 0] 25)) (w.heap.size + 1) [.int .i64 xk, .int .i64 xn, sV xs, .slice xla xln xlc, .slice xfa xfn xfc] 25 := (Own.new_at (by rw [size_alloc]) _ _).alloc _
  have oR : Own (((w.alloc (.cells #[.int .i64 ck, .int .i64 cn, sV cst, .slice cla cln clc, .slice cfa f.length cfc] 25)).alloc (.cells #[.int .i64 xk, .int .i64 xn, sV xs, .slice xla xln xlc, .slice xfa xfn xfc] 25)).alloc (.cells #[.int .i64 0, .int .i64 0, .string ⟨#[]⟩, .slice none 0 0, .slice none 0 0] 25)) (w.heap.size + 1 + 1) [.int .i64 0, .int .i64 0, .string ⟨#[]⟩, .slice none 0 0, .slice none 0 0] 25 := Own.new_at (by rw [size_alloc, size_alloc]) _ _
  have hs0 : (((w.alloc (.cells #[.int .i64 ck, .int .i64 cn, sV cst, .slice cla cln clc, .slice cfa f.length cfc] 25)).alloc (.cells #[.int .i64 xk, .int .i64 xn, sV xs, .slice xla xln xlc, .slice xfa xfn xfc] 25)).alloc (.cells #[.int .i64 0, .int .i64 0, .string ⟨#[]⟩, .slice none 0 0, .slice none 0 0] 25)).heap.size = w.heap.size + 3 := by rw [size_alloc, size_alloc, size_alloc]
  have HIX := Lib.hid (And.intro hI hX)
  have hkl : (othK k nm f).length ≤ 3800 := by
    unfold othK; split
    · have := oth_len nm f; omega
    · simp
  have hkm : ∀ p ∈ othK k nm f, p.2.size ≤ 4000 := fun p hp => by
    unfold othK at hp; split at hp
    · exact hsf p (oth_mem hp)
    · cases hp
  clear hI hX hf hsf
  have C := Lib.hid (rothers_any ⟨ck, cn, cst, cla, cln, clc, cfa, f.length, cfc⟩ k n s l f nm w _ HIX.out.1 hw0 (by omega))
  have b0 := oB.cell (i := 0) rfl
  have b1 := oB.cell (i := 1) rfl
  have b2 := oB.cell (i := 2) rfl
  have b3 := oB.cell (i := 3) rfl
  have b4 := oB.cell (i := 4) rfl
  have HO := Lib.hid (And.intro hw0 (And.intro oX oR))
  clear hw0 oB oX oR
  go_enter Tryz.func125, Tryz.ntmps125
  go_wp2_with fail
  clear b0 b1 b2 b3 b4
  generalize (((w.alloc (.cells #[.int .i64 ck, .int .i64 cn, sV cst, .slice cla cln clc, .slice cfa f.length cfc] 25)).alloc (.cells #[.int .i64 xk, .int .i64 xn, sV xs, .slice xla xln xlc, .slice xfa xfn xfc] 25)).alloc (.cells #[.int .i64 0, .int .i64 0, .string ⟨#[]⟩, .slice none 0 0, .slice none 0 0] 25)) = W at *
  refine C.out.mono ?_
  rintro e U ⟨kv, rfl, hbU, hRow⟩
  obtain ⟨ka, kn, kc, rfl⟩ := hRow.slice
  obtain ⟨cs, hPW, hrow⟩ := hRow.out
  have hUs := hbU.size
  have hcl := hPW.len
  have hrl := own_row hrow
  have oRU := HO.out.2.2.all hbU
  have oXU := HO.out.2.1.all hbU
  have hbwU := below_all HO.out.1 hbU
  have HPW := Lib.hid hPW
  clear hPW C hRow HO hbU
  have x0 := oXU.cell (i := 0) rfl
  have x1 := oXU.cell (i := 1) rfl
  have x2 := oXU.cell (i := 2) rfl
  have x3 := oXU.cell (i := 3) rfl
  have x4 := oXU.cell (i := 4) rfl
  clear oXU
  go_wp2_with (first | (at_builtin; refine wpList_append_own _ rfl (.tmp 11) (.tmp 15) 23 rfl W.heap.size 58 i35 (.agg #[.string ⟨#[]⟩, .int .i64 0, .int .i64 0, .string ⟨#[]⟩, .slice none 0 0, .slice none 0 0]) 6 96 Tryz.underlying23 hi35 hzi35 hsi35 hyi35 rfl (by decide) _ _ _ rfl (hrow.alloc _) ⟨U.heap.size, 0, none⟩ 1 1 (FC.cells ⟨nm, ⟨xk, xn, xs, xla, xln, xlc, xfa, xfn, xfc⟩⟩) rfl rfl (cell_six_new _ ⟨nm, ⟨xk, xn, xs, xla, xln, xlc, xfa, xfn, xfc⟩⟩ _) (six_one ⟨nm, ⟨xk, xn, xs, xla, xln, xlc, xfa, xfn, xfc⟩⟩) (by unfold maxLen; omega) (by omega) (by simp; omega) ?_; intro v' w5 hown5 hgrow5 hnil5) | fail)
  clear x0 x1 x2 x3 x4
  have hb5 : Below w.heap.size w w5 := below_grown (below_all hbwU (below_alloc U _)) hgrow5 (by rw [size_alloc]; omega) (fun k h => by have := hrl k h; omega)
  have hFl : Flds w5 v' (othK k nm f ++ [(nm, x)]) := by
    have hP5 := (HPW.out.snoc (c := ⟨nm, ⟨xk, xn, xs, xla, xln, xlc, xfa, xfn, xfc⟩⟩) (t := (nm, x)) ⟨rfl, HIX.out.2⟩).under hb5
    have hF := Flat.of_own hown5
    refine ⟨cs ++ [⟨nm, ⟨xk, xn, xs, xla, xln, xlc, xfa, xfn, xfc⟩⟩], hP5.len, ?_, fun i y p hy hp => (hP5.all i y p hy hp).1, fun i y p hy hp => (hP5.all i y p hy hp).2⟩
    rw [flatMap_snoc, List.length_append, ← hcl]
    exact hF
  have C2 := Lib.hid (rmap_any v' _ w5 hFl (by rw [List.length_append]; simp; omega) (fun p hp => by
    rcases List.mem_append.1 hp with hp | hp
    · exact hkm p hp
    · simp at hp; subst hp; exact hsx))
  have oR5 := own_kept' (oRU.alloc _) hgrow5 (fun e => by have := hrl _ e; omega)
  obtain ⟨va, vn, vc, rfl⟩ : ∃ a n c, v' = .slice a n c := by
    rcases hown5.2 with ⟨h, -⟩ | ⟨g, cap, cur, h, -⟩
    · exact ⟨_, _, _, h⟩
    · exact ⟨_, _, _, h⟩
  have hsz5 := hgrow5.size
  rw [size_alloc] at hsz5
  have HQ := Lib.hid (And.intro hb5 oR5)
  clear hb5 hFl oR5 hown5 hgrow5 hnil5 hrow oRU hbwU hrl
  go_wp2_with fail
  refine C2.out.mono ?_
  rintro e w4 ⟨c', M, rfl, hb4, hN, hMO⟩
  have oR := HQ.out.2.all hb4
  have hbE := below_all HQ.out.1 hb4
  have hN3 := hN.mono (A' := fun b => w.heap.size + 3 ≤ b) (fun b hb => by omega)
  have HMO := Lib.hid hMO
  clear C2 HQ hN hb4 hMO
  have r0 := oR.cell (i := 0) rfl
  have g0 := oR.frozen 0
  have r1 := oR.cell (i := 1) rfl
  have g1 := oR.frozen 1
  have r2 := oR.cell (i := 2) rfl
  have g2 := oR.frozen 2
  have r3 := oR.cell (i := 3) rfl
  have g3 := oR.frozen 3
  have r4 := oR.cell (i := 4) rfl
  have g4 := oR.frozen 4
  have HS := Lib.hid (And.intro (((((oR.set 0 (.int .i64 c'.k)).set 1 (.int .i64 c'.n)).set 2 (sV c'.s)).set 3 (.slice c'.la c'.ln c'.lc)).set 4 (.slice c'.fa c'.fn c'.fc)) (below_set (below_set (below_set (below_set (below_set hbE (by omega : w.heap.size ≤ (w.heap.size + 1 + 1)) (i := 0) (.int .i64 c'.k)) (by omega : w.heap.size ≤ (w.heap.size + 1 + 1)) (i := 1) (.int .i64 c'.n)) (by omega : w.heap.size ≤ (w.heap.size + 1 + 1)) (i := 2) (sV c'.s)) (by omega : w.heap.size ≤ (w.heap.size + 1 + 1)) (i := 3) (.slice c'.la c'.ln c'.lc)) (by omega : w.heap.size ≤ (w.heap.size + 1 + 1)) (i := 4) (.slice c'.fa c'.fn c'.fc)))
  have HN2 := Lib.hid (((((hN3.set (b := (w.heap.size + 1 + 1)) (by omega) 0 (.int .i64 c'.k)).set (b := (w.heap.size + 1 + 1)) (by omega) 1 (.int .i64 c'.n)).set (b := (w.heap.size + 1 + 1)) (by omega) 2 (sV c'.s)).set (b := (w.heap.size + 1 + 1)) (by omega) 3 (.slice c'.la c'.ln c'.lc)).set (b := (w.heap.size + 1 + 1)) (by omega) 4 (.slice c'.fa c'.fn c'.fc))
  clear oR hbE hN3
  go_wp2
  clear r0 r1 r2 r3 r4 g0 g1 g2 g3 g4
  change bodyPost Tryz.prog Tryz.f125 _ _ _ (((((w4.setCell ⟨(w.heap.size + 1 + 1), 0, none⟩ (.int .i64 c'.k)).setCell ⟨(w.heap.size + 1 + 1), 1, none⟩ (.int .i64 c'.n)).setCell ⟨(w.heap.size + 1 + 1), 2, none⟩ (sV c'.s)).setCell ⟨(w.heap.size + 1 + 1), 3, none⟩ (.slice c'.la c'.ln c'.lc)).setCell ⟨(w.heap.size + 1 + 1), 4, none⟩ (.slice c'.fa c'.fn c'.fc))
  have hN4 := HN2.out
  clear HN2
  generalize (((((w4.setCell ⟨(w.heap.size + 1 + 1), 0, none⟩ (.int .i64 c'.k)).setCell ⟨(w.heap.size + 1 + 1), 1, none⟩ (.int .i64 c'.n)).setCell ⟨(w.heap.size + 1 + 1), 2, none⟩ (sV c'.s)).setCell ⟨(w.heap.size + 1 + 1), 3, none⟩ (.slice c'.la c'.ln c'.lc)).setCell ⟨(w.heap.size + 1 + 1), 4, none⟩ (.slice c'.fa c'.fn c'.fc)) = U at *
  obtain ⟨oS, hbS⟩ := HS.out
  have c0 : U.cell? ⟨(w.heap.size + 1 + 1), 0, none⟩ = some (.int .i64 c'.k) := oS.cell rfl
  have c1 : U.cell? ⟨(w.heap.size + 1 + 1), 1, none⟩ = some (.int .i64 c'.n) := oS.cell rfl
  have c2 : U.cell? ⟨(w.heap.size + 1 + 1), 2, none⟩ = some (sV c'.s) := oS.cell rfl
  have c3 : U.cell? ⟨(w.heap.size + 1 + 1), 3, none⟩ = some (.slice c'.la c'.ln c'.lc) := oS.cell rfl
  have c4 : U.cell? ⟨(w.heap.size + 1 + 1), 4, none⟩ = some (.slice c'.fa c'.fn c'.fc) := oS.cell rfl
  exact bodyPost_ret (v := .agg #[.int .i64 c'.k, .int .i64 c'.n, sV c'.s, .slice c'.la c'.ln c'.lc, .slice c'.fa c'.fn c'.fc]) (by simp [results, Tryz.results125, go_sem, c0, c1, c2, c3, c4]) rfl ⟨c', M, rfl, hbS, hN4.mono (fun b hb => by omega), HMO.out⟩
end Go.Proofs.YtjpmnlefjmdelaaGreatDoor
