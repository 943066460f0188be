/- The contract of otherFields. The contract of Get. The contracts of Without and With. -/
import Derived.Test.YtjpmnlefjmdelaaGreatDoorCcJ
import Derived.Test.YtjpmnlefjmdelaaGreatDoorPdJ
import Derived.Deep.Cut
set_option linter.unusedSimpArgs false
set_option linter.unusedVariables false
namespace Go.Proofs.YtjpmnlefjmdelaaGreatDoor
open Go.RowKit Go.Sort Go.Proofs.LawFrame

theorem row_weak {w : World} {base base' : Nat} {e : TypeId} {size : Nat} {v : Value} {n : Nat} {xs : List Value} (h : w.ownsRow base e size v n xs) (hb : base' ≤ base) : w.ownsRow base' e size v n xs := by
  refine ⟨h.1, ?_⟩
  rcases h.2 with h | ⟨g, cap, cur, h1, h2, h3⟩
  · exact Or.inl h
  · exact Or.inr ⟨g, cap, cur, h1, Nat.le_trans hb h2, h3⟩
/-- these cells are those fields, in w -/
structure PW (w : World) (cs : List FC) (l : List (Str × T)) : Prop where
  len : cs.length = l.length
  all : ∀ (i : Nat) (x : FC) (p : Str × T), cs[i]? = some x → l[i]? = some p → x.x = p.1 ∧ Is w x.v p.2
theorem PW.nil (w : World) : PW w [] [] := ⟨rfl, fun i x p h => by simp at h⟩
theorem PW.under {w w' : World} {cs : List FC} {l : List (Str × T)} (h : PW w cs l) (hb : Below w.heap.size w w') : PW w' cs l := ⟨h.len, fun i x p hx hp => ⟨(h.all i x p hx hp).1, (h.all i x p hx hp).2.all hb⟩⟩
theorem PW.snoc {w : World} {cs : List FC} {l : List (Str × T)} {c : FC} {t : Str × T} (h : PW w cs l) (hc : c.x = t.1 ∧ Is w c.v t.2) : PW w (cs ++ [c]) (l ++ [t]) := by
  refine ⟨by rw [List.length_append, List.length_append, h.len]; rfl, fun i c' t' hc' ht' => ?_⟩
  rcases Nat.lt_or_ge i cs.length with hlt | hge
  · rw [List.getElem?_append_left hlt] at hc'
    rw [List.getElem?_append_left (by rw [← h.len]; exact hlt)] at ht'
    exact h.all i c' t' hc' ht'
  · have hi := (List.getElem?_eq_some_iff.1 hc').1
    rw [List.length_append] at hi
    have e : i = cs.length := by simp at hi; omega
    subst e
    rw [List.getElem?_append_right (Nat.le_refl _), Nat.sub_self] at hc'
    rw [List.getElem?_append_right (by rw [h.len]; exact Nat.le_refl _), h.len, Nat.sub_self] at ht'
    simp at hc' ht'
    subst hc' ht'
    exact hc
/-- a row of the call's own that holds those fields -/
structure RowF (w0 w : World) (base : Nat) (v : Value) (l : List (Str × T)) : Prop where
  out : ∃ cs : List FC, PW w0 cs l ∧ w.ownsRow base 58 6 v cs.length (cs.flatMap FC.cells)
theorem RowF.under {w0 w w' : World} {base : Nat} {v : Value} {l : List (Str × T)} (h : RowF w0 w base v l) (hb : Below w.heap.size w w') : RowF w0 w' base v l := by
  obtain ⟨cs, h1, h2⟩ := h.out
  exact ⟨cs, h1, own_below h2 hb⟩
theorem RowF.flds {w0 w : World} {base : Nat} {v : Value} {l : List (Str × T)} (h : RowF w0 w base v l) (hb : Below w0.heap.size w0 w) : Flds w v l := by
  obtain ⟨cs, h1, h2⟩ := h.out
  have hF := Flat.of_own h2
  rw [h1.len] at hF
  have h3 := h1.under hb
  exact ⟨cs, h1.len, hF, fun i x p hx hp => (h3.all i x p hx hp).1, fun i x p hx hp => (h3.all i x p hx hp).2⟩
theorem RowF.slice {w0 w : World} {base : Nat} {v : Value} {l : List (Str × T)} (h : RowF w0 w base v l) : ∃ a n c, v = .slice a n c := by
  obtain ⟨cs, h1, h2⟩ := h.out
  rcases h2.2 with ⟨rfl, -⟩ | ⟨g, cap, cur, rfl, -⟩
  · exact ⟨_, _, _, rfl⟩
  · exact ⟨_, _, _, rfl⟩
def othK (k : Int) (nm : Str) (f : List (Str × T)) : List (Str × T) := if k = 5 then oth nm f else []
theorem oth_snoc {nm : Str} {f : List (Str × T)} {q : Nat} {p : Str × T} (h : f[q]? = some p) : oth nm (f.take (q + 1)) = oth nm (f.take q) ++ (if p.1 = nm then [] else [p]) := by
  rw [take_snoc h]; unfold oth; rw [List.filter_append]; by_cases e : p.1 = nm <;> simp [e]
theorem oth_len (nm : Str) (f : List (Str × T)) : (oth nm f).length ≤ f.length := List.length_filter_le _ _

set_option maxHeartbeats 8000000 in
set_option maxRecDepth 4000 in
theorem otherFields_any (c : VC) (k n : Int) (s : Str) (l : List T) (f : List (Str × T)) (nm : Str) (w0 w : World) (hI : Is w0 c (.mk k n s l f)) (h00 : Below w0.heap.size w0 w) (hfl : f.length ≤ 4000) :
    Calls Tryz.prog 186 #[c.val, sV nm] w fun e w' => ∃ kv, e = .returned kv ∧ Below w.heap.size w w' ∧ RowF w0 w' w.heap.size kv (othK k nm f) := by
  obtain ⟨hk, -, -⟩ := hI.same
  have hf := hI.flds
  obtain ⟨ck, cn, cst, cla, cln, clc, cfa, cfn, cfc⟩ := c
  obtain ⟨hfn, hfc, hfm⟩ := hf.slice
  simp only at hfn hfc hfm hk hf
  subst hfn
  unfold maxLen at hfm
  obtain ⟨i35, hi35, hzi35, hsi35, hyi35⟩ := info_parts info35
  show Calls Tryz.prog 186 #[.agg #[.int .i64 ck, .int .i64 cn, sV cst, .slice cla cln clc, .slice cfa f.length cfc], sV nm] w _
  have hw0 := below_alloc w (.cells #[.int .i64 ck, .int .i64 cn, sV cst, .slice cla cln clc, .slice cfa f.length cfc] 25)
  have oB := Own.new w [.int .i64 ck, .int .i64 cn, sV cst, .slice cla cln clc, .slice cfa f.length cfc] 25
  have hs0 : (w.alloc (.cells #[.int .i64 ck, .int .i64 cn, sV cst, .slice cla cln clc, .slice cfa f.length cfc] 25)).heap.size = w.heap.size + 1 := size_alloc _ _
  rw [← hk]
  clear hI hk
  by_cases h5 : ck = 5
  case neg =>
    have HE : Hid (othK ck nm f = []) := Lib.hid (if_neg h5)
    have hne : (ck != 5) = true := by simpa using h5
    have HB := Lib.hid hw0
    clear hw0 oB hf h5
    go_enter Tryz.func186, Tryz.ntmps186
    go_wp2
    go_ret
    exact ⟨_, rfl, HB.out, by rw [HE.out]; exact ⟨[], PW.nil _, own_nil _ _ _ _⟩⟩
  have HE : Hid (othK ck nm f = oth nm f) := Lib.hid (if_pos h5)
  have hne : (ck != 5) = false := by simpa using h5
  have c0 := oB.cell (i := 0) rfl
  have c4 := oB.cell (i := 4) rfl
  have R0 := Lib.hid (And.intro hw0 oB)
  clear hw0 oB h5
  go_enter Tryz.func186, Tryz.ntmps186
  go_wp2
  clear c0 c4
  generalize w.alloc (.cells #[.int .i64 ck, .int .i64 cn, sV cst, .slice cla cln clc, .slice cfa f.length cfc] 25) = W at *
  go_loopg [5, 15] f.length (fun g kv i wr => ∃ (q : Nat) (cs : List FC), q ≤ f.length ∧ g = f.length - q ∧ i = .int .i64 q ∧ Below W.heap.size W wr ∧ wr.ownsRow W.heap.size 58 6 kv cs.length (cs.flatMap FC.cells) ∧ Hid (PW w0 cs (oth nm (f.take q))))
  case atStart => exact ⟨0, [], Nat.zero_le _, rfl, rfl, Below.refl _ _, own_nil _ _ _ _, Lib.hid (PW.nil _)⟩
  case round =>
    obtain ⟨q, cs, hq, hg, rfl, hb, hown, HP⟩ := hrel
    have HG := Lib.hid hg
    clear hg
    have hbw := below_all R0.out.1 hb
    have hbw0 := below_all h00 hbw
    have hcl : cs.length ≤ 4000 := by have := HP.out.len; have := oth_len nm (f.take q); simp at this; omega
    by_cases hlt : q < f.length
    case neg =>
      obtain rfl : q = f.length := by omega
      have HQ := Lib.hid (And.intro hbw hown)
      clear hbw hown hb hbw0
      go_wp2
      go_ret
      obtain ⟨hbw, hown⟩ := HQ.out
      refine ⟨_, rfl, hbw, ?_⟩
      rw [HE.out]
      have hP := HP.out
      rw [List.take_length] at hP
      exact ⟨cs, hP, row_weak hown (by omega)⟩
    have hx := List.getElem?_eq_getElem hlt
    generalize f[q] = p at hx
    obtain ⟨b, off, d, hao, hbl, hId, q5, q0, q1, q2, q3, q4⟩ := hf.at hbw0 hx
    have hdd : Is w0 d p.2 := by
      obtain ⟨cs0, g1, g2, g3, g4⟩ := hf.out
      obtain ⟨x0, hx0⟩ : ∃ x0, cs0[q]? = some x0 := ⟨_, List.getElem?_eq_getElem (by omega)⟩
      have hv0 : d = x0.v := by
        obtain ⟨ao', cap', e1, -, -, e4⟩ := g2.out
        cases e1
        obtain ⟨b0, off0, e5, e6, e7⟩ := e4 (by omega)
        rw [hao] at e5; cases e5
        have hc : ∀ j z, (FC.cells x0)[j]? = some z → wr.cell? ⟨b, off + q * 6 + j, none⟩ = some z := fun j z hz => by
          have hj : j < 6 := (List.getElem?_eq_some_iff.1 hz).1
          rw [hbw0.cell (p := ⟨b, off + q * 6 + j, none⟩) e6, Nat.add_assoc]
          exact e7 (q * 6 + j) z (by rw [flat_get FC.cells (m := 6) (fun _ => rfl) cs0 q j x0 hx0 hj]; exact hz)
        have a0 := hc 1 _ rfl
        have a1 := hc 2 _ rfl
        have a2 := hc 3 _ rfl
        have a3 := hc 4 _ rfl
        have a4 := hc 5 _ rfl
        rw [q0] at a0; rw [q1] at a1; rw [q2] at a2; rw [q3] at a3; rw [q4] at a4
        apply VC.cells_inj
        simp only [VC.cells]
        rw [Option.some.inj a0, Option.some.inj a1, Option.some.inj a2, Option.some.inj a3, Option.some.inj a4]
      rw [hv0]; exact g4 q x0 p hx0 hx
    subst hao
    have hbb := hb.alloc hb.size (.cells #[sV p.1, .int .i64 d.k, .int .i64 d.n, sV d.s, .slice d.la d.ln d.lc, .slice d.fa d.fn d.fc] 58)
    have oN : Own (wr.alloc (.cells #[sV p.1, .int .i64 d.k, .int .i64 d.n, sV d.s, .slice d.la d.ln d.lc, .slice d.fa d.fn d.fc] 58)) wr.heap.size (FC.cells ⟨p.1, d⟩) 58 := Own.new _ _ _
    have hownA := hown.alloc (.cells #[sV p.1, .int .i64 d.k, .int .i64 d.n, sV d.s, .slice d.la d.ln d.lc, .slice d.fa d.fn d.fc] 58)
    have hwr := hb.size
    have HX := Lib.hid (And.intro hx hdd)
    clear hx hdd hId
    by_cases hnm : p.1 = nm
    · have HO : Hid (oth nm (f.take (q + 1)) = oth nm (f.take q)) := Lib.hid (by rw [oth_snoc HX.out.1, if_pos hnm]; simp)
      have hne2 : (p.1 == nm) = true := by simpa using hnm
      have HQ := Lib.hid (And.intro hbb hownA)
      clear hbb hownA oN hown hb hnm hbw hbw0
      go_wp2
      go_roundg (f.length - (q + 1))
      case measure => have := HG.out; omega
      case rel => exact ⟨q + 1, cs, by omega, rfl, by go_num, HQ.out.1, HQ.out.2, Lib.hid (by rw [HO.out]; exact HP.out)⟩
    · have HO : Hid (oth nm (f.take (q + 1)) = oth nm (f.take q) ++ [p]) := Lib.hid (by rw [oth_snoc HX.out.1, if_neg hnm])
      have hne2 : (p.1 == nm) = false := by simpa using hnm
      clear hown hb hnm hbw hbw0
      go_upto_region 8 with (fail)
      clear q5 q0 q1 q2 q3 q4
      have hVW := hbb.size
      change Code.wp Tryz.prog _ _ _ (wr.alloc (.cells #[sV p.1, .int .i64 d.k, .int .i64 d.n, sV d.s, .slice d.la d.ln d.lc, .slice d.fa d.fn d.fc] 58))
      generalize wr.alloc (.cells #[sV p.1, .int .i64 d.k, .int .i64 d.n, sV d.s, .slice d.la d.ln d.lc, .slice d.fa d.fn d.fc] 58) = V at *
      have u0 := oN.cell (i := 0) rfl
      have u1 := oN.cell (i := 1) rfl
      have u2 := oN.cell (i := 2) rfl
      have u3 := oN.cell (i := 3) rfl
      have u4 := oN.cell (i := 4) rfl
      have u5' := oN.cell (i := 5) rfl
      clear oN
      go_wp2_with (first | (at_builtin; refine wpList_append_own _ rfl (.tmp 23) (.tmp 25) 23 rfl W.heap.size 58 i35 (.agg #[.string ⟨#[]⟩, .int .i64 0, .int .i64 0, .string ⟨#[]⟩, .slice none 0 0, .slice none 0 0]) 6 96 Tryz.underlying23 hi35 hzi35 hsi35 hyi35 rfl (by decide) _ _ _ rfl (hownA.alloc _) ⟨V.heap.size, 0, none⟩ 1 1 (FC.cells ⟨p.1, d⟩) rfl rfl (cell_six_new _ ⟨p.1, d⟩ _) (six_one ⟨p.1, d⟩) (by unfold maxLen; omega) (by omega) (by simp; omega) ?_; intro v' w5 hown5 hgrow5 hnil5))
      go_roundg (f.length - (q + 1))
      case measure => have := HG.out; omega
      case rel => exact ⟨q + 1, cs ++ [⟨p.1, d⟩], by omega, rfl, by go_num, below_grown (hbb.trans ((below_alloc V _).mono (by omega))) hgrow5 (by rw [size_alloc]; omega) (own_row hownA), by rw [flatMap_snoc, List.length_append]; exact hown5, Lib.hid (by rw [HO.out]; exact HP.out.snoc ⟨rfl, HX.out.2⟩)⟩
end Go.Proofs.YtjpmnlefjmdelaaGreatDoor
namespace Go.Proofs.YtjpmnlefjmdelaaGreatDoor
open Go.RowKit Go.Sort Go.Proofs.LawFrame

def T0 : T := .mk 0 0 [] [] []
theorem isA_zero (w : World) (A : Nat → Prop) : IsA w A VC0 T0 :=
  .mk (c := VC0) [] [] rfl (FlatA.nil _ _ _) (fun i x t h => by simp at h) rfl (FlatA.nil _ _ _) (fun i x t h => by simp at h) (fun i x t h => by simp at h)
end Go.Proofs.YtjpmnlefjmdelaaGreatDoor
namespace Go.Proofs.YtjpmnlefjmdelaaGreatDoor
open Go.RowKit Go.Sort Go.Proofs.LawFrame

theorem oth_mem {nm : Str} {f : List (Str × T)} {p : Str × T} (h : p ∈ oth nm f) : p ∈ f := (List.mem_filter.1 h).1

set_option maxHeartbeats 8000000 in
set_option maxRecDepth 4000 in
theorem with_any (c cx : VC) (k n : Int) (s : Str) (l : List T) (f : List (Str × T)) (nm : Str) (x : T) (w : World) (hI : Is w c (.mk k n s l f)) (hX : Is w cx x) (hsz : (T.mk k n s l f).size ≤ 3900) (hsx : x.size ≤ 4000) :
    Calls Tryz.prog 158 #[c.val, sV nm, cx.val] w fun e w' => ∃ (c' : VC) (M : List (Str × T)), e = .returned c'.val ∧ Below w.heap.size w w' ∧ IsA w' (fun b => w.heap.size ≤ b) c' (.mk 5 0 [] [] M) ∧ MapOf (othK k nm f ++ [(nm, x)]) M := by
  have hf := hI.flds
  have hsf : ∀ p ∈ f, p.2.size ≤ 4000 := fun p hp => Int.le_trans (size_in_f (k := k) (n := n) (s := s) (l := l) hp) (by omega)
  have hfl := (size_lens (M := 3900) hsz).2
  obtain ⟨i35, hi35, hzi35, hsi35, hyi35⟩ := info_parts info35
  obtain ⟨ck, cn, cst, cla, cln, clc, cfa, cfn, cfc⟩ := c
  obtain ⟨xk, xn, xs, xla, xln, xlc, xfa, xfn, xfc⟩ := cx
  obtain ⟨hfn, hfc, hfm⟩ := hf.slice
  simp only at hfn hfc hfm hf
  subst hfn
  unfold maxLen at hfm
  show Calls Tryz.prog 158 #[.agg #[.int .i64 ck, .int .i64 cn, sV cst, .slice cla cln clc, .slice cfa f.length cfc], sV nm, .agg #[.int .i64 xk, .int .i64 xn, sV xs, .slice xla xln xlc, .slice xfa xfn xfc]] w _
  have hw0 : Below w.heap.size w (((w.alloc (.cells #[.int .i64 ck, .int .i64 cn, sV cst, .slice cla cln clc, .slice cfa f.length cfc] 25)).alloc (.cells #[.int .i64 xk, .int .i64 xn, sV xs, .slice xla xln xlc, .slice xfa xfn xfc] 25)).alloc (.cells #[.int .i64 0, .int .i64 0, .string ⟨#[]⟩, .slice none 0 0, .slice none 0 0] 25)) := (((Below.refl _ _).alloc (Nat.le_refl _) _).alloc (by simp) _).alloc (by simp; omega) _
  have oB : Own (((w.alloc (.cells #[.int .i64 ck, .int .i64 cn, sV cst, .slice cla cln clc, .slice cfa f.length cfc] 25)).alloc (.cells #[.int .i64 xk, .int .i64 xn, sV xs, .slice xla xln xlc, .slice xfa xfn xfc] 25)).alloc (.cells #[.int .i64 0, .int .i64 0, .string ⟨#[]⟩, .slice none 0 0, .slice none 0 0] 25)) w.heap.size [.int .i64 ck, .int .i64 cn, sV cst, .slice cla cln clc, .slice cfa f.length cfc] 25 := ((Own.new _ _ _).alloc _).alloc _
  have oX : Own (((w.alloc (.cells #[.int .i64 ck, .int .i64 cn, sV cst, .slice cla cln clc, .slice cfa f.length cfc] 25)).alloc (.cells #[.int .i64 xk, .int .i64 xn, sV xs, .slice xla xln xlc, .slice xfa xfn xfc] 25)).alloc (.cells #[.int .i64 0, .int .i64 0, .string ⟨#[]⟩, .slice none 0 0, .slice none 0 0] 25)) (w.heap.size + 1) [.int .i64 xk, .int .i64 xn, sV xs, .slice xla xln xlc, .slice xfa xfn xfc] 25 := (Own.new_at (by rw [size_alloc]) _ _).alloc _
  have oR : Own (((w.alloc (.cells #[.int .i64 ck, .int .i64 cn, sV cst, .slice cla cln clc, .slice cfa f.length cfc] 25)).alloc (.cells #[.int .i64 xk, .int .i64 xn, sV xs, .slice xla xln xlc, .slice xfa xfn xfc] 25)).alloc (.cells #[.int .i64 0, .int .i64 0, .string ⟨#[]⟩, .slice none 0 0, .slice none 0 0] 25)) (w.heap.size + 1 + 1) [.int .i64 0, .int .i64 0, .string ⟨#[]⟩, .slice none 0 0, .slice none 0 0] 25 := Own.new_at (by rw [size_alloc, size_alloc]) _ _
  have hs0 : (((w.alloc (.cells #[.int .i64 ck, .int .i64 cn, sV cst, .slice cla cln clc, .slice cfa f.length cfc] 25)).alloc (.cells #[.int .i64 xk, .int .i64 xn, sV xs, .slice xla xln xlc, .slice xfa xfn xfc] 25)).alloc (.cells #[.int .i64 0, .int .i64 0, .string ⟨#[]⟩, .slice none 0 0, .slice none 0 0] 25)).heap.size = w.heap.size + 3 := by rw [size_alloc, size_alloc, size_alloc]
  have HIX := Lib.hid (And.intro hI hX)
  have hkl : (othK k nm f).length ≤ 3900 := by
    unfold othK; split
    · have := oth_len nm f; omega
    · simp
  have hkm : ∀ p ∈ othK k nm f, p.2.size ≤ 4000 := fun p hp => by
    unfold othK at hp; split at hp
    · exact hsf p (oth_mem hp)
    · cases hp
  clear hI hX hf hsf
  go_enter Tryz.func158, Tryz.ntmps158
  go_upto_region 1 with (fail)
  generalize (((w.alloc (.cells #[.int .i64 ck, .int .i64 cn, sV cst, .slice cla cln clc, .slice cfa f.length cfc] 25)).alloc (.cells #[.int .i64 xk, .int .i64 xn, sV xs, .slice xla xln xlc, .slice xfa xfn xfc] 25)).alloc (.cells #[.int .i64 0, .int .i64 0, .string ⟨#[]⟩, .slice none 0 0, .slice none 0 0] 25)) = W at *
  have b0 := cell_regrown (oB.cell (i := 0) rfl)
  have b1 := cell_regrown (oB.cell (i := 1) rfl)
  have b2 := cell_regrown (oB.cell (i := 2) rfl)
  have b3 := cell_regrown (oB.cell (i := 3) rfl)
  have b4 := cell_regrown (oB.cell (i := 4) rfl)
  have x0 := cell_regrown (oX.cell (i := 0) rfl)
  have x1 := cell_regrown (oX.cell (i := 1) rfl)
  have x2 := cell_regrown (oX.cell (i := 2) rfl)
  have x3 := cell_regrown (oX.cell (i := 3) rfl)
  have x4 := cell_regrown (oX.cell (i := 4) rfl)
  refine wp_region_multi 7 (fun i => i == 2 || i == 6) (fun i _ u w' => (i = 2 → RowF w w' W.heap.size u (othK k nm f)) ∧ (i = 6 → ∃ b : Nat, u = .slice (some ⟨b, 0, none⟩) 1 1 ∧ Own w' b [sV nm, .int .i64 xk, .int .i64 xn, sV xs, .slice xla xln xlc, .slice xfa xfn xfc] 58))
    (fun i u => (i = 2 → ∃ a n c, u = .slice a n c) ∧ (i = 6 → ∃ b, u = .slice (some ⟨b, 0, none⟩) 1 1)) (by kernel_rfl) (by kernel_rfl)
    (fun i xs u w1 w2 h hb => ⟨fun e => (h.1 e).under hb, fun e => by obtain ⟨b, a2, a4⟩ := h.2 e; exact ⟨b, a2, a4.all hb⟩⟩)
    (fun i => ⟨.slice (some ⟨0, 0, none⟩) 1 1, fun _ => ⟨_, _, _, rfl⟩, fun _ => ⟨0, rfl⟩⟩) ?_
  simp only [List.take_succ_cons, List.take_zero, List.drop_succ_cons, List.drop_zero]
  refine wpM_stretch 2 rfl rfl rfl rfl ?_
  simp only [List.take_succ_cons, List.take_zero, List.drop_succ_cons, List.drop_zero]
  repeat (first | go_big_quiet_step (fail) | quiet_step (fail))
  refine wpQuiet_nil ?_
  refine wpM_dem rfl rfl rfl ?_ ?_
  · rintro _ ⟨pp, rfl⟩
    go_simp
    simp only [demUpon]
    refine ⟨trivial, (otherFields_any ⟨ck, cn, cst, cla, cln, clc, cfa, f.length, cfc⟩ k n s l f nm w _ HIX.out.1 (below_all hw0 (below_regrown W pp.d pp.os)) (by omega)).mono ?_⟩
    rintro e w2 ⟨kv, rfl, hb2, hR⟩
    have hsz2 := (below_regrown W pp.d pp.os).size
    obtain ⟨cs, r1, r2⟩ := hR.out
    exact ⟨_, rfl, hR.slice, hb2, ⟨cs, r1, row_weak r2 (by omega)⟩⟩
  · rintro u hu
    obtain ⟨ka, kn, kc, rfl⟩ := hu.1 rfl
    clear hu
    refine wpM_stretch 3 rfl rfl rfl rfl ?_
    simp only [List.take_succ_cons, List.take_zero, List.drop_succ_cons, List.drop_zero]
    repeat (first | go_big_quiet_step (fail) | quiet_step (fail))
    refine wpQuiet_nil ?_
    refine wpM_dem rfl rfl rfl ?_ ?_
    · rintro _ ⟨pp, rfl⟩
      go_simp
      simp only [demUpon]
      exact ⟨⟨_, rfl⟩, below_alloc _ _, _, rfl, Own.new_at (by simp [grow]) _ _⟩
    · rintro u hu
      obtain ⟨b8, rfl⟩ := hu.2 rfl
      clear hu
      refine wpM_end ?_
      rintro U hbU ⟨⟨-, hV2⟩, hV6⟩
      obtain ⟨cs, hPW, hrow⟩ := (hV2.1 (by first | rfl | trivial)).out
      obtain ⟨b', hu3, oS⟩ := hV6.2 (by first | rfl | trivial)
      obtain rfl : b8 = b' := by simpa using hu3
      clear hV2 hV6 hu3 b0 b1 b2 b3 b4 x0 x1 x2 x3 x4
      have hUs := hbU.size
      have hcl := hPW.len
      have hrl := own_row hrow
      have oRU := oR.all hbU
      have hbwU := below_all hw0 hbU
      have HPW := Lib.hid hPW
      clear hPW oB oX oR
      go_wp2_with (first | (at_builtin; refine wpList_append_own _ rfl (.tmp 9) (.tmp 13) 23 rfl W.heap.size 58 i35 (.agg #[.string ⟨#[]⟩, .int .i64 0, .int .i64 0, .string ⟨#[]⟩, .slice none 0 0, .slice none 0 0]) 6 96 Tryz.underlying23 hi35 hzi35 hsi35 hyi35 rfl (by decide) _ _ _ rfl hrow ⟨b8, 0, none⟩ 1 1 [sV nm, .int .i64 xk, .int .i64 xn, sV xs, .slice xla xln xlc, .slice xfa xfn xfc] rfl rfl (own_src oS) (six_one ⟨nm, ⟨xk, xn, xs, xla, xln, xlc, xfa, xfn, xfc⟩⟩) (by unfold maxLen; omega) (by omega) (by omega) ?_; intro v' w5 hown5 hgrow5 hnil5) | fail)
      have hb5 : Below w.heap.size w w5 := below_grown hbwU hgrow5 (by omega) (fun k h => by have := hrl k h; omega)
      have hFl : Flds w5 v' (othK k nm f ++ [(nm, x)]) := by
        have hP5 := (HPW.out.snoc (c := ⟨nm, ⟨xk, xn, xs, xla, xln, xlc, xfa, xfn, xfc⟩⟩) (t := (nm, x)) ⟨rfl, HIX.out.2⟩).under hb5
        have hF := Flat.of_own hown5
        refine ⟨cs ++ [⟨nm, ⟨xk, xn, xs, xla, xln, xlc, xfa, xfn, xfc⟩⟩], hP5.len, ?_, fun i y p hy hp => (hP5.all i y p hy hp).1, fun i y p hy hp => (hP5.all i y p hy hp).2⟩
        rw [flatMap_snoc, List.length_append, ← hcl]
        exact hF
      have C2 := Lib.hid (map_any v' _ w5 hFl (by rw [List.length_append]; simp; omega) (fun p hp => by
        rcases List.mem_append.1 hp with hp | hp
        · exact hkm p hp
        · simp at hp; subst hp; exact hsx))
      have oR5 := own_kept' oRU hgrow5 (fun e => by have := hrl _ e; omega)
      obtain ⟨va, vn, vc, rfl⟩ : ∃ a n c, v' = .slice a n c := by
        rcases hown5.2 with ⟨h, -⟩ | ⟨g, cap, cur, h, -⟩
        · exact ⟨_, _, _, h⟩
        · exact ⟨_, _, _, h⟩
      have hsz5 := hgrow5.size
      have HQ := Lib.hid (And.intro hb5 oR5)
      clear hb5 hFl oR5 hown5 hgrow5 hnil5 hrow oRU hbwU hrl oS
      go_wp2_with fail
      refine C2.out.mono ?_
      rintro e w4 ⟨c', M, rfl, hb4, hN, hMO⟩
      have oR := HQ.out.2.all hb4
      have hbE := below_all HQ.out.1 hb4
      have hN3 := hN.mono (A' := fun b => w.heap.size + 3 ≤ b) (fun b hb => by omega)
      have HMO := Lib.hid hMO
      clear C2 HQ hN hb4 hMO
      have r0 := oR.cell (i := 0) rfl
      have g0 := oR.frozen 0
      have r1 := oR.cell (i := 1) rfl
      have g1 := oR.frozen 1
      have r2 := oR.cell (i := 2) rfl
      have g2 := oR.frozen 2
      have r3 := oR.cell (i := 3) rfl
      have g3 := oR.frozen 3
      have r4 := oR.cell (i := 4) rfl
      have g4 := oR.frozen 4
      have HS := Lib.hid (And.intro (((((oR.set 0 (.int .i64 c'.k)).set 1 (.int .i64 c'.n)).set 2 (sV c'.s)).set 3 (.slice c'.la c'.ln c'.lc)).set 4 (.slice c'.fa c'.fn c'.fc)) (below_set (below_set (below_set (below_set (below_set hbE (by omega : w.heap.size ≤ (w.heap.size + 1 + 1)) (i := 0) (.int .i64 c'.k)) (by omega : w.heap.size ≤ (w.heap.size + 1 + 1)) (i := 1) (.int .i64 c'.n)) (by omega : w.heap.size ≤ (w.heap.size + 1 + 1)) (i := 2) (sV c'.s)) (by omega : w.heap.size ≤ (w.heap.size + 1 + 1)) (i := 3) (.slice c'.la c'.ln c'.lc)) (by omega : w.heap.size ≤ (w.heap.size + 1 + 1)) (i := 4) (.slice c'.fa c'.fn c'.fc)))
      have HN2 := Lib.hid (((((hN3.set (b := (w.heap.size + 1 + 1)) (by omega) 0 (.int .i64 c'.k)).set (b := (w.heap.size + 1 + 1)) (by omega) 1 (.int .i64 c'.n)).set (b := (w.heap.size + 1 + 1)) (by omega) 2 (sV c'.s)).set (b := (w.heap.size + 1 + 1)) (by omega) 3 (.slice c'.la c'.ln c'.lc)).set (b := (w.heap.size + 1 + 1)) (by omega) 4 (.slice c'.fa c'.fn c'.fc))
      clear oR hbE hN3
      go_wp2
      clear r0 r1 r2 r3 r4 g0 g1 g2 g3 g4
      change bodyPost Tryz.prog Tryz.f158 _ _ _ (((((w4.setCell ⟨(w.heap.size + 1 + 1), 0, none⟩ (.int .i64 c'.k)).setCell ⟨(w.heap.size + 1 + 1), 1, none⟩ (.int .i64 c'.n)).setCell ⟨(w.heap.size + 1 + 1), 2, none⟩ (sV c'.s)).setCell ⟨(w.heap.size + 1 + 1), 3, none⟩ (.slice c'.la c'.ln c'.lc)).setCell ⟨(w.heap.size + 1 + 1), 4, none⟩ (.slice c'.fa c'.fn c'.fc))
      have hN4 := HN2.out
      clear HN2
      generalize (((((w4.setCell ⟨(w.heap.size + 1 + 1), 0, none⟩ (.int .i64 c'.k)).setCell ⟨(w.heap.size + 1 + 1), 1, none⟩ (.int .i64 c'.n)).setCell ⟨(w.heap.size + 1 + 1), 2, none⟩ (sV c'.s)).setCell ⟨(w.heap.size + 1 + 1), 3, none⟩ (.slice c'.la c'.ln c'.lc)).setCell ⟨(w.heap.size + 1 + 1), 4, none⟩ (.slice c'.fa c'.fn c'.fc)) = U at *
      obtain ⟨oS, hbS⟩ := HS.out
      have c0 : U.cell? ⟨(w.heap.size + 1 + 1), 0, none⟩ = some (.int .i64 c'.k) := oS.cell rfl
      have c1 : U.cell? ⟨(w.heap.size + 1 + 1), 1, none⟩ = some (.int .i64 c'.n) := oS.cell rfl
      have c2 : U.cell? ⟨(w.heap.size + 1 + 1), 2, none⟩ = some (sV c'.s) := oS.cell rfl
      have c3 : U.cell? ⟨(w.heap.size + 1 + 1), 3, none⟩ = some (.slice c'.la c'.ln c'.lc) := oS.cell rfl
      have c4 : U.cell? ⟨(w.heap.size + 1 + 1), 4, none⟩ = some (.slice c'.fa c'.fn c'.fc) := oS.cell rfl
      exact bodyPost_ret (v := .agg #[.int .i64 c'.k, .int .i64 c'.n, sV c'.s, .slice c'.la c'.ln c'.lc, .slice c'.fa c'.fn c'.fc]) (by simp [results, Tryz.results158, go_sem, c0, c1, c2, c3, c4]) rfl ⟨c', M, rfl, hbS, hN4.mono (fun b hb => by omega), HMO.out⟩
end Go.Proofs.YtjpmnlefjmdelaaGreatDoor
