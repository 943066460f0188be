/- The contract of the reference's Get. The contracts of the reference's Without and With. -/
import Derived.Test.YtinenbgdkchghaaCeJ
import Derived.Test.YtinenbgdkchghaaCd
import Derived.Test.YtinenbgdkchghaaCg
import Derived.Test.YtinenbgdkchghaaEaJJ
set_option linter.unusedSimpArgs false
set_option linter.unusedVariables false
namespace Go.Proofs.Ytinenbgdkchghaa
open Go.RowKit Go.Sort Go.Proofs.LawFrame

set_option maxHeartbeats 8000000 in
set_option maxRecDepth 4000 in
theorem rget_any (c : VC) (k n : Int) (s : Str) (l : List T) (f : List (Str × T)) (nm : Str) (w : World) (hI : Is w c (.mk k n s l f)) (hs : ∀ p ∈ f, p.2.size ≤ 4000) :
    Calls Try.prog 21 #[c.val, sV nm] w fun e w' => ∃ c' : VC, e = .returned (.tuple #[c'.val, .bool (getK k nm f).isSome]) ∧ Below w.heap.size w w' ∧ IsA w' (fun b => w.heap.size ≤ b) c' ((getK k nm f).getD T0) := by
  obtain ⟨hk, -, -⟩ := hI.same
  have hf := hI.flds
  obtain ⟨ck, cn, cst, cla, cln, clc, cfa, cfn, cfc⟩ := c
  obtain ⟨hfn, hfc, hfm⟩ := hf.slice
  simp only at hfn hfc hfm hk hf
  subst hfn
  unfold maxLen at hfm
  show Calls Try.prog 21 #[.agg #[.int .i64 ck, .int .i64 cn, sV cst, .slice cla cln clc, .slice cfa f.length cfc], sV nm] w _
  have hw0 : Below w.heap.size w ((w.alloc (.cells #[.int .i64 ck, .int .i64 cn, sV cst, .slice cla cln clc, .slice cfa f.length cfc] 25)).alloc (.cells #[.int .i64 0, .int .i64 0, .string ⟨#[]⟩, .slice none 0 0, .slice none 0 0] 25)) := ((Below.refl _ _).alloc (Nat.le_refl _) _).alloc (by simp) _
  have oB : Own ((w.alloc (.cells #[.int .i64 ck, .int .i64 cn, sV cst, .slice cla cln clc, .slice cfa f.length cfc] 25)).alloc (.cells #[.int .i64 0, .int .i64 0, .string ⟨#[]⟩, .slice none 0 0, .slice none 0 0] 25)) w.heap.size [.int .i64 ck, .int .i64 cn, sV cst, .slice cla cln clc, .slice cfa f.length cfc] 25 := (Own.new _ _ _).alloc _
  have oR : Own ((w.alloc (.cells #[.int .i64 ck, .int .i64 cn, sV cst, .slice cla cln clc, .slice cfa f.length cfc] 25)).alloc (.cells #[.int .i64 0, .int .i64 0, .string ⟨#[]⟩, .slice none 0 0, .slice none 0 0] 25)) (w.heap.size + 1) [.int .i64 0, .int .i64 0, .string ⟨#[]⟩, .slice none 0 0, .slice none 0 0] 25 := Own.new_at (by rw [size_alloc]) _ _
  have hs0 : ((w.alloc (.cells #[.int .i64 ck, .int .i64 cn, sV cst, .slice cla cln clc, .slice cfa f.length cfc] 25)).alloc (.cells #[.int .i64 0, .int .i64 0, .string ⟨#[]⟩, .slice none 0 0, .slice none 0 0] 25)).heap.size = w.heap.size + 2 := by rw [size_alloc, size_alloc]
  rw [← hk]
  clear hI hk
  have b0 := oB.cell (i := 0) rfl
  have b4 := oB.cell (i := 4) rfl
  by_cases h5 : ck = 5
  case neg =>
    have HE : Hid (getK ck nm f = none) := Lib.hid (if_neg h5)
    have hne : (ck == 5) = false := by simpa using h5
    have HW := Lib.hid (And.intro hw0 oR)
    clear hw0 oR oB h5 hf
    go_enter Try.func21, Try.ntmps21
    go_upto_region 7 with (fail)
    clear b0 b4
    generalize ((w.alloc (.cells #[.int .i64 ck, .int .i64 cn, sV cst, .slice cla cln clc, .slice cfa f.length cfc] 25)).alloc (.cells #[.int .i64 0, .int .i64 0, .string ⟨#[]⟩, .slice none 0 0, .slice none 0 0] 25)) = W at *
    obtain ⟨hbE, oR⟩ := HW.out
    have r0 := oR.cell (i := 0) rfl
    have g0 := oR.frozen 0
    have r1 := oR.cell (i := 1) rfl
    have g1 := oR.frozen 1
    have r2 := oR.cell (i := 2) rfl
    have g2 := oR.frozen 2
    have r3 := oR.cell (i := 3) rfl
    have g3 := oR.frozen 3
    have r4 := oR.cell (i := 4) rfl
    have g4 := oR.frozen 4
    have HS := Lib.hid (And.intro (((((oR.set 0 (.int .i64 0)).set 1 (.int .i64 0)).set 2 (.string ⟨#[]⟩)).set 3 (.slice none 0 0)).set 4 (.slice none 0 0)) (below_set (below_set (below_set (below_set (below_set hbE (by omega : w.heap.size ≤ (w.heap.size + 1)) (i := 0) (.int .i64 0)) (by omega : w.heap.size ≤ (w.heap.size + 1)) (i := 1) (.int .i64 0)) (by omega : w.heap.size ≤ (w.heap.size + 1)) (i := 2) (.string ⟨#[]⟩)) (by omega : w.heap.size ≤ (w.heap.size + 1)) (i := 3) (.slice none 0 0)) (by omega : w.heap.size ≤ (w.heap.size + 1)) (i := 4) (.slice none 0 0)))
    clear oR hbE
    go_wp2
    clear r0 r1 r2 r3 r4 g0 g1 g2 g3 g4
    change bodyPost Try.prog Try.f21 _ _ _ (((((W.setCell ⟨(w.heap.size + 1), 0, none⟩ (.int .i64 0)).setCell ⟨(w.heap.size + 1), 1, none⟩ (.int .i64 0)).setCell ⟨(w.heap.size + 1), 2, none⟩ (.string ⟨#[]⟩)).setCell ⟨(w.heap.size + 1), 3, none⟩ (.slice none 0 0)).setCell ⟨(w.heap.size + 1), 4, none⟩ (.slice none 0 0))
    generalize (((((W.setCell ⟨(w.heap.size + 1), 0, none⟩ (.int .i64 0)).setCell ⟨(w.heap.size + 1), 1, none⟩ (.int .i64 0)).setCell ⟨(w.heap.size + 1), 2, none⟩ (.string ⟨#[]⟩)).setCell ⟨(w.heap.size + 1), 3, none⟩ (.slice none 0 0)).setCell ⟨(w.heap.size + 1), 4, none⟩ (.slice none 0 0)) = U at *
    obtain ⟨oS, hbS⟩ := HS.out
    have c0 : U.cell? ⟨(w.heap.size + 1), 0, none⟩ = some (.int .i64 0) := oS.cell rfl
    have c1 : U.cell? ⟨(w.heap.size + 1), 1, none⟩ = some (.int .i64 0) := oS.cell rfl
    have c2 : U.cell? ⟨(w.heap.size + 1), 2, none⟩ = some (.string ⟨#[]⟩) := oS.cell rfl
    have c3 : U.cell? ⟨(w.heap.size + 1), 3, none⟩ = some (.slice none 0 0) := oS.cell rfl
    have c4 : U.cell? ⟨(w.heap.size + 1), 4, none⟩ = some (.slice none 0 0) := oS.cell rfl
    exact bodyPost_ret (v := .tuple #[.agg #[.int .i64 0, .int .i64 0, .string ⟨#[]⟩, .slice none 0 0, .slice none 0 0], .bool false]) (by simp [results, Try.results21, go_sem, c0, c1, c2, c3, c4]) rfl ⟨VC0, by rw [HE.out]; rfl, hbS, by rw [HE.out]; exact isA_zero _ _⟩
  have HK : Hid (getK ck nm f = look nm f) := Lib.hid (if_pos h5)
  have hne : (ck == 5) = true := by simpa using h5
  have R0 := Lib.hid (And.intro hw0 (And.intro oR oB))
  clear hw0 oB oR h5
  go_enter Try.func21, Try.ntmps21
  go_wp2
  clear b0 b4
  generalize ((w.alloc (.cells #[.int .i64 ck, .int .i64 cn, sV cst, .slice cla cln clc, .slice cfa f.length cfc] 25)).alloc (.cells #[.int .i64 0, .int .i64 0, .string ⟨#[]⟩, .slice none 0 0, .slice none 0 0] 25)) = W at *
  go_loopg [6] f.length (fun g i wr => ∃ q : Nat, q ≤ f.length ∧ g = f.length - q ∧ i = .int .i64 q ∧ Below W.heap.size W wr ∧ Hid (∀ (j : Nat) (r : Str × T), j < q → f[j]? = some r → ¬ r.1 = nm))
  case atStart => exact ⟨0, Nat.zero_le _, rfl, rfl, Below.refl _ _, Lib.hid (fun j r h => absurd h (by omega))⟩
  case round =>
    obtain ⟨q, hq, hg, rfl, hb, HM⟩ := hrel
    have HG := Lib.hid hg
    clear hg
    have hbw := below_all R0.out.1 hb
    have oR := R0.out.2.1.all hb
    have oBr := R0.out.2.2.all hb
    have b4 := oBr.cell (i := 4) rfl
    clear oBr
    by_cases hlt : q < f.length
    case neg =>
      obtain rfl : q = f.length := by omega
      have HE : Hid (getK ck nm f = none) := Lib.hid (by rw [HK.out]; exact look_miss HM.out)
      have hbE := hbw
      clear hbw hb
      have r0 := oR.cell (i := 0) rfl
      have g0 := oR.frozen 0
      have r1 := oR.cell (i := 1) rfl
      have g1 := oR.frozen 1
      have r2 := oR.cell (i := 2) rfl
      have g2 := oR.frozen 2
      have r3 := oR.cell (i := 3) rfl
      have g3 := oR.frozen 3
      have r4 := oR.cell (i := 4) rfl
      have g4 := oR.frozen 4
      have HS := Lib.hid (And.intro (((((oR.set 0 (.int .i64 0)).set 1 (.int .i64 0)).set 2 (.string ⟨#[]⟩)).set 3 (.slice none 0 0)).set 4 (.slice none 0 0)) (below_set (below_set (below_set (below_set (below_set hbE (by omega : w.heap.size ≤ (w.heap.size + 1)) (i := 0) (.int .i64 0)) (by omega : w.heap.size ≤ (w.heap.size + 1)) (i := 1) (.int .i64 0)) (by omega : w.heap.size ≤ (w.heap.size + 1)) (i := 2) (.string ⟨#[]⟩)) (by omega : w.heap.size ≤ (w.heap.size + 1)) (i := 3) (.slice none 0 0)) (by omega : w.heap.size ≤ (w.heap.size + 1)) (i := 4) (.slice none 0 0)))
      clear oR hbE
      go_wp2
      clear r0 r1 r2 r3 r4 g0 g1 g2 g3 g4
      change bodyPost Try.prog Try.f21 _ _ _ (((((wr.setCell ⟨(w.heap.size + 1), 0, none⟩ (.int .i64 0)).setCell ⟨(w.heap.size + 1), 1, none⟩ (.int .i64 0)).setCell ⟨(w.heap.size + 1), 2, none⟩ (.string ⟨#[]⟩)).setCell ⟨(w.heap.size + 1), 3, none⟩ (.slice none 0 0)).setCell ⟨(w.heap.size + 1), 4, none⟩ (.slice none 0 0))
      generalize (((((wr.setCell ⟨(w.heap.size + 1), 0, none⟩ (.int .i64 0)).setCell ⟨(w.heap.size + 1), 1, none⟩ (.int .i64 0)).setCell ⟨(w.heap.size + 1), 2, none⟩ (.string ⟨#[]⟩)).setCell ⟨(w.heap.size + 1), 3, none⟩ (.slice none 0 0)).setCell ⟨(w.heap.size + 1), 4, none⟩ (.slice none 0 0)) = U at *
      obtain ⟨oS, hbS⟩ := HS.out
      have c0 : U.cell? ⟨(w.heap.size + 1), 0, none⟩ = some (.int .i64 0) := oS.cell rfl
      have c1 : U.cell? ⟨(w.heap.size + 1), 1, none⟩ = some (.int .i64 0) := oS.cell rfl
      have c2 : U.cell? ⟨(w.heap.size + 1), 2, none⟩ = some (.string ⟨#[]⟩) := oS.cell rfl
      have c3 : U.cell? ⟨(w.heap.size + 1), 3, none⟩ = some (.slice none 0 0) := oS.cell rfl
      have c4 : U.cell? ⟨(w.heap.size + 1), 4, none⟩ = some (.slice none 0 0) := oS.cell rfl
      exact bodyPost_ret (v := .tuple #[.agg #[.int .i64 0, .int .i64 0, .string ⟨#[]⟩, .slice none 0 0, .slice none 0 0], .bool false]) (by simp [results, Try.results21, go_sem, c0, c1, c2, c3, c4]) rfl ⟨VC0, by rw [HE.out]; rfl, hbS, by rw [HE.out]; exact isA_zero _ _⟩
    have hx := List.getElem?_eq_getElem hlt
    generalize f[q] = p at hx
    obtain ⟨b, off, d, hao, hbl, hId, q5, q0, q1, q2, q3, q4⟩ := hf.at hbw hx
    subst hao
    have hII := hId
    have hbe := hbw
    have hpm := List.mem_of_getElem? hx
    have HX := Lib.hid (And.intro hx hpm)
    have hszw := hb.size
    clear hId hx hpm hbw
    by_cases hnm : p.1 = nm
    · have HF : Hid (getK ck nm f = some p.2) := Lib.hid (by rw [HK.out]; exact look_at HX.out.1 hnm HM.out)
      have hne2 : (p.1 == nm) = true := by simpa using hnm
      have C := Lib.hid (rcopyValue_any _ p.2 (Nat.le_refl _) (hs p HX.out.2) d _ hII)
      have HQ := Lib.hid (And.intro hbe oR)
      clear hbe oR hb hnm hII
      go_wp2_with fail
      refine C.out.mono ?_
      rintro e w2 ⟨c', rfl, hb2, hN⟩
      have oR := HQ.out.2.all hb2
      have hbE := below_all HQ.out.1 hb2
      have hN3 := hN.mono (A' := fun b => w.heap.size + 2 ≤ b) (fun b hb => by omega)
      clear C HQ hN hb2 q5 q0 q1 q2 q3 q4
      have r0 := oR.cell (i := 0) rfl
      have g0 := oR.frozen 0
      have r1 := oR.cell (i := 1) rfl
      have g1 := oR.frozen 1
      have r2 := oR.cell (i := 2) rfl
      have g2 := oR.frozen 2
      have r3 := oR.cell (i := 3) rfl
      have g3 := oR.frozen 3
      have r4 := oR.cell (i := 4) rfl
      have g4 := oR.frozen 4
      have HS := Lib.hid (And.intro (((((oR.set 0 (.int .i64 c'.k)).set 1 (.int .i64 c'.n)).set 2 (sV c'.s)).set 3 (.slice c'.la c'.ln c'.lc)).set 4 (.slice c'.fa c'.fn c'.fc)) (below_set (below_set (below_set (below_set (below_set hbE (by omega : w.heap.size ≤ (w.heap.size + 1)) (i := 0) (.int .i64 c'.k)) (by omega : w.heap.size ≤ (w.heap.size + 1)) (i := 1) (.int .i64 c'.n)) (by omega : w.heap.size ≤ (w.heap.size + 1)) (i := 2) (sV c'.s)) (by omega : w.heap.size ≤ (w.heap.size + 1)) (i := 3) (.slice c'.la c'.ln c'.lc)) (by omega : w.heap.size ≤ (w.heap.size + 1)) (i := 4) (.slice c'.fa c'.fn c'.fc)))
      have HN2 := Lib.hid (((((hN3.set (b := (w.heap.size + 1)) (by omega) 0 (.int .i64 c'.k)).set (b := (w.heap.size + 1)) (by omega) 1 (.int .i64 c'.n)).set (b := (w.heap.size + 1)) (by omega) 2 (sV c'.s)).set (b := (w.heap.size + 1)) (by omega) 3 (.slice c'.la c'.ln c'.lc)).set (b := (w.heap.size + 1)) (by omega) 4 (.slice c'.fa c'.fn c'.fc))
      clear oR hbE hN3
      go_wp2
      clear r0 r1 r2 r3 r4 g0 g1 g2 g3 g4
      change bodyPost Try.prog Try.f21 _ _ _ (((((w2.setCell ⟨(w.heap.size + 1), 0, none⟩ (.int .i64 c'.k)).setCell ⟨(w.heap.size + 1), 1, none⟩ (.int .i64 c'.n)).setCell ⟨(w.heap.size + 1), 2, none⟩ (sV c'.s)).setCell ⟨(w.heap.size + 1), 3, none⟩ (.slice c'.la c'.ln c'.lc)).setCell ⟨(w.heap.size + 1), 4, none⟩ (.slice c'.fa c'.fn c'.fc))
      have hN4 := HN2.out
      clear HN2
      generalize (((((w2.setCell ⟨(w.heap.size + 1), 0, none⟩ (.int .i64 c'.k)).setCell ⟨(w.heap.size + 1), 1, none⟩ (.int .i64 c'.n)).setCell ⟨(w.heap.size + 1), 2, none⟩ (sV c'.s)).setCell ⟨(w.heap.size + 1), 3, none⟩ (.slice c'.la c'.ln c'.lc)).setCell ⟨(w.heap.size + 1), 4, none⟩ (.slice c'.fa c'.fn c'.fc)) = U at *
      obtain ⟨oS, hbS⟩ := HS.out
      have c0 : U.cell? ⟨(w.heap.size + 1), 0, none⟩ = some (.int .i64 c'.k) := oS.cell rfl
      have c1 : U.cell? ⟨(w.heap.size + 1), 1, none⟩ = some (.int .i64 c'.n) := oS.cell rfl
      have c2 : U.cell? ⟨(w.heap.size + 1), 2, none⟩ = some (sV c'.s) := oS.cell rfl
      have c3 : U.cell? ⟨(w.heap.size + 1), 3, none⟩ = some (.slice c'.la c'.ln c'.lc) := oS.cell rfl
      have c4 : U.cell? ⟨(w.heap.size + 1), 4, none⟩ = some (.slice c'.fa c'.fn c'.fc) := oS.cell rfl
      exact bodyPost_ret (v := .tuple #[.agg #[.int .i64 c'.k, .int .i64 c'.n, sV c'.s, .slice c'.la c'.ln c'.lc, .slice c'.fa c'.fn c'.fc], .bool true]) (by simp [results, Try.results21, go_sem, c0, c1, c2, c3, c4]) rfl ⟨c', by rw [HF.out]; rfl, hbS, by rw [HF.out]; exact hN4.mono (fun b hb => by omega)⟩
    · have hne2 : (p.1 == nm) = false := by simpa using hnm
      have HQ := Lib.hid hb
      have HNM := Lib.hid hnm
      clear hbe oR hb hnm hII
      go_wp2
      go_roundg (f.length - (q + 1))
      case measure => have := HG.out; omega
      case rel =>
        refine ⟨q + 1, by omega, rfl, by go_num, HQ.out, Lib.hid (fun j r hj hr => ?_)⟩
        by_cases e : j = q
        · subst e; rw [HX.out.1] at hr; cases hr; exact HNM.out
        · exact HM.out j r (by omega) hr
end Go.Proofs.Ytinenbgdkchghaa
namespace Go.Proofs.Ytinenbgdkchghaa
open Go.RowKit Go.Sort Go.Proofs.LawFrame

set_option maxHeartbeats 8000000 in
set_option maxRecDepth 4000 in
theorem rwithout_any (c : VC) (k n : Int) (s : Str) (l : List T) (f : List (Str × T)) (nm : Str) (w : World) (hI : Is w c (.mk k n s l f)) (hsz : (T.mk k n s l f).size ≤ 3900) :
    Calls Try.prog 29 #[c.val, sV nm] w fun e w' => ∃ (c' : VC) (t' : T), e = .returned c'.val ∧ Below w.heap.size w w' ∧ IsA w' (fun b => w.heap.size ≤ b) c' t' ∧ Wout k nm f (.mk k n s l f) t' := by
  obtain ⟨hk, -, -⟩ := hI.same
  have hf := hI.flds
  have hsf : ∀ p ∈ f, p.2.size ≤ 4000 := fun p hp => Int.le_trans (size_in_f (k := k) (n := n) (s := s) (l := l) hp) (by omega)
  have hfl := (size_lens (M := 3900) hsz).2
  obtain ⟨ck, cn, cst, cla, cln, clc, cfa, cfn, cfc⟩ := c
  obtain ⟨hfn, hfc, hfm⟩ := hf.slice
  simp only at hfn hfc hfm hk hf
  subst hfn
  unfold maxLen at hfm
  show Calls Try.prog 29 #[.agg #[.int .i64 ck, .int .i64 cn, sV cst, .slice cla cln clc, .slice cfa f.length cfc], sV nm] w _
  have hw0 : Below w.heap.size w ((w.alloc (.cells #[.int .i64 ck, .int .i64 cn, sV cst, .slice cla cln clc, .slice cfa f.length cfc] 25)).alloc (.cells #[.int .i64 0, .int .i64 0, .string ⟨#[]⟩, .slice none 0 0, .slice none 0 0] 25)) := ((Below.refl _ _).alloc (Nat.le_refl _) _).alloc (by simp) _
  have oB : Own ((w.alloc (.cells #[.int .i64 ck, .int .i64 cn, sV cst, .slice cla cln clc, .slice cfa f.length cfc] 25)).alloc (.cells #[.int .i64 0, .int .i64 0, .string ⟨#[]⟩, .slice none 0 0, .slice none 0 0] 25)) w.heap.size [.int .i64 ck, .int .i64 cn, sV cst, .slice cla cln clc, .slice cfa f.length cfc] 25 := (Own.new _ _ _).alloc _
  have oR : Own ((w.alloc (.cells #[.int .i64 ck, .int .i64 cn, sV cst, .slice cla cln clc, .slice cfa f.length cfc] 25)).alloc (.cells #[.int .i64 0, .int .i64 0, .string ⟨#[]⟩, .slice none 0 0, .slice none 0 0] 25)) (w.heap.size + 1) [.int .i64 0, .int .i64 0, .string ⟨#[]⟩, .slice none 0 0, .slice none 0 0] 25 := Own.new_at (by rw [size_alloc]) _ _
  have hs0 : ((w.alloc (.cells #[.int .i64 ck, .int .i64 cn, sV cst, .slice cla cln clc, .slice cfa f.length cfc] 25)).alloc (.cells #[.int .i64 0, .int .i64 0, .string ⟨#[]⟩, .slice none 0 0, .slice none 0 0] 25)).heap.size = w.heap.size + 2 := by rw [size_alloc, size_alloc]
  have hI0 := hI.all hw0
  have b0 := oB.cell (i := 0) rfl
  have b1 := oB.cell (i := 1) rfl
  have b2 := oB.cell (i := 2) rfl
  have b3 := oB.cell (i := 3) rfl
  have b4 := oB.cell (i := 4) rfl
  have HW := Lib.hid (And.intro hw0 oR)
  by_cases h5 : ck = 5
  case neg =>
    have HK5 : Hid (¬ k = 5) := Lib.hid (by rw [← hk]; exact h5)
    have hne : (ck != 5) = true := by simpa using h5
    have C := Lib.hid (rcopyValue_any _ _ (Nat.le_refl _) (by omega) _ _ hI0)
    clear hw0 oR oB h5 hf hI0 hI hk hsf
    go_enter Try.func29, Try.ntmps29
    go_wp2_with fail
    clear b0 b1 b2 b3 b4
    generalize ((w.alloc (.cells #[.int .i64 ck, .int .i64 cn, sV cst, .slice cla cln clc, .slice cfa f.length cfc] 25)).alloc (.cells #[.int .i64 0, .int .i64 0, .string ⟨#[]⟩, .slice none 0 0, .slice none 0 0] 25)) = W at *
    refine C.out.mono ?_
    rintro e w2 ⟨c', rfl, hb2, hN⟩
    have oR := HW.out.2.all hb2
    have hbE := below_all HW.out.1 hb2
    have hN3 := hN.mono (A' := fun b => w.heap.size + 2 ≤ b) (fun b hb => by omega)
    clear C HW hN hb2
    have r0 := oR.cell (i := 0) rfl
    have g0 := oR.frozen 0
    have r1 := oR.cell (i := 1) rfl
    have g1 := oR.frozen 1
    have r2 := oR.cell (i := 2) rfl
    have g2 := oR.frozen 2
    have r3 := oR.cell (i := 3) rfl
    have g3 := oR.frozen 3
    have r4 := oR.cell (i := 4) rfl
    have g4 := oR.frozen 4
    have HS := Lib.hid (And.intro (((((oR.set 0 (.int .i64 c'.k)).set 1 (.int .i64 c'.n)).set 2 (sV c'.s)).set 3 (.slice c'.la c'.ln c'.lc)).set 4 (.slice c'.fa c'.fn c'.fc)) (below_set (below_set (below_set (below_set (below_set hbE (by omega : w.heap.size ≤ (w.heap.size + 1)) (i := 0) (.int .i64 c'.k)) (by omega : w.heap.size ≤ (w.heap.size + 1)) (i := 1) (.int .i64 c'.n)) (by omega : w.heap.size ≤ (w.heap.size + 1)) (i := 2) (sV c'.s)) (by omega : w.heap.size ≤ (w.heap.size + 1)) (i := 3) (.slice c'.la c'.ln c'.lc)) (by omega : w.heap.size ≤ (w.heap.size + 1)) (i := 4) (.slice c'.fa c'.fn c'.fc)))
    have HN2 := Lib.hid (((((hN3.set (b := (w.heap.size + 1)) (by omega) 0 (.int .i64 c'.k)).set (b := (w.heap.size + 1)) (by omega) 1 (.int .i64 c'.n)).set (b := (w.heap.size + 1)) (by omega) 2 (sV c'.s)).set (b := (w.heap.size + 1)) (by omega) 3 (.slice c'.la c'.ln c'.lc)).set (b := (w.heap.size + 1)) (by omega) 4 (.slice c'.fa c'.fn c'.fc))
    clear oR hbE hN3
    go_wp2
    clear r0 r1 r2 r3 r4 g0 g1 g2 g3 g4
    change bodyPost Try.prog Try.f29 _ _ _ (((((w2.setCell ⟨(w.heap.size + 1), 0, none⟩ (.int .i64 c'.k)).setCell ⟨(w.heap.size + 1), 1, none⟩ (.int .i64 c'.n)).setCell ⟨(w.heap.size + 1), 2, none⟩ (sV c'.s)).setCell ⟨(w.heap.size + 1), 3, none⟩ (.slice c'.la c'.ln c'.lc)).setCell ⟨(w.heap.size + 1), 4, none⟩ (.slice c'.fa c'.fn c'.fc))
    have hN4 := HN2.out
    clear HN2
    generalize (((((w2.setCell ⟨(w.heap.size + 1), 0, none⟩ (.int .i64 c'.k)).setCell ⟨(w.heap.size + 1), 1, none⟩ (.int .i64 c'.n)).setCell ⟨(w.heap.size + 1), 2, none⟩ (sV c'.s)).setCell ⟨(w.heap.size + 1), 3, none⟩ (.slice c'.la c'.ln c'.lc)).setCell ⟨(w.heap.size + 1), 4, none⟩ (.slice c'.fa c'.fn c'.fc)) = U at *
    obtain ⟨oS, hbS⟩ := HS.out
    have c0 : U.cell? ⟨(w.heap.size + 1), 0, none⟩ = some (.int .i64 c'.k) := oS.cell rfl
    have c1 : U.cell? ⟨(w.heap.size + 1), 1, none⟩ = some (.int .i64 c'.n) := oS.cell rfl
    have c2 : U.cell? ⟨(w.heap.size + 1), 2, none⟩ = some (sV c'.s) := oS.cell rfl
    have c3 : U.cell? ⟨(w.heap.size + 1), 3, none⟩ = some (.slice c'.la c'.ln c'.lc) := oS.cell rfl
    have c4 : U.cell? ⟨(w.heap.size + 1), 4, none⟩ = some (.slice c'.fa c'.fn c'.fc) := oS.cell rfl
    exact bodyPost_ret (v := .agg #[.int .i64 c'.k, .int .i64 c'.n, sV c'.s, .slice c'.la c'.ln c'.lc, .slice c'.fa c'.fn c'.fc]) (by simp [results, Try.results29, go_sem, c0, c1, c2, c3, c4]) rfl ⟨c', _, rfl, hbS, hN4.mono (fun b hb => by omega), ⟨fun e => absurd e HK5.out, fun _ => rfl⟩⟩
  have HK5 : Hid (k = 5) := Lib.hid (by rw [← hk]; exact h5)
  have HOK : Hid (othK k nm f = oth nm f) := Lib.hid (if_pos HK5.out)
  have hne : (ck != 5) = false := by simpa using h5
  have C := Lib.hid (rothers_any _ k n s l f nm w _ hI hw0 (by omega))
  clear hw0 oR oB h5 hf hI0 hI hk
  go_enter Try.func29, Try.ntmps29
  go_wp2_with fail
  clear b0 b1 b2 b3 b4
  generalize ((w.alloc (.cells #[.int .i64 ck, .int .i64 cn, sV cst, .slice cla cln clc, .slice cfa f.length cfc] 25)).alloc (.cells #[.int .i64 0, .int .i64 0, .string ⟨#[]⟩, .slice none 0 0, .slice none 0 0] 25)) = W at *
  refine C.out.mono ?_
  rintro e w2 ⟨kv, rfl, hb2, hRow⟩
  have hbw2 := below_all HW.out.1 hb2
  have hFl := hRow.flds hbw2
  rw [HOK.out] at hFl
  have hol := oth_len nm f
  have C2 := Lib.hid (rmap_any kv (oth nm f) w2 hFl (by omega) (fun p hp => hsf p (oth_mem hp)))
  have oR2 := HW.out.2.all hb2
  obtain ⟨xa, xn, xc, rfl⟩ := hRow.slice
  have HQ := Lib.hid (And.intro hbw2 oR2)
  have hsz2 := hb2.size
  clear C HW hRow hFl hb2 hbw2 oR2
  go_wp2_with fail
  refine C2.out.mono ?_
  rintro e w4 ⟨c', M, rfl, hb4, hN, hMO⟩
  have oR := HQ.out.2.all hb4
  have hbE := below_all HQ.out.1 hb4
  have hN3 := hN.mono (A' := fun b => w.heap.size + 2 ≤ b) (fun b hb => by omega)
  have HMO := Lib.hid hMO
  clear C2 HQ hN hb4 hMO
  have r0 := oR.cell (i := 0) rfl
  have g0 := oR.frozen 0
  have r1 := oR.cell (i := 1) rfl
  have g1 := oR.frozen 1
  have r2 := oR.cell (i := 2) rfl
  have g2 := oR.frozen 2
  have r3 := oR.cell (i := 3) rfl
  have g3 := oR.frozen 3
  have r4 := oR.cell (i := 4) rfl
  have g4 := oR.frozen 4
  have HS := Lib.hid (And.intro (((((oR.set 0 (.int .i64 c'.k)).set 1 (.int .i64 c'.n)).set 2 (sV c'.s)).set 3 (.slice c'.la c'.ln c'.lc)).set 4 (.slice c'.fa c'.fn c'.fc)) (below_set (below_set (below_set (below_set (below_set hbE (by omega : w.heap.size ≤ (w.heap.size + 1)) (i := 0) (.int .i64 c'.k)) (by omega : w.heap.size ≤ (w.heap.size + 1)) (i := 1) (.int .i64 c'.n)) (by omega : w.heap.size ≤ (w.heap.size + 1)) (i := 2) (sV c'.s)) (by omega : w.heap.size ≤ (w.heap.size + 1)) (i := 3) (.slice c'.la c'.ln c'.lc)) (by omega : w.heap.size ≤ (w.heap.size + 1)) (i := 4) (.slice c'.fa c'.fn c'.fc)))
  have HN2 := Lib.hid (((((hN3.set (b := (w.heap.size + 1)) (by omega) 0 (.int .i64 c'.k)).set (b := (w.heap.size + 1)) (by omega) 1 (.int .i64 c'.n)).set (b := (w.heap.size + 1)) (by omega) 2 (sV c'.s)).set (b := (w.heap.size + 1)) (by omega) 3 (.slice c'.la c'.ln c'.lc)).set (b := (w.heap.size + 1)) (by omega) 4 (.slice c'.fa c'.fn c'.fc))
  clear oR hbE hN3
  go_wp2
  clear r0 r1 r2 r3 r4 g0 g1 g2 g3 g4
  change bodyPost Try.prog Try.f29 _ _ _ (((((w4.setCell ⟨(w.heap.size + 1), 0, none⟩ (.int .i64 c'.k)).setCell ⟨(w.heap.size + 1), 1, none⟩ (.int .i64 c'.n)).setCell ⟨(w.heap.size + 1), 2, none⟩ (sV c'.s)).setCell ⟨(w.heap.size + 1), 3, none⟩ (.slice c'.la c'.ln c'.lc)).setCell ⟨(w.heap.size + 1), 4, none⟩ (.slice c'.fa c'.fn c'.fc))
  have hN4 := HN2.out
  clear HN2
  generalize (((((w4.setCell ⟨(w.heap.size + 1), 0, none⟩ (.int .i64 c'.k)).setCell ⟨(w.heap.size + 1), 1, none⟩ (.int .i64 c'.n)).setCell ⟨(w.heap.size + 1), 2, none⟩ (sV c'.s)).setCell ⟨(w.heap.size + 1), 3, none⟩ (.slice c'.la c'.ln c'.lc)).setCell ⟨(w.heap.size + 1), 4, none⟩ (.slice c'.fa c'.fn c'.fc)) = U at *
  obtain ⟨oS, hbS⟩ := HS.out
  have c0 : U.cell? ⟨(w.heap.size + 1), 0, none⟩ = some (.int .i64 c'.k) := oS.cell rfl
  have c1 : U.cell? ⟨(w.heap.size + 1), 1, none⟩ = some (.int .i64 c'.n) := oS.cell rfl
  have c2 : U.cell? ⟨(w.heap.size + 1), 2, none⟩ = some (sV c'.s) := oS.cell rfl
  have c3 : U.cell? ⟨(w.heap.size + 1), 3, none⟩ = some (.slice c'.la c'.ln c'.lc) := oS.cell rfl
  have c4 : U.cell? ⟨(w.heap.size + 1), 4, none⟩ = some (.slice c'.fa c'.fn c'.fc) := oS.cell rfl
  exact bodyPost_ret (v := .agg #[.int .i64 c'.k, .int .i64 c'.n, sV c'.s, .slice c'.la c'.ln c'.lc, .slice c'.fa c'.fn c'.fc]) (by simp [results, Try.results29, go_sem, c0, c1, c2, c3, c4]) rfl ⟨c', _, rfl, hbS, hN4.mono (fun b hb => by omega), ⟨fun _ => ⟨M, rfl, HMO.out⟩, fun e => absurd HK5.out e⟩⟩

set_option maxHeartbeats 8000000 in
set_option maxRecDepth 4000 in
theorem rwith_any (c cx : VC) (k n : Int) (s : Str) (l : List T) (f : List (Str × T)) (nm : Str) (x : T) (w : World) (hI : Is w c (.mk k n s l f)) (hX : Is w cx x) (hsz : (T.mk k n s l f).size ≤ 3800) (hsx : x.size ≤ 4000) :
    Calls Try.prog 30 #[c.val, sV nm, cx.val] w fun e w' => ∃ (c' : VC) (M : List (Str × T)), e = .returned c'.val ∧ Below w.heap.size w w' ∧ IsA w' (fun b => w.heap.size ≤ b) c' (.mk 5 0 [] [] M) ∧ MapOf (othK k nm f ++ [(nm, x)]) M := by
  have hf := hI.flds
  have hsf : ∀ p ∈ f, p.2.size ≤ 4000 := fun p hp => Int.le_trans (size_in_f (k := k) (n := n) (s := s) (l := l) hp) (by omega)
  have hfl := (size_lens (M := 3800) hsz).2
  obtain ⟨i35, hi35, hzi35, hsi35, hyi35⟩ := info_parts info35
  obtain ⟨ck, cn, cst, cla, cln, clc, cfa, cfn, cfc⟩ := c
  obtain ⟨xk, xn, xs, xla, xln, xlc, xfa, xfn, xfc⟩ := cx
  obtain ⟨hfn, hfc, hfm⟩ := hf.slice
  simp only at hfn hfc hfm hf
  subst hfn
  unfold maxLen at hfm
  show Calls Try.prog 30 #[.agg #[.int .i64 ck, .int .i64 cn, sV cst, .slice cla cln clc, .slice cfa f.length cfc], sV nm, .agg #[.int .i64 xk, .int .i64 xn, sV xs, .slice xla xln xlc, .slice xfa xfn xfc]] w _
  have hw0 : Below w.heap.size w (((w.alloc (.cells #[.int .i64 ck, .int .i64 cn, sV cst, .slice cla cln clc, .slice cfa f.length cfc] 25)).alloc (.cells #[.int .i64 xk, .int .i64 xn, sV xs, .slice xla xln xlc, .slice xfa xfn xfc] 25)).alloc (.cells #[.int .i64 0, .int .i64 0, .string ⟨#[]⟩, .slice none 0 0, .slice none 0 0] 25)) := (((Below.refl _ _).alloc (Nat.le_refl _) _).alloc (by simp) _).alloc (by simp; omega) _
  have oB : Own (((w.alloc (.cells #[.int .i64 ck, .int .i64 cn, sV cst, .slice cla cln clc, .slice cfa f.length cfc] 25)).alloc (.cells #[.int .i64 xk, .int .i64 xn, sV xs, .slice xla xln xlc, .slice xfa xfn xfc] 25)).alloc (.cells #[.int .i64 0, .int .i64 0, .string ⟨#[]⟩, .slice none 0 0, .slice none 0 0] 25)) w.heap.size [.int .i64 ck, .int .i64 cn, sV cst, .slice cla cln clc, .slice cfa f.length cfc] 25 := ((Own.new _ _ _).alloc _).alloc _
  have oX : Own (((w.alloc (.cells #[.int .i64 ck, .int .i64 cn, sV cst, .slice cla cln clc, .slice cfa f.length cfc] 25)).alloc (.cells #[.int .i64 xk, .int .i64 xn, sV xs, .slice xla xln xlc, .slice xfa xfn xfc] 25)).alloc (.cells #[.int .i64 0, .int .i64 0, .string ⟨#[]⟩, .slice none 0 0, .slice none 0 0] 25)) (w.heap.size + 1) [.int .i64 xk, .int .i64 xn, sV xs, .slice xla xln xlc, .slice xfa xfn xfc] 25 := (Own.new_at (by rw [size_alloc]) _ _).alloc _
  have oR : Own (((w.alloc (.cells #[.int .i64 ck, .int .i64 cn, sV cst, .slice cla cln clc, .slice cfa f.length cfc] 25)).alloc (.cells #[.int .i64 xk, .int .i64 xn, sV xs, .slice xla xln xlc, .slice xfa xfn xfc] 25)).alloc (.cells #[.int .i64 0, .int .i64 0, .string ⟨#[]⟩, .slice none 0 0, .slice none 0 0] 25)) (w.heap.size + 1 + 1) [.int .i64 0, .int .i64 0, .string ⟨#[]⟩, .slice none 0 0, .slice none 0 0] 25 := Own.new_at (by rw [size_alloc, size_alloc]) _ _
  have hs0 : (((w.alloc (.cells #[.int .i64 ck, .int .i64 cn, sV cst, .slice cla cln clc, .slice cfa f.length cfc] 25)).alloc (.cells #[.int .i64 xk, .int .i64 xn, sV xs, .slice xla xln xlc, .slice xfa xfn xfc] 25)).alloc (.cells #[.int .i64 0, .int .i64 0, .string ⟨#[]⟩, .slice none 0 0, .slice none 0 0] 25)).heap.size = w.heap.size + 3 := by rw [size_alloc, size_alloc, size_alloc]
  have HIX := Lib.hid (And.intro hI hX)
  have hkl : (othK k nm f).length ≤ 3800 := by
    unfold othK; split
    · have := oth_len nm f; omega
    · simp
  have hkm : ∀ p ∈ othK k nm f, p.2.size ≤ 4000 := fun p hp => by
    unfold othK at hp; split at hp
    · exact hsf p (oth_mem hp)
    · cases hp
  clear hI hX hf hsf
  have C := Lib.hid (rothers_any ⟨ck, cn, cst, cla, cln, clc, cfa, f.length, cfc⟩ k n s l f nm w _ HIX.out.1 hw0 (by omega))
  have b0 := oB.cell (i := 0) rfl
  have b1 := oB.cell (i := 1) rfl
  have b2 := oB.cell (i := 2) rfl
  have b3 := oB.cell (i := 3) rfl
  have b4 := oB.cell (i := 4) rfl
  have HO := Lib.hid (And.intro hw0 (And.intro oX oR))
  clear hw0 oB oX oR
  go_enter Try.func30, Try.ntmps30
  go_wp2_with fail
  clear b0 b1 b2 b3 b4
  generalize (((w.alloc (.cells #[.int .i64 ck, .int .i64 cn, sV cst, .slice cla cln clc, .slice cfa f.length cfc] 25)).alloc (.cells #[.int .i64 xk, .int .i64 xn, sV xs, .slice xla xln xlc, .slice xfa xfn xfc] 25)).alloc (.cells #[.int .i64 0, .int .i64 0, .string ⟨#[]⟩, .slice none 0 0, .slice none 0 0] 25)) = W at *
  refine C.out.mono ?_
  rintro e U ⟨kv, rfl, hbU, hRow⟩
  obtain ⟨ka, kn, kc, rfl⟩ := hRow.slice
  obtain ⟨cs, hPW, hrow⟩ := hRow.out
  have hUs := hbU.size
  have hcl := hPW.len
  have hrl := own_row hrow
  have oRU := HO.out.2.2.all hbU
  have oXU := HO.out.2.1.all hbU
  have hbwU := below_all HO.out.1 hbU
  have HPW := Lib.hid hPW
  clear hPW C hRow HO hbU
  have x0 := oXU.cell (i := 0) rfl
  have x1 := oXU.cell (i := 1) rfl
  have x2 := oXU.cell (i := 2) rfl
  have x3 := oXU.cell (i := 3) rfl
  have x4 := oXU.cell (i := 4) rfl
  clear oXU
  go_wp2_with (first | (at_builtin; refine wpList_append_own _ rfl (.tmp 11) (.tmp 15) 23 rfl W.heap.size 33 i35 (.agg #[.string ⟨#[]⟩, .int .i64 0, .int .i64 0, .string ⟨#[]⟩, .slice none 0 0, .slice none 0 0]) 6 96 Try.underlying23 hi35 hzi35 hsi35 hyi35 rfl (by decide) _ _ _ rfl (hrow.alloc _) ⟨U.heap.size, 0, none⟩ 1 1 (FC.cells ⟨nm, ⟨xk, xn, xs, xla, xln, xlc, xfa, xfn, xfc⟩⟩) rfl rfl (cell_six_new _ ⟨nm, ⟨xk, xn, xs, xla, xln, xlc, xfa, xfn, xfc⟩⟩ _) (six_one ⟨nm, ⟨xk, xn, xs, xla, xln, xlc, xfa, xfn, xfc⟩⟩) (by unfold maxLen; omega) (by omega) (by simp; omega) ?_; intro v' w5 hown5 hgrow5 hnil5) | fail)
  clear x0 x1 x2 x3 x4
  have hb5 : Below w.heap.size w w5 := below_grown (below_all hbwU (below_alloc U _)) hgrow5 (by rw [size_alloc]; omega) (fun k h => by have := hrl k h; omega)
  have hFl : Flds w5 v' (othK k nm f ++ [(nm, x)]) := by
    have hP5 := (HPW.out.snoc (c := ⟨nm, ⟨xk, xn, xs, xla, xln, xlc, xfa, xfn, xfc⟩⟩) (t := (nm, x)) ⟨rfl, HIX.out.2⟩).under hb5
    have hF := Flat.of_own hown5
    refine ⟨cs ++ [⟨nm, ⟨xk, xn, xs, xla, xln, xlc, xfa, xfn, xfc⟩⟩], hP5.len, ?_, fun i y p hy hp => (hP5.all i y p hy hp).1, fun i y p hy hp => (hP5.all i y p hy hp).2⟩
    rw [flatMap_snoc, List.length_append, ← hcl]
    exact hF
  have C2 := Lib.hid (rmap_any v' _ w5 hFl (by rw [List.length_append]; simp; omega) (fun p hp => by
    rcases List.mem_append.1 hp with hp | hp
    · exact hkm p hp
    · simp at hp; subst hp; exact hsx))
  have oR5 := own_kept' (oRU.alloc _) hgrow5 (fun e => by have := hrl _ e; omega)
  obtain ⟨va, vn, vc, rfl⟩ : ∃ a n c, v' = .slice a n c := by
    rcases hown5.2 with ⟨h, -⟩ | ⟨g, cap, cur, h, -⟩
    · exact ⟨_, _, _, h⟩
    · exact ⟨_, _, _, h⟩
  have hsz5 := hgrow5.size
  rw [size_alloc] at hsz5
  have HQ := Lib.hid (And.intro hb5 oR5)
  clear hb5 hFl oR5 hown5 hgrow5 hnil5 hrow oRU hbwU hrl
  go_wp2_with fail
  refine C2.out.mono ?_
  rintro e w4 ⟨c', M, rfl, hb4, hN, hMO⟩
  have oR := HQ.out.2.all hb4
  have hbE := below_all HQ.out.1 hb4
  have hN3 := hN.mono (A' := fun b => w.heap.size + 3 ≤ b) (fun b hb => by omega)
  have HMO := Lib.hid hMO
  clear C2 HQ hN hb4 hMO
  have r0 := oR.cell (i := 0) rfl
  have g0 := oR.frozen 0
  have r1 := oR.cell (i := 1) rfl
  have g1 := oR.frozen 1
  have r2 := oR.cell (i := 2) rfl
  have g2 := oR.frozen 2
  have r3 := oR.cell (i := 3) rfl
  have g3 := oR.frozen 3
  have r4 := oR.cell (i := 4) rfl
  have g4 := oR.frozen 4
  have HS := Lib.hid (And.intro (((((oR.set 0 (.int .i64 c'.k)).set 1 (.int .i64 c'.n)).set 2 (sV c'.s)).set 3 (.slice c'.la c'.ln c'.lc)).set 4 (.slice c'.fa c'.fn c'.fc)) (below_set (below_set (below_set (below_set (below_set hbE (by omega : w.heap.size ≤ (w.heap.size + 1 + 1)) (i := 0) (.int .i64 c'.k)) (by omega : w.heap.size ≤ (w.heap.size + 1 + 1)) (i := 1) (.int .i64 c'.n)) (by omega : w.heap.size ≤ (w.heap.size + 1 + 1)) (i := 2) (sV c'.s)) (by omega : w.heap.size ≤ (w.heap.size + 1 + 1)) (i := 3) (.slice c'.la c'.ln c'.lc)) (by omega : w.heap.size ≤ (w.heap.size + 1 + 1)) (i := 4) (.slice c'.fa c'.fn c'.fc)))
  have HN2 := Lib.hid (((((hN3.set (b := (w.heap.size + 1 + 1)) (by omega) 0 (.int .i64 c'.k)).set (b := (w.heap.size + 1 + 1)) (by omega) 1 (.int .i64 c'.n)).set (b := (w.heap.size + 1 + 1)) (by omega) 2 (sV c'.s)).set (b := (w.heap.size + 1 + 1)) (by omega) 3 (.slice c'.la c'.ln c'.lc)).set (b := (w.heap.size + 1 + 1)) (by omega) 4 (.slice c'.fa c'.fn c'.fc))
  clear oR hbE hN3
  go_wp2
  clear r0 r1 r2 r3 r4 g0 g1 g2 g3 g4
  change bodyPost Try.prog Try.f30 _ _ _ (((((w4.setCell ⟨(w.heap.size + 1 + 1), 0, none⟩ (.int .i64 c'.k)).setCell ⟨(w.heap.size + 1 + 1), 1, none⟩ (.int .i64 c'.n)).setCell ⟨(w.heap.size + 1 + 1), 2, none⟩ (sV c'.s)).setCell ⟨(w.heap.size + 1 + 1), 3, none⟩ (.slice c'.la c'.ln c'.lc)).setCell ⟨(w.heap.size + 1 + 1), 4, none⟩ (.slice c'.fa c'.fn c'.fc))
  have hN4 := HN2.out
  clear HN2
  generalize (((((w4.setCell ⟨(w.heap.size + 1 + 1), 0, none⟩ (.int .i64 c'.k)).setCell ⟨(w.heap.size + 1 + 1), 1, none⟩ (.int .i64 c'.n)).setCell ⟨(w.heap.size + 1 + 1), 2, none⟩ (sV c'.s)).setCell ⟨(w.heap.size + 1 + 1), 3, none⟩ (.slice c'.la c'.ln c'.lc)).setCell ⟨(w.heap.size + 1 + 1), 4, none⟩ (.slice c'.fa c'.fn c'.fc)) = U at *
  obtain ⟨oS, hbS⟩ := HS.out
  have c0 : U.cell? ⟨(w.heap.size + 1 + 1), 0, none⟩ = some (.int .i64 c'.k) := oS.cell rfl
  have c1 : U.cell? ⟨(w.heap.size + 1 + 1), 1, none⟩ = some (.int .i64 c'.n) := oS.cell rfl
  have c2 : U.cell? ⟨(w.heap.size + 1 + 1), 2, none⟩ = some (sV c'.s) := oS.cell rfl
  have c3 : U.cell? ⟨(w.heap.size + 1 + 1), 3, none⟩ = some (.slice c'.la c'.ln c'.lc) := oS.cell rfl
  have c4 : U.cell? ⟨(w.heap.size + 1 + 1), 4, none⟩ = some (.slice c'.fa c'.fn c'.fc) := oS.cell rfl
  exact bodyPost_ret (v := .agg #[.int .i64 c'.k, .int .i64 c'.n, sV c'.s, .slice c'.la c'.ln c'.lc, .slice c'.fa c'.fn c'.fc]) (by simp [results, Try.results30, go_sem, c0, c1, c2, c3, c4]) rfl ⟨c', M, rfl, hbS, hN4.mono (fun b hb => by omega), HMO.out⟩
end Go.Proofs.Ytinenbgdkchghaa
