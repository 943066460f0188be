/- The reference's Clean. -/
import Derived.Test.YtinenbgdkchghaaHc
set_option linter.unusedSimpArgs false
set_option linter.unusedVariables false
namespace Go.Proofs.Ytinenbgdkchghaa
open Go.RowKit Go.Sort Go.Proofs.LawFrame

set_option maxHeartbeats 8000000 in
set_option maxRecDepth 4000 in
theorem clean_any : ∀ (N : Nat) (t : T), SizeOf.sizeOf t ≤ N → ∀ (c : VC) (w : World), Is w c t →
    Calls Try.prog 20 #[c.val] w fun e w' => e = .returned (.bool (clnT t)) ∧ Below w.heap.size w w' := by
  intro N
  induction N with
  | zero => intro t h; cases t; simp at h
  | succ N ih =>
    intro t hN c w hI
    obtain ⟨ck, cn, cs, cla, cln, clc, cfa, cfn, cfc⟩ := c
    have IH := Lib.hid ih
    have HN := Lib.hid hN
    have HDK : Hid (ck = kd t) := Lib.hid (is_kd hI)
    have hbA := below_alloc w (.cells #[.int .i64 ck, .int .i64 cn, sV cs, .slice cla cln clc, .slice cfa cfn cfc] 25)
    have HO := Lib.hid (show Below w.heap.size w (w.alloc (.cells #[.int .i64 ck, .int .i64 cn, sV cs, .slice cla cln clc, .slice cfa cfn cfc] 25)) ∧ Own (w.alloc (.cells #[.int .i64 ck, .int .i64 cn, sV cs, .slice cla cln clc, .slice cfa cfn cfc] 25)) w.heap.size [.int .i64 ck, .int .i64 cn, sV cs, .slice cla cln clc, .slice cfa cfn cfc] 25 from ⟨hbA, Own.new _ _ _⟩)
    have HI := Lib.hid hI
    clear ih hN hbA hI
    show Calls Try.prog 20 #[.agg #[.int .i64 ck, .int .i64 cn, sV cs, .slice cla cln clc, .slice cfa cfn cfc]] w _
    go_enter Try.func20, Try.ntmps20
    go_upto_region 1 with (fail)
    change Code.wp Try.prog _ _ _ (w.alloc (.cells #[.int .i64 ck, .int .i64 cn, sV cs, .slice cla cln clc, .slice cfa cfn cfc] 25))
    generalize w.alloc (.cells #[.int .i64 ck, .int .i64 cn, sV cs, .slice cla cln clc, .slice cfa cfn cfc] 25) = V at *
    have x0 := HO.out.2.cell (i := 0) rfl
    by_cases h5 : kd t = 5
    case neg =>
      have e5 : (ck != 5) = true := by rw [bne_iff_ne, HDK.out]; exact h5
      have HF : Hid (clnT t = true) := Lib.hid (clnT_leaf h5)
      clear h5
      go_wp2
      go_ret
      exact ⟨by rw [HF.out]; rfl, HO.out.1⟩
    have e5 : ck = 5 := by rw [HDK.out]; exact h5
    subst e5
    have HF : Hid (clnT t = clnF (fls t)) := Lib.hid (clnT_map h5)
    have hf : Flds w (.slice cfa cfn cfc) (fls t) := by have h := fvl_flds HI.out; unfold fvl at h; rw [if_pos rfl] at h; exact h
    obtain ⟨hfn, hfc, hfm⟩ := hf.slice
    unfold maxLen at hfm
    have HL := Lib.hid hf
    have HFN := Lib.hid hfn
    clear h5 hf hfn
    obtain ⟨f, hfl⟩ : ∃ f, fls t = f := ⟨_, rfl⟩
    have HKL := Lib.hid (show ∀ p ∈ f, SizeOf.sizeOf p.2 ≤ N from fun p hp => by have h1 := kid_lt (t := t) (s := p.1) (u := p.2) (by rw [hfl]; exact hp); have h2 := HN.out; omega)
    rw [hfl] at HF HL HFN hfc
    clear hfl
    obtain rfl : cfn = f.length := HFN.out
    have x4 : V.cell? ⟨w.heap.size, 4, none⟩ = some (.slice cfa f.length cfc) := HO.out.2.cell (i := 4) rfl
    clear HFN
    go_upto_region 3 with (fail)
    clear x0
    go_upto_region 4 with (fail)
    clear x4
    go_loopg [3] f.length (fun g i wr => ∃ q : Nat, q ≤ f.length ∧ g = f.length - q ∧ i = .int .i64 q ∧ Below V.heap.size V wr ∧ Hid (∀ (j : Nat) (p : Str × T), j < q → f[j]? = some p → ¬ kd p.2 = 0 ∧ clnT p.2 = true))
    case atStart => exact ⟨0, Nat.zero_le _, rfl, rfl, Below.refl _ _, Lib.hid (fun j t h => absurd h (by omega))⟩
    case round =>
      obtain ⟨q, hq, hg, rfl, hb, HM⟩ := hrel
      have HG := Lib.hid hg
      clear hg
      have x4 : wr.cell? ⟨w.heap.size, 4, none⟩ = some (.slice cfa f.length cfc) := (HO.out.2.all hb).cell (i := 4) rfl
      by_cases hlt : q < f.length
      case neg =>
        obtain rfl : q = f.length := by omega
        have HT : Hid (clnT t = true) := Lib.hid (by
          rw [HF.out, clnF_iff]
          intro p hp
          obtain ⟨j, hj⟩ := List.getElem?_of_mem hp
          exact HM.out j p (List.getElem?_eq_some_iff.1 hj).1 hj)
        go_wp2
        go_ret
        exact ⟨by rw [HT.out]; rfl, below_all HO.out.1 hb⟩
      have hx := List.getElem?_eq_getElem hlt
      generalize f[q] = p at hx
      have hfl2 : Flds w (.slice cfa f.length cfc) f := HL.out
      obtain ⟨b, off, d, hao, hbl, hId, q5, q0, q1, q2, q3, q4⟩ := hfl2.at (below_all HO.out.1 hb) hx
      have HX := Lib.hid (And.intro hx (HKL.out p (List.mem_of_getElem? hx)))
      have HID := Lib.hid hId
      have HKP := Lib.hid (is_kd hId)
      subst hao
      clear hfl2 hx hId
      by_cases h0 : kd p.2 = 0
      · have e0 : (d.k == 0) = true := by rw [beq_iff_eq, HKP.out]; exact h0
        have HT : Hid (clnT t = false) := Lib.hid (by
          rw [HF.out]
          cases h : clnF f with
          | false => rfl
          | true => exact absurd h0 ((clnF_iff.1 h) p (List.mem_of_getElem? HX.out.1)).1)
        clear h0
        go_wp2
        go_ret
        exact ⟨by rw [HT.out]; rfl, below_all HO.out.1 hb⟩
      · have e0 : (d.k == 0) = false := by rw [beq_eq_false_iff_ne, HKP.out]; exact h0
        have H0 := Lib.hid h0
        have C := Lib.hid (IH.out p.2 HX.out.2 d wr HID.out)
        clear h0
        obtain ⟨B, hB⟩ : ∃ B, clnT p.2 = B := ⟨_, rfl⟩
        rw [hB] at C
        go_wp2_with fail
        refine C.out.mono ?_
        rintro e w2 ⟨rfl, hb2⟩
        have HB2 := Lib.hid (below_all hb hb2)
        clear C q5 q0 q1 q2 q3 q4 x4 hb2
        cases B with
        | false =>
          have HT : Hid (clnT t = false) := Lib.hid (by
            rw [HF.out]
            cases h : clnF f with
            | false => rfl
            | true => have := ((clnF_iff.1 h) p (List.mem_of_getElem? HX.out.1)).2; rw [hB] at this; cases this)
          clear hB
          go_wp2
          go_ret
          exact ⟨by rw [HT.out]; rfl, below_all HO.out.1 HB2.out⟩
        | true =>
          have HCB := Lib.hid hB
          clear hB hb
          go_wp2
          go_roundg (f.length - (q + 1))
          case measure => have := HG.out; omega
          case rel =>
            refine ⟨q + 1, by omega, rfl, by go_num, HB2.out, Lib.hid (fun j r hj hr => ?_)⟩
            by_cases e : j = q
            · subst e; rw [HX.out.1] at hr; cases hr; exact ⟨H0.out, HCB.out⟩
            · exact HM.out j r (by omega) hr
end Go.Proofs.Ytinenbgdkchghaa
