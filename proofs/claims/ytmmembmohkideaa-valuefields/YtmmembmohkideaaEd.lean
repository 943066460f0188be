/- The contract of the reference's others. -/
import Derived.Test.YtmmembmohkideaaCeJ
namespace Go.Proofs.Ytmmembmohkideaa
open Go.RowKit Go.Sort Go.Proofs.LawFrame

set_option maxHeartbeats 8000000 in
set_option maxRecDepth 4000 in
theorem rothers_any (c : VC) (k n : Int) (s : Str) (l : List T) (f : List (Str × T)) (nm : Str) (w0 w : World) (hI : Is w0 c (.mk k n s l f)) (h00 : Below w0.heap.size w0 w) (hfl : f.length ≤ 1000) :
    Calls Try.prog 56 #[c.val, sV nm] w fun e w' => ∃ kv, e = .returned kv ∧ Below w.heap.size w w' ∧ RowF w0 w' w.heap.size kv (othK k nm f) := by
  obtain ⟨hk, -, -⟩ := hI.same
  have hf := hI.flds
  obtain ⟨ck, cn, cst, cla, cln, clc, cfa, cfn, cfc⟩ := c
  obtain ⟨hfn, hfc, hfm⟩ := hf.slice
  simp only at hfn hfc hfm hk hf
  subst hfn
  unfold maxLen at hfm
  obtain ⟨i35, hi35, hzi35, hsi35, hyi35⟩ := info_parts info35
  show Calls Try.prog 56 #[.agg #[.int .i64 ck, .int .i64 cn, sV cst, .slice cla cln clc, .slice cfa f.length cfc], sV nm] w _
  have hw0 := below_alloc w (.cells #[.int .i64 ck, .int .i64 cn, sV cst, .slice cla cln clc, .slice cfa f.length cfc] 25)
  have oB := Own.new w [.int .i64 ck, .int .i64 cn, sV cst, .slice cla cln clc, .slice cfa f.length cfc] 25
  have hs0 : (w.alloc (.cells #[.int .i64 ck, .int .i64 cn, sV cst, .slice cla cln clc, .slice cfa f.length cfc] 25)).heap.size = w.heap.size + 1 := size_alloc _ _
  rw [← hk]
  clear hI hk
  by_cases h5 : ck = 5
  case neg =>
    have HE : Hid (othK ck nm f = []) := Lib.hid (if_neg h5)
    have hne : (ck != 5) = true := by simpa using h5
    have HB := Lib.hid hw0
    have OB := Lib.hid oB
    have hne2 : (ck == 5) = false := by simpa using h5
    clear hw0 oB hf h5 hne
    have oBc := OB.out
    have c0 := oBc.cell (i := 0) rfl
    have c4 := oBc.cell (i := 4) rfl
    clear oBc
    go_enter Try.func56, Try.ntmps56
    go_wp2
    refine wp_loop_rounds 1 ?_
    rw [rounds_succ]
    by_cases hfp : 0 < f.length
    · go_wp2
      go_ret
      exact ⟨_, rfl, HB.out, by rw [HE.out]; exact ⟨[], PW.nil _, own_nil _ _ _ _⟩⟩
    · go_wp2
      go_ret
      exact ⟨_, rfl, HB.out, by rw [HE.out]; exact ⟨[], PW.nil _, own_nil _ _ _ _⟩⟩
  have HE : Hid (othK ck nm f = oth nm f) := Lib.hid (if_pos h5)
  have hne : (ck == 5) = true := by simpa using h5
  have c0 := oB.cell (i := 0) rfl
  have c4 := oB.cell (i := 4) rfl
  have R0 := Lib.hid (And.intro hw0 oB)
  clear hw0 oB h5
  go_enter Try.func56, Try.ntmps56
  go_wp2
  clear c0 c4
  generalize w.alloc (.cells #[.int .i64 ck, .int .i64 cn, sV cst, .slice cla cln clc, .slice cfa f.length cfc] 25) = W at *
  go_loopg [5, 6] f.length (fun g kv i wr => ∃ (q : Nat) (cs : List FC), q ≤ f.length ∧ g = f.length - q ∧ i = .int .i64 q ∧ Below W.heap.size W wr ∧ wr.ownsRow W.heap.size 35 6 kv cs.length (cs.flatMap FC.cells) ∧ Hid (PW w0 cs (oth nm (f.take q))))
  case atStart => exact ⟨0, [], Nat.zero_le _, rfl, rfl, Below.refl _ _, own_nil _ _ _ _, Lib.hid (PW.nil _)⟩
  case round =>
    obtain ⟨q, cs, hq, hg, rfl, hb, hown, HP⟩ := hrel
    have HG := Lib.hid hg
    clear hg
    have hbw := below_all R0.out.1 hb
    have hbw0 := below_all h00 hbw
    have hcl : cs.length ≤ 1000 := by have := HP.out.len; have := oth_len nm (f.take q); simp at this; omega
    have oBr := R0.out.2.all hb
    have c0 := oBr.cell (i := 0) rfl
    have c4 := oBr.cell (i := 4) rfl
    clear oBr
    by_cases hlt : q < f.length
    case neg =>
      obtain rfl : q = f.length := by omega
      have HQ := Lib.hid (And.intro hbw hown)
      clear hbw hown hb hbw0
      go_wp2
      go_ret
      obtain ⟨hbw, hown⟩ := HQ.out
      refine ⟨_, rfl, hbw, ?_⟩
      rw [HE.out]
      have hP := HP.out
      rw [List.take_length] at hP
      exact ⟨cs, hP, row_weak hown (by omega)⟩
    have hx := List.getElem?_eq_getElem hlt
    generalize f[q] = p at hx
    obtain ⟨b, off, d, hao, hbl, hId, q5, q0, q1, q2, q3, q4⟩ := hf.at hbw0 hx
    have hdd : Is w0 d p.2 := by
      obtain ⟨cs0, g1, g2, g3, g4⟩ := hf.out
      obtain ⟨x0, hx0⟩ : ∃ x0, cs0[q]? = some x0 := ⟨_, List.getElem?_eq_getElem (by omega)⟩
      have hv0 : d = x0.v := by
        obtain ⟨ao', cap', e1, -, -, e4⟩ := g2.out
        cases e1
        obtain ⟨b0, off0, e5, e6, e7⟩ := e4 (by omega)
        rw [hao] at e5; cases e5
        have hc : ∀ j z, (FC.cells x0)[j]? = some z → wr.cell? ⟨b, off + q * 6 + j, none⟩ = some z := fun j z hz => by
          have hj : j < 6 := (List.getElem?_eq_some_iff.1 hz).1
          rw [hbw0.cell (p := ⟨b, off + q * 6 + j, none⟩) e6, Nat.add_assoc]
          exact e7 (q * 6 + j) z (by rw [flat_get FC.cells (m := 6) (fun _ => rfl) cs0 q j x0 hx0 hj]; exact hz)
        have a0 := hc 1 _ rfl
        have a1 := hc 2 _ rfl
        have a2 := hc 3 _ rfl
        have a3 := hc 4 _ rfl
        have a4 := hc 5 _ rfl
        rw [q0] at a0; rw [q1] at a1; rw [q2] at a2; rw [q3] at a3; rw [q4] at a4
        apply VC.cells_inj
        simp only [VC.cells]
        rw [Option.some.inj a0, Option.some.inj a1, Option.some.inj a2, Option.some.inj a3, Option.some.inj a4]
      rw [hv0]; exact g4 q x0 p hx0 hx
    subst hao
    have hwr := hb.size
    have HX := Lib.hid (And.intro hx hdd)
    clear hx hdd hId
    by_cases hnm : p.1 = nm
    · have HO : Hid (oth nm (f.take (q + 1)) = oth nm (f.take q)) := Lib.hid (by rw [oth_snoc HX.out.1, if_pos hnm]; simp)
      have hne2 : (p.1 == nm) = true := by simpa using hnm
      have HQ := Lib.hid (And.intro hb hown)
      clear hown hb hnm hbw hbw0
      go_wp2
      go_roundg (f.length - (q + 1))
      case measure => have := HG.out; omega
      case rel => exact ⟨q + 1, cs, by omega, rfl, by go_num, HQ.out.1, HQ.out.2, Lib.hid (by rw [HO.out]; exact HP.out)⟩
    · have HO : Hid (oth nm (f.take (q + 1)) = oth nm (f.take q) ++ [p]) := Lib.hid (by rw [oth_snoc HX.out.1, if_neg hnm])
      have hne2 : (p.1 == nm) = false := by simpa using hnm
      clear hnm hbw hbw0
      go_wp2_with (first | (at_builtin; refine wpList_append_own _ rfl (.tmp 27) (.tmp 33) 23 rfl W.heap.size 35 i35 (.agg #[.string ⟨#[]⟩, .int .i64 0, .int .i64 0, .string ⟨#[]⟩, .slice none 0 0, .slice none 0 0]) 6 96 Try.underlying23 hi35 hzi35 hsi35 hyi35 rfl (by decide) _ _ _ rfl (hown.alloc _) ⟨wr.heap.size, 0, none⟩ 1 1 (FC.cells ⟨p.1, d⟩) rfl rfl (cell_six_new _ ⟨p.1, d⟩ _) (six_one ⟨p.1, d⟩) (by unfold maxLen; omega) (by omega) (by simp; omega) ?_; intro v' w5 hown5 hgrow5 hnil5))
      go_roundg (f.length - (q + 1))
      case measure => have := HG.out; omega
      case rel => exact ⟨q + 1, cs ++ [⟨p.1, d⟩], by omega, rfl, by go_num, below_grown (hb.trans ((below_alloc wr _).mono (by omega))) hgrow5 (by rw [size_alloc]; omega) (own_row hown), by rw [flatMap_snoc, List.length_append]; exact hown5, Lib.hid (by rw [HO.out]; exact HP.out.snoc ⟨rfl, HX.out.2⟩)⟩
end Go.Proofs.Ytmmembmohkideaa
