/- The reference's text of a value. -/
import Derived.Test.YtjpmnlefjmdelaaGreatDoorNhJ
import Derived.Test.YtjpmnlefjmdelaaGreatDoorWfJ
namespace Go.Proofs.YtjpmnlefjmdelaaGreatDoor
open Go.RowKit Go.Sort Go.Proofs.LawFrame

mutual
def kOk : T → Prop
  | .mk k _ _ l f => (0 ≤ k ∧ k ≤ 5) ∧ kOkL l ∧ kOkF f
def kOkL : List T → Prop
  | [] => True
  | t :: r => kOk t ∧ kOkL r
def kOkF : List (Str × T) → Prop
  | [] => True
  | (_, t) :: r => kOk t ∧ kOkF r
end
theorem kOkL_mem {l : List T} (h : kOkL l) : ∀ t ∈ l, kOk t := by
  induction l with
  | nil => intro t ht; cases ht
  | cons a r ih =>
    simp only [kOkL] at h
    intro t ht
    rcases List.mem_cons.1 ht with rfl | ht
    · exact h.1
    · exact ih h.2 t ht
theorem kOkF_mem {l : List (Str × T)} (h : kOkF l) : ∀ p ∈ l, kOk p.2 := by
  induction l with
  | nil => intro t ht; cases ht
  | cons a r ih =>
    obtain ⟨x, t⟩ := a
    simp only [kOkF] at h
    intro p hp
    rcases List.mem_cons.1 hp with rfl | hp
    · exact h.1
    · exact ih h.2 p hp
theorem val_kOk : ∀ (d : Nat) (t : T), Val d t → kOk t := by
  intro d
  induction d with
  | zero => intro t h; exact h.elim
  | succ d ih =>
    intro t h
    obtain ⟨k, n, s, l, f⟩ := t
    rw [val_eq] at h
    obtain ⟨hu, hm, hl, hf⟩ := h
    unfold Mem at hm
    simp only [kOk]
    refine ⟨?_, ?_, ?_⟩
    · rcases hm with h' | h' | h' | h' | h' | h' <;> omega
    · clear hm hu hf
      induction l with
      | nil => simp [kOkL]
      | cons a r ihr => simp only [kOkL]; exact ⟨ih a (hl a List.mem_cons_self), ihr (fun t ht => hl t (List.mem_cons_of_mem _ ht))⟩
    · clear hm hu hl
      induction f with
      | nil => simp [kOkF]
      | cons a r ihr =>
        obtain ⟨x, t⟩ := a
        simp only [kOkF]
        exact ⟨ih t (hf (x, t) List.mem_cons_self), ihr (fun p hp => hf p (List.mem_cons_of_mem _ hp))⟩
/-- the contract of the reference's text at a tree -/
def RT (t : T) : Prop := ∀ (c : VC) (w : World), Is w c t → Calls Tryz.prog 51 #[c.val] w fun e w' => e = .returned (sV (prV t)) ∧ Below w.heap.size w w'
theorem ret_strs {l m : Str} {x y : ByteArray} (hx : x = ⟨l.toArray⟩) (hy : y = ⟨m.toArray⟩) : Value.string (x ++ y) = sV (l ++ m) := by rw [hx, hy, strs_app]

set_option maxHeartbeats 8000000 in
set_option maxRecDepth 20000 in
theorem rtext_any : ∀ (N : Nat) (t : T), SizeOf.sizeOf t ≤ N → prOk t → kOk t → t.size ≤ 1000 → RT t := by
  intro N
  induction N with
  | zero => intro t h; cases t; simp at h
  | succ N ih =>
    intro t hN hok hkk hsz c w hI
    have HLEN := Lib.hid (prV_len _ t (Nat.le_refl _) hok)
    have hsz' := hsz
    obtain ⟨k', n', s', ls, fs⟩ := t
    obtain ⟨k, n, s, la, ln, lc, fa, fn, fc⟩ := c
    obtain ⟨hck, hcn, hcs⟩ := hI.same
    simp only at hck hcn hcs
    subst hck hcn hcs
    have HSZ := Lib.hid (size_lens (M := 1000) hsz)
    have HOK : Hid (s.length ≤ 1000 ∧ (-1000000000000000 ≤ n ∧ n ≤ 1000000000000000) ∧ prOkL ls ∧ prOkF fs) := Lib.hid (by simpa only [prOk] using hok)
    have HKK : Hid ((0 ≤ k ∧ k ≤ 5) ∧ kOkL ls ∧ kOkF fs) := Lib.hid (by simpa only [kOk] using hkk)
    have IHL : Hid (∀ t ∈ ls, RT t) := Lib.hid (fun t htm => ih t (by have := List.sizeOf_lt_of_mem htm; simp at hN; omega) (prOkL_mem HOK.out.2.2.1 t htm) (kOkL_mem HKK.out.2.1 t htm) (Int.le_trans (size_in_l (k := k) (n := n) (s := s) (f := fs) htm) hsz))
    have IHF : Hid (∀ p ∈ fs, RT p.2) := Lib.hid (fun p hp => ih p.2 (by have := List.sizeOf_lt_of_mem hp; obtain ⟨x, t⟩ := p; simp at hN this ⊢; omega) (prOkF_val HOK.out.2.2.2 p hp) (kOkF_mem HKK.out.2.2 p hp) (Int.le_trans (size_in_f (k := k) (n := n) (s := s) (l := ls) hp) hsz))
    have HL : Hid ((prV (.mk k n s ls fs)).length ≤ 5000000) := Lib.hid (by have := HLEN.out; omega)
    clear HLEN hN hok hkk hsz hsz' ih
    have hv := hI.vals
    have hf := hI.flds
    obtain ⟨la', lc', ev, hlc, hlm⟩ := hv.form
    obtain ⟨fa', fc', ef, hfc, hfm⟩ := hf.form
    cases ev
    cases ef
    unfold maxLen at hlm hfm
    clear hv hf
    have hbA := below_alloc w (.cells #[.int .i64 k, .int .i64 n, sV s, .slice la ls.length lc, .slice fa fs.length fc] 25)
    have oN := Own.new w [.int .i64 k, .int .i64 n, sV s, .slice la ls.length lc, .slice fa fs.length fc] 25
    have HSA := Lib.hid (And.intro hbA (And.intro oN (hI.all hbA)))
    clear hbA oN hI
    obtain ⟨RV, HRV⟩ : ∃ RV, Hid (RV = prV (.mk k n s ls fs)) := ⟨_, Lib.hid rfl⟩
    rw [← HRV.out]
    go_enter Tryz.func51, Tryz.ntmps51
    go_upto_region 1 with (fail)
    change Code.wp Tryz.prog _ _ _ (w.alloc (.cells #[.int .i64 k, .int .i64 n, sV s, .slice la ls.length lc, .slice fa fs.length fc] 25))
    have hVs : w.heap.size < (w.alloc (.cells #[.int .i64 k, .int .i64 n, sV s, .slice la ls.length lc, .slice fa fs.length fc] 25)).heap.size := HSA.out.2.1.lt
    generalize w.alloc (.cells #[.int .i64 k, .int .i64 n, sV s, .slice la ls.length lc, .slice fa fs.length fc] 25) = V at *
    have a0 := HSA.out.2.1.cell (i := 0) rfl
    have a1 := HSA.out.2.1.cell (i := 1) rfl
    have a2 := HSA.out.2.1.cell (i := 2) rfl
    have a3 := HSA.out.2.1.cell (i := 3) rfl
    have a4 := HSA.out.2.1.cell (i := 4) rfl
    by_cases h0 : k = 0
    · have HK := Lib.hid h0
      clear h0
      have e0 : k = 0 := HK.out
      have HPR : Hid (prV (.mk k n s ls fs) = [110, 117, 108, 108]) := Lib.hid (by simp only [prV];  rw [if_pos HK.out])
      go_wp2
      go_ret
      exact ⟨by rw [HRV.out, HPR.out]; first | done | rfl, HSA.out.1⟩
    by_cases h1 : k = 1
    · have HK := Lib.hid h1
      clear h1 h0
      have e0 : ¬ k = 0 := by have := HK.out; omega
      have e0' : (k == 0) = false := by rw [beq_eq_false_iff_ne]; exact e0
      have e1 : k = 1 := HK.out
      have HPR : Hid (prV (.mk k n s ls fs) = boolW (decide (n = 1))) := Lib.hid (by simp only [prV]; rw [if_neg (by have := HK.out; omega)]; rw [if_pos HK.out])
      by_cases hn : n = 1
      · have HN := Lib.hid hn
        go_wp2
        go_ret
        exact ⟨by rw [HRV.out, HPR.out, decide_eq_true HN.out]; rfl, HSA.out.1⟩
      · have HN := Lib.hid hn
        have hn' : (n == 1) = false := by rw [beq_eq_false_iff_ne]; exact hn
        go_wp2
        go_ret
        exact ⟨by rw [HRV.out, HPR.out, decide_eq_false HN.out]; rfl, HSA.out.1⟩
    by_cases h2 : k = 2
    · have HK := Lib.hid h2
      clear h2 h1 h0
      have e0 : ¬ k = 0 := by have := HK.out; omega
      have e0' : (k == 0) = false := by rw [beq_eq_false_iff_ne]; exact e0
      have e1 : ¬ k = 1 := by have := HK.out; omega
      have e1' : (k == 1) = false := by rw [beq_eq_false_iff_ne]; exact e1
      have e2 : k = 2 := HK.out
      have HPR : Hid (prV (.mk k n s ls fs) = Lib.itoa n) := Lib.hid (by simp only [prV]; rw [if_neg (by have := HK.out; omega)]; rw [if_neg (by have := HK.out; omega)]; rw [if_pos HK.out])
      obtain ⟨hn0, hn1⟩ := HOK.out.2.1
      by_cases hn : n < 0
      · have HNN := Lib.hid hn
        have C := rdigits_any n.natAbs V (by omega)
        rw [show ((n.natAbs : Nat) : Int) = -n by omega] at C
        obtain ⟨D, HD⟩ : ∃ D, Hid (D = Lib.decDigits n.natAbs) := ⟨_, Lib.hid rfl⟩
        rw [← HD.out] at C
        have hD : D.length ≤ 16 := by rw [HD.out]; exact dd_len _ 15 (by omega)
        have CH := Lib.hid C
        clear C
        go_wp2_with fail
        refine CH.out.mono ?_
        rintro e w2 ⟨rfl, hb2⟩
        go_wp2
        go_ret
        exact ⟨by rw [HRV.out, HPR.out]; unfold Lib.itoa; rw [if_pos HNN.out, ← HD.out]; exact congrArg Ending.returned (ret_strs (l := [45]) rfl rfl), below_all HSA.out.1 hb2⟩
      · have HNN := Lib.hid hn
        have C := rdigits_any n.toNat V (by omega)
        rw [show ((n.toNat : Nat) : Int) = n by omega] at C
        have CH := Lib.hid C
        clear C
        go_wp2_with fail
        refine CH.out.mono ?_
        rintro e w2 ⟨rfl, hb2⟩
        go_wp2
        go_ret
        exact ⟨by rw [HRV.out, HPR.out]; unfold Lib.itoa; rw [if_neg (show ¬ n < 0 by have := HNN.out; omega)]; first | done | rfl, below_all HSA.out.1 hb2⟩
    by_cases h3 : k = 3
    · have HK := Lib.hid h3
      clear h3 h2 h1 h0
      have e0 : ¬ k = 0 := by have := HK.out; omega
      have e0' : (k == 0) = false := by rw [beq_eq_false_iff_ne]; exact e0
      have e1 : ¬ k = 1 := by have := HK.out; omega
      have e1' : (k == 1) = false := by rw [beq_eq_false_iff_ne]; exact e1
      have e2 : ¬ k = 2 := by have := HK.out; omega
      have e2' : (k == 2) = false := by rw [beq_eq_false_iff_ne]; exact e2
      have e3 : k = 3 := HK.out
      have HPR : Hid (prV (.mk k n s ls fs) = quoteR s) := Lib.hid (by simp only [prV]; rw [if_neg (by have := HK.out; omega)]; rw [if_neg (by have := HK.out; omega)]; rw [if_neg (by have := HK.out; omega)]; rw [if_pos HK.out])
      have CH := Lib.hid (rquoted_any s V (by have := HOK.out.1; omega))
      go_wp2_with fail
      refine CH.out.mono ?_
      rintro e w2 ⟨rfl, hb2⟩
      go_wp2
      go_ret
      exact ⟨by rw [HRV.out, HPR.out]; first | done | rfl, below_all HSA.out.1 hb2⟩
    by_cases h4 : k = 4
    · have HK := Lib.hid h4
      clear h4 h3 h2 h1 h0
      have e0 : ¬ k = 0 := by have := HK.out; omega
      have e0' : (k == 0) = false := by rw [beq_eq_false_iff_ne]; exact e0
      have e1 : ¬ k = 1 := by have := HK.out; omega
      have e1' : (k == 1) = false := by rw [beq_eq_false_iff_ne]; exact e1
      have e2 : ¬ k = 2 := by have := HK.out; omega
      have e2' : (k == 2) = false := by rw [beq_eq_false_iff_ne]; exact e2
      have e3 : ¬ k = 3 := by have := HK.out; omega
      have e3' : (k == 3) = false := by rw [beq_eq_false_iff_ne]; exact e3
      have e4 : k = 4 := HK.out
      have HPR : Hid (prV (.mk k n s ls fs) = [91] ++ prL true ls ++ [93]) := Lib.hid (by simp only [prV]; rw [if_neg (by have := HK.out; omega)]; rw [if_neg (by have := HK.out; omega)]; rw [if_neg (by have := HK.out; omega)]; rw [if_neg (by have := HK.out; omega)]; rw [if_pos HK.out])
      have HLL : Hid ((prL true ls).length ≤ 5000000) := Lib.hid (by have := HL.out; rw [HPR.out] at this; simp at this; omega)
      go_wp2
      clear a0 a1 a2 a3 a4
      go_loopg [3, 4] ls.length (fun g v i wr => ∃ (j : Nat) (acc : Str), j ≤ ls.length ∧ g = ls.length - j ∧ i = .int .i64 j ∧ v = sV acc ∧ Hid (acc = prL true (ls.take j)) ∧ Below V.heap.size V wr)
      case atStart => exact ⟨0, [], Nat.zero_le _, rfl, rfl, rfl, Lib.hid (by simp [prL]), Below.refl _ _⟩
      case round =>
        obtain ⟨j, acc, hj, hg, rfl, rfl, HA, hb⟩ := hrel
        have HG := Lib.hid hg
        clear hg
        have hal : acc.length ≤ 5000000 := by have := prL_take_le true ls j; have := HLL.out; rw [HA.out]; omega
        have a3 := (HSA.out.2.1.all hb).cell (i := 3) rfl
        by_cases hlt : j < ls.length
        · have hx := get_some hlt
          generalize ls[j] = x at hx
          obtain ⟨b, off, c, rfl, hbl, hI, q0, q1, q2, q3, q4⟩ := HSA.out.2.2.vals.at0 hb hx
          obtain ⟨P, HPX⟩ : ∃ P, Hid (P = prV x) := ⟨_, Lib.hid rfl⟩
          have C := IHL.out x (List.mem_of_getElem? hx) c wr (hI.all hb)
          rw [← HPX.out] at C
          have hPl : acc.length + P.length ≤ 5000001 := by have := prL_le_next hx; have := HLL.out; rw [HA.out, HPX.out]; omega
          have CH := Lib.hid C
          have HX := Lib.hid hx
          clear C hx hI
          rcases Nat.eq_zero_or_pos j with hk0 | hk0
          · subst hk0
            simp only [Nat.zero_mul, Nat.add_zero] at q0 q1 q2 q3 q4
            go_wp2_with fail
            refine CH.out.mono ?_
            rintro e w7 ⟨rfl, hb7⟩
            have HB := Lib.hid (below_all hb hb7)
            clear a3 q0 q1 q2 q3 q4 hb hb7
            go_wp2
            go_roundg (ls.length - (0 + 1))
            case measure => have := HG.out; omega
            case rel => exact ⟨0 + 1, acc ++ P, by omega, rfl, by go_num, ret_strs rfl rfl, Lib.hid (by rw [prL_take_next HX.out, HA.out, HPX.out]; simp), HB.out⟩
          · have hkp : (0 : Int) < (j : Int) := by omega
            have hkn : ¬ j = 0 := by omega
            go_wp2_with fail
            refine CH.out.mono ?_
            rintro e w7 ⟨rfl, hb7⟩
            have HB := Lib.hid (below_all hb hb7)
            clear a3 q0 q1 q2 q3 q4 hb hb7
            go_wp2
            go_roundg (ls.length - (j + 1))
            case measure => have := HG.out; omega
            case rel => exact ⟨j + 1, (acc ++ [44]) ++ P, by omega, rfl, by go_num, ret_strs (strs_app acc [44]) rfl, Lib.hid (by rw [prL_take_next HX.out, HA.out, HPX.out, if_neg hkn, List.append_assoc]), HB.out⟩
        · obtain rfl : j = ls.length := by omega
          go_wp2
          go_ret
          exact ⟨by rw [HRV.out, HPR.out, ← show acc = prL true ls by rw [HA.out, List.take_length]]; exact congrArg Ending.returned (ret_strs (strs_app [91] acc) rfl), below_all HSA.out.1 hb⟩
    have HK : Hid (k = 5) := Lib.hid (by have := HKK.out.1; omega)
    clear h4 h3 h2 h1 h0
    · have e0 : ¬ k = 0 := by have := HK.out; omega
      have e0' : (k == 0) = false := by rw [beq_eq_false_iff_ne]; exact e0
      have e1 : ¬ k = 1 := by have := HK.out; omega
      have e1' : (k == 1) = false := by rw [beq_eq_false_iff_ne]; exact e1
      have e2 : ¬ k = 2 := by have := HK.out; omega
      have e2' : (k == 2) = false := by rw [beq_eq_false_iff_ne]; exact e2
      have e3 : ¬ k = 3 := by have := HK.out; omega
      have e3' : (k == 3) = false := by rw [beq_eq_false_iff_ne]; exact e3
      have e4 : ¬ k = 4 := by have := HK.out; omega
      have e4' : (k == 4) = false := by rw [beq_eq_false_iff_ne]; exact e4
      have e5 : k = 5 := HK.out
      have HPR : Hid (prV (.mk k n s ls fs) = [123] ++ prF true fs ++ [125]) := Lib.hid (by simp only [prV]; rw [if_neg (by have := HK.out; omega)]; rw [if_neg (by have := HK.out; omega)]; rw [if_neg (by have := HK.out; omega)]; rw [if_neg (by have := HK.out; omega)]; rw [if_neg (by have := HK.out; omega)]; rw [if_pos HK.out])
      have HLL : Hid ((prF true fs).length ≤ 5000000) := Lib.hid (by have := HL.out; rw [HPR.out] at this; simp at this; omega)
      go_wp2
      clear a0 a1 a2 a3 a4
      go_loopg [3, 5] fs.length (fun g v i wr => ∃ (j : Nat) (acc : Str), j ≤ fs.length ∧ g = fs.length - j ∧ i = .int .i64 j ∧ v = sV acc ∧ Hid (acc = prF true (fs.take j)) ∧ Below V.heap.size V wr)
      case atStart => exact ⟨0, [], Nat.zero_le _, rfl, rfl, rfl, Lib.hid (by simp [prF]), Below.refl _ _⟩
      case round =>
        obtain ⟨j, acc, hj, hg, rfl, rfl, HA, hb⟩ := hrel
        have HG := Lib.hid hg
        clear hg
        have hal : acc.length ≤ 5000000 := by have := prF_take_le true fs j; have := HLL.out; rw [HA.out]; omega
        have o4 := HSA.out.2.1.all hb
        have a4 := o4.cell (i := 4) rfl
        by_cases hlt : j < fs.length
        · have hx := get_some hlt
          generalize fs[j] = p at hx
          obtain ⟨b, off, c, rfl, hbl, hI, q, q0, q1, q2, q3, q4⟩ := HSA.out.2.2.flds.at0 hb hx
          obtain ⟨P, HPX⟩ : ∃ P, Hid (P = prV p.2) := ⟨_, Lib.hid rfl⟩
          obtain ⟨Qn, HQN⟩ : ∃ Qn, Hid (Qn = quoteR p.1) := ⟨_, Lib.hid rfl⟩
          have hmem := List.mem_of_getElem? hx
          have HIA := Lib.hid (hI.all hb)
          have HC := Lib.hid (fun w0 (h : Is w0 c p.2) => IHF.out p hmem c w0 h)
          have HC2 := Lib.hid (fun w0 : World => rquoted_any p.1 w0 (by have := prOkF_mem HOK.out.2.2.2 p hmem; omega))
          have hPl : acc.length + Qn.length + P.length ≤ 5000001 := by have := prF_le_next hx; have := HLL.out; rw [HA.out, HPX.out, HQN.out]; omega
          have cT : ∀ dd os, Calls Tryz.prog 51 #[.agg #[.int .i64 c.k, .int .i64 c.n, sV c.s, .slice c.la c.ln c.lc, .slice c.fa c.fn c.fc]] (grow (redrawn wr dd) os) fun e w'' => e = .returned (sV P) ∧ ∃ p : Regrown, w'' = grow (redrawn wr p.d) p.os := fun dd os => Calls.regrown_of (by rw [HPX.out]; exact HC.out _ (HIA.out.all (below_regrown wr dd os)))
          have cQ : ∀ dd os, Calls Tryz.prog 91 #[sV p.1] (grow (redrawn wr dd) os) fun e w'' => e = .returned (sV Qn) ∧ ∃ p : Regrown, w'' = grow (redrawn wr p.d) p.os := fun dd os => Calls.regrown_of (by rw [HQN.out]; exact HC2.out _)
          have HX := Lib.hid hx
          clear hx hI hmem
          rcases Nat.eq_zero_or_pos j with hk0 | hk0
          · subst hk0
            simp only [Nat.zero_mul, Nat.add_zero] at q q0 q1 q2 q3 q4
            go_upto_region 27 with (fail)
            generalize wr = W at *
            have z4 := cell_regrown a4
            have z5 := cell_regrown q
            have y0 := cell_regrown q0
            have y1 := cell_regrown q1
            have y2 := cell_regrown q2
            have y3 := cell_regrown q3
            have y4 := cell_regrown q4
            clear a4 q q0 q1 q2 q3 q4
            refine wp_region_tail_below 18 (by kernel_rfl) (by kernel_rfl) ?_
            simp only [List.take_succ_cons, List.take_zero, List.drop_succ_cons, List.drop_zero]
            repeat (first | go_big_quiet_step ((first | with_reducible exact cT _ _ | with_reducible exact cQ _ _)) | quiet_step ((first | with_reducible exact cT _ _ | with_reducible exact cQ _ _)))
            refine wpQuiet_nil ?_
            intro _ hw'
            obtain ⟨⟨dq, osq⟩, hw''⟩ := hw'
            subst hw''
            have HB := Lib.hid (below_all hb (below_regrown W dq osq))
            clear z4 z5 y0 y1 y2 y3 y4 cT cQ hb
            generalize grow (redrawn W dq) osq = U at *
            go_wp2
            go_roundg (fs.length - (0 + 1))
            case measure => have := HG.out; omega
            case rel => exact ⟨0 + 1, ((acc ++ Qn) ++ [58]) ++ P, by omega, rfl, by go_num, ret_strs (by rw [strs_app]; exact strs_app (acc ++ Qn) [58]) rfl, Lib.hid (by rw [prF_take_next HX.out, HA.out, HPX.out, HQN.out]; simp), HB.out⟩
          · have hkp : (0 : Int) < (j : Int) := by omega
            have hkn : ¬ j = 0 := by omega
            go_upto_region 27 with (fail)
            generalize wr = W at *
            have z4 := cell_regrown a4
            have z5 := cell_regrown q
            have y0 := cell_regrown q0
            have y1 := cell_regrown q1
            have y2 := cell_regrown q2
            have y3 := cell_regrown q3
            have y4 := cell_regrown q4
            clear a4 q q0 q1 q2 q3 q4
            refine wp_region_tail_below 18 (by kernel_rfl) (by kernel_rfl) ?_
            simp only [List.take_succ_cons, List.take_zero, List.drop_succ_cons, List.drop_zero]
            repeat (first | go_big_quiet_step ((first | with_reducible exact cT _ _ | with_reducible exact cQ _ _)) | quiet_step ((first | with_reducible exact cT _ _ | with_reducible exact cQ _ _)))
            refine wpQuiet_nil ?_
            intro _ hw'
            obtain ⟨⟨dq, osq⟩, hw''⟩ := hw'
            subst hw''
            have HB := Lib.hid (below_all hb (below_regrown W dq osq))
            clear z4 z5 y0 y1 y2 y3 y4 cT cQ hb
            generalize grow (redrawn W dq) osq = U at *
            go_wp2
            go_roundg (fs.length - (j + 1))
            case measure => have := HG.out; omega
            case rel => exact ⟨j + 1, (((acc ++ [44]) ++ Qn) ++ [58]) ++ P, by omega, rfl, by go_num, ret_strs (by rw [show (⟨acc.toArray⟩ : ByteArray) ++ ⟨#[44]⟩ = ⟨(acc ++ [44]).toArray⟩ from strs_app acc [44], strs_app]; exact strs_app ((acc ++ [44]) ++ Qn) [58]) rfl, Lib.hid (by rw [prF_take_next HX.out, HA.out, HPX.out, HQN.out, if_neg hkn]; simp), HB.out⟩
        · obtain rfl : j = fs.length := by omega
          go_wp2
          go_ret
          exact ⟨by rw [HRV.out, HPR.out, ← show acc = prF true fs by rw [HA.out, List.take_length]]; exact congrArg Ending.returned (ret_strs (strs_app [123] acc) rfl), below_all HSA.out.1 hb⟩
end Go.Proofs.YtjpmnlefjmdelaaGreatDoor
