/- The program's pairs: two maps side by side. -/
import Derived.Test.YtinenbgdkchghaaHa
set_option linter.unusedSimpArgs false
set_option linter.unusedVariables false
namespace Go.Proofs.Ytinenbgdkchghaa
open Go.RowKit Go.Sort Go.Proofs.LawFrame

theorem is_vc0 (w : World) : Is w VC0 T0 := (isA_zero w (fun _ => True)).is
theorem below_drew {B : Nat} {a w : World} (h : Below B a w) : Below B a w.drew := ⟨h.os, h.tape, h.output, h.size, h.block⟩
theorem row_drew {w : World} {base : Nat} {e : TypeId} {size : Nat} {v : Value} {n : Nat} {xs : List Value} (h : w.ownsRow base e size v n xs) : w.drew.ownsRow base e size v n xs := h
theorem row_setN {w : World} {base b : Nat} {e : TypeId} {size : Nat} {v : Value} {n : Nat} {xs : List Value} (h : w.ownsRow base e size v n xs) (hb : ¬ v.ownBlock = some b) (i : Nat) (x : Value) : (w.setCell ⟨b, i, none⟩ x).ownsRow base e size v n xs :=
  h.kept (row := some b) ⟨rfl, rfl, rfl, Nat.le_of_eq (by unfold World.setCell; simp), fun k _ hne => Below.heap_setCell _ _ _ _ (fun e => hne (by rw [e]))⟩ (by
    cases hv : v.ownBlock with
    | none => exact Or.inl rfl
    | some k => exact Or.inr (fun e => hb (by rw [hv]; simpa using e)))
/-- the slice v holds these pairs, in a row of memory from block m on; what is in them lies in an older world -/
structure PrsA (w0 w : World) (m : Nat) (v : Value) (l : List Pq) : Prop where
  out : ∃ (cs : List PC) (base : Nat), m ≤ base ∧ cs.length = l.length ∧ w.ownsRow base 44 13 v l.length (cs.flatMap PC.cells) ∧ ∀ (i : Nat) (x : PC) (q : Pq), cs[i]? = some x → l[i]? = some q → PrOk w0 x q
theorem PrsA.all {w0 w w' : World} {m : Nat} {v : Value} {l : List Pq} (h : PrsA w0 w m v l) (hb : Below w.heap.size w w') : PrsA w0 w' m v l := by
  obtain ⟨cs, base, h1, h2, h3, h4⟩ := h.out
  exact ⟨cs, base, h1, h2, own_below h3 hb, h4⟩
theorem PrsA.prs {w0 w : World} {m : Nat} {v : Value} {l : List Pq} (h : PrsA w0 w m v l) (hb : Below w0.heap.size w0 w) : Prs w v l := by
  obtain ⟨cs, base, h1, h2, h3, h4⟩ := h.out
  exact prs_of_own h3 rfl h2 h4 hb
theorem PrsA.but {w0 w wr : World} {m b : Nat} {v : Value} {l : List Pq} (h : PrsA w0 w m v l) (hb : But b w wr) (hm : b < m) : PrsA w0 wr m v l := by
  obtain ⟨cs, base, h1, h2, h3, h4⟩ := h.out
  refine ⟨cs, base, h1, h2, h3.kept (row := some b) ⟨hb.os, hb.tape, hb.output, hb.size, fun k hk hne => hb.block k hk (fun e => hne (by rw [e]))⟩ ?_, h4⟩
  cases hv : v.ownBlock with
  | none => exact Or.inl rfl
  | some k => exact Or.inr (fun e => by have := (h3.lt k hv).1; simp at e; omega)
set_option maxHeartbeats 16000000 in
set_option maxRecDepth 4000 in
theorem pairs_any (w0 : World) (m : Nat) (va vb : Value) (A B : List (Str × T)) (w : World) (hm : m ≤ w.heap.size) (h0 : Below w0.heap.size w0 w) (hA : Flds w0 va A) (hB : Flds w0 vb B) (hn : A.length + B.length ≤ 4000) :
    Calls Try.prog 27 #[va, vb] w fun e w' => ∃ v, e = .returned v ∧ Below w.heap.size w w' ∧ PrsA w0 w' m v (prs (A.length + B.length) A B) := by
  obtain ⟨i44, hi44, hz44, hs44, hy44⟩ := info_parts info44
  obtain ⟨aa, ca, rfl, hca, hma⟩ := hA.form
  obtain ⟨ab, cb, rfl, hcb, hmb⟩ := hB.form
  have HF0 := Lib.hid (And.intro hA hB)
  have HN := Lib.hid hn
  have H0 := Lib.hid (And.intro h0 hm)
  clear hA hB hca hma hcb hmb h0 hm
  go_enter Try.func27, Try.ntmps27
  go_wp2
  go_loopg [0, 1, 5] (A.length + B.length) (fun g sa sb vall wr => ∃ (A' B' : List (Str × T)) (D : List Pq) (cs : List PC) (aa : Option Addr) (ca : Nat) (ab : Option Addr) (cb n : Nat), g = A'.length + B'.length ∧ sa = .slice aa A'.length ca ∧ sb = .slice ab B'.length cb ∧ Hid (Flds w0 (.slice aa A'.length ca) A' ∧ Flds w0 (.slice ab B'.length cb) B') ∧ Below w.heap.size w wr ∧ wr.ownsRow w.heap.size 44 13 vall D.length (cs.flatMap PC.cells) ∧ Hid (cs.length = D.length) ∧ Hid (∀ (i : Nat) (x : PC) (q : Pq), cs[i]? = some x → D[i]? = some q → PrOk w0 x q) ∧ Hid (A'.length + B'.length ≤ n ∧ prs (A.length + B.length) A B = D ++ prs n A' B'))
  case atStart => exact ⟨A, B, [], [], aa, ca, ab, cb, A.length + B.length, rfl, rfl, rfl, HF0, Below.refl _ _, own_nil _ _ _ _, Lib.hid rfl, Lib.hid (fun i x q h => by simp at h), Lib.hid ⟨Nat.le_refl _, by simp⟩⟩
  case round =>
    obtain ⟨A', B', D, cs, aa, ca, ab, cb, n, hg, rfl, rfl, HF, hb, hrow, HCS, HPK, HPR⟩ := hrel
    have HG := Lib.hid hg
    have hlenD : D.length + (prs n A' B').length ≤ A.length + B.length := by
      have h := prs_len (A.length + B.length) A B
      rw [HPR.out.2, List.length_append] at h; exact h
    have HDL : Hid (D.length ≤ 4000) := Lib.hid (by have := HN.out; omega)
    obtain ⟨ar, cr, hvv, -, -, -⟩ := (Flat.of_own hrow).out
    subst hvv
    clear hg hlenD
    cases A' with
    | nil =>
      cases B' with
      | nil =>
        have HE : Hid (prs (A.length + B.length) A B = D) := Lib.hid (by rw [HPR.out.2, prs_nil, List.append_nil])
        have HFIN := Lib.hid (show PrsA w0 wr m _ D from ⟨cs, w.heap.size, H0.out.2, HCS.out, hrow, HPK.out⟩)
        have HB0 := Lib.hid hb
        clear hrow hb
        go_wp2
        go_ret
        exact ⟨_, rfl, HB0.out, by rw [HE.out]; exact HFIN.out⟩
      | cons y B1 =>
        obtain ⟨yn, yt⟩ := y
        obtain ⟨b2, off2, d, eab, hb2l, hIy, k0, k1, k2, k3, k4, k5⟩ := (HF.out.2).at (Below.refl _ _) (i := 0) rfl
        cases eab
        have hHTB := (HF.out.2).tailIf
        simp only [Nat.zero_mul, Nat.add_zero] at k0 k1 k2 k3 k4 k5
        have HEB : Hid (∀ W : World, Below w0.heap.size w0 W → W.cell? ⟨b2, off2, none⟩ = some (sV yn) ∧ W.cell? ⟨b2, off2 + 1, none⟩ = some (.int .i64 d.k) ∧ W.cell? ⟨b2, off2 + 2, none⟩ = some (.int .i64 d.n) ∧ W.cell? ⟨b2, off2 + 3, none⟩ = some (sV d.s) ∧ W.cell? ⟨b2, off2 + 4, none⟩ = some (.slice d.la d.ln d.lc) ∧ W.cell? ⟨b2, off2 + 5, none⟩ = some (.slice d.fa d.fn d.fc)) := Lib.hid (fun W hb => ⟨(hb.cell (p := ⟨b2, off2, none⟩) hb2l).trans k0, (hb.cell (p := ⟨b2, off2 + 1, none⟩) hb2l).trans k1, (hb.cell (p := ⟨b2, off2 + 2, none⟩) hb2l).trans k2, (hb.cell (p := ⟨b2, off2 + 3, none⟩) hb2l).trans k3, (hb.cell (p := ⟨b2, off2 + 4, none⟩) hb2l).trans k4, (hb.cell (p := ⟨b2, off2 + 5, none⟩) hb2l).trans k5⟩)
        have HIB := Lib.hid hIy
        have HTB := Lib.hid hHTB
        clear hHTB k0 k1 k2 k3 k4 k5 hIy
        obtain ⟨mm, HPN⟩ : ∃ m, Hid (([] : List (Str × T)).length + B1.length ≤ m ∧ prs (A.length + B.length) A B = (D ++ [(yn, (none, some yt))]) ++ prs m ([] : List (Str × T)) B1) := by
          obtain ⟨h1, h2⟩ := HPR.out
          cases n with
          | zero => simp at h1
          | succ m => exact ⟨m, Lib.hid ⟨by simp at h1 ⊢; omega, by rw [h2, prs_nilL]; simp⟩⟩
        by_cases h1b : cb = 1
        · subst h1b
          have HFN := Lib.hid (And.intro HF.out.1 (show Flds w0 (.slice (some ⟨b2, off2, none⟩) B1.length 0) B1 from by simpa using HTB.out))
          have hbA := below_all hb (below_alloc wr (.cells #[.string ⟨#[]⟩, .int .i64 0, .int .i64 0, .string ⟨#[]⟩, .slice none 0 0, .slice none 0 0, .int .i64 0, .int .i64 0, .string ⟨#[]⟩, .slice none 0 0, .slice none 0 0, .bool false, .bool false] 44))
          have hnb : w.heap.size ≤ wr.heap.size := hb.size
          have hnr : ¬ (Value.slice ar D.length cr).ownBlock = some wr.heap.size := fun e => by have := (hrow.lt _ e).2; omega
          have HS := Lib.hid (show Below w.heap.size w (wr.alloc (.cells #[.string ⟨#[]⟩, .int .i64 0, .int .i64 0, .string ⟨#[]⟩, .slice none 0 0, .slice none 0 0, .int .i64 0, .int .i64 0, .string ⟨#[]⟩, .slice none 0 0, .slice none 0 0, .bool false, .bool false] 44)) ∧ Own (wr.alloc (.cells #[.string ⟨#[]⟩, .int .i64 0, .int .i64 0, .string ⟨#[]⟩, .slice none 0 0, .slice none 0 0, .int .i64 0, .int .i64 0, .string ⟨#[]⟩, .slice none 0 0, .slice none 0 0, .bool false, .bool false] 44)) wr.heap.size [.string ⟨#[]⟩, .int .i64 0, .int .i64 0, .string ⟨#[]⟩, .slice none 0 0, .slice none 0 0, .int .i64 0, .int .i64 0, .string ⟨#[]⟩, .slice none 0 0, .slice none 0 0, .bool false, .bool false] 44 ∧ (wr.alloc (.cells #[.string ⟨#[]⟩, .int .i64 0, .int .i64 0, .string ⟨#[]⟩, .slice none 0 0, .slice none 0 0, .int .i64 0, .int .i64 0, .string ⟨#[]⟩, .slice none 0 0, .slice none 0 0, .bool false, .bool false] 44)).ownsRow w.heap.size 44 13 (.slice ar D.length cr) D.length (cs.flatMap PC.cells) from ⟨hbA, Own.new _ _ _, hrow.alloc _⟩)
          have C := Lib.hid (nextSide_any _ _ _ _ (wr.alloc (.cells #[.string ⟨#[]⟩, .int .i64 0, .int .i64 0, .string ⟨#[]⟩, .slice none 0 0, .slice none 0 0, .int .i64 0, .int .i64 0, .string ⟨#[]⟩, .slice none 0 0, .slice none 0 0, .bool false, .bool false] 44)) (HF.out.1.all (below_all H0.out.1 hbA)) (HF.out.2.all (below_all H0.out.1 hbA)))
          rw [show sideP [] ((yn, yt) :: B1) = 1 from rfl] at C
          clear hbA hrow hb
          go_upto_region 4 with (fail)
          change Code.wp Try.prog _ _ _ (wr.alloc (.cells #[.string ⟨#[]⟩, .int .i64 0, .int .i64 0, .string ⟨#[]⟩, .slice none 0 0, .slice none 0 0, .int .i64 0, .int .i64 0, .string ⟨#[]⟩, .slice none 0 0, .slice none 0 0, .bool false, .bool false] 44))
          generalize wr.alloc (.cells #[.string ⟨#[]⟩, .int .i64 0, .int .i64 0, .string ⟨#[]⟩, .slice none 0 0, .slice none 0 0, .int .i64 0, .int .i64 0, .string ⟨#[]⟩, .slice none 0 0, .slice none 0 0, .bool false, .bool false] 44) = V at *
          generalize wr.heap.size = nb at *
          go_wp2_with fail
          refine C.out.mono ?_
          rintro e w2 ⟨rfl, hb2⟩
          have HS2 := Lib.hid (show Below w.heap.size w w2 ∧ Own w2 nb [.string ⟨#[]⟩, .int .i64 0, .int .i64 0, .string ⟨#[]⟩, .slice none 0 0, .slice none 0 0, .int .i64 0, .int .i64 0, .string ⟨#[]⟩, .slice none 0 0, .slice none 0 0, .bool false, .bool false] 44 ∧ w2.ownsRow w.heap.size 44 13 (.slice ar D.length cr) D.length (cs.flatMap PC.cells) from ⟨below_all HS.out.1 hb2, HS.out.2.1.all hb2, own_below HS.out.2.2 hb2⟩)
          clear C hb2 HS HF
          have u0 := HS2.out.2.1.cell (i := 0) rfl
          have u6 := HS2.out.2.1.cell (i := 6) rfl
          have u7 := HS2.out.2.1.cell (i := 7) rfl
          have u8 := HS2.out.2.1.cell (i := 8) rfl
          have u9 := HS2.out.2.1.cell (i := 9) rfl
          have u10 := HS2.out.2.1.cell (i := 10) rfl
          have u12 := HS2.out.2.1.cell (i := 12) rfl
          have v0 := HS2.out.2.1.frozen 0
          have v6 := HS2.out.2.1.frozen 6
          have v7 := HS2.out.2.1.frozen 7
          have v8 := HS2.out.2.1.frozen 8
          have v9 := HS2.out.2.1.frozen 9
          have v10 := HS2.out.2.1.frozen 10
          have v12 := HS2.out.2.1.frozen 12
          obtain ⟨qn, q0, q1, q2, q3, q4⟩ := HEB.out _ (below_all H0.out.1 HS2.out.1)
          have HS4 := Lib.hid (show Below w.heap.size w (((((((w2.setCell ⟨nb, 0, none⟩ (sV yn)).setCell ⟨nb, 6, none⟩ (.int .i64 d.k)).setCell ⟨nb, 7, none⟩ (.int .i64 d.n)).setCell ⟨nb, 8, none⟩ (sV d.s)).setCell ⟨nb, 9, none⟩ (.slice d.la d.ln d.lc)).setCell ⟨nb, 10, none⟩ (.slice d.fa d.fn d.fc)).setCell ⟨nb, 12, none⟩ (.bool true)).drew ∧ Own (((((((w2.setCell ⟨nb, 0, none⟩ (sV yn)).setCell ⟨nb, 6, none⟩ (.int .i64 d.k)).setCell ⟨nb, 7, none⟩ (.int .i64 d.n)).setCell ⟨nb, 8, none⟩ (sV d.s)).setCell ⟨nb, 9, none⟩ (.slice d.la d.ln d.lc)).setCell ⟨nb, 10, none⟩ (.slice d.fa d.fn d.fc)).setCell ⟨nb, 12, none⟩ (.bool true)).drew nb [sV yn, .int .i64 0, .int .i64 0, .string ⟨#[]⟩, .slice none 0 0, .slice none 0 0, .int .i64 d.k, .int .i64 d.n, sV d.s, .slice d.la d.ln d.lc, .slice d.fa d.fn d.fc, .bool false, .bool true] 44 ∧ (((((((w2.setCell ⟨nb, 0, none⟩ (sV yn)).setCell ⟨nb, 6, none⟩ (.int .i64 d.k)).setCell ⟨nb, 7, none⟩ (.int .i64 d.n)).setCell ⟨nb, 8, none⟩ (sV d.s)).setCell ⟨nb, 9, none⟩ (.slice d.la d.ln d.lc)).setCell ⟨nb, 10, none⟩ (.slice d.fa d.fn d.fc)).setCell ⟨nb, 12, none⟩ (.bool true)).drew.ownsRow w.heap.size 44 13 (.slice ar D.length cr) D.length (cs.flatMap PC.cells) from ⟨below_drew (below_set (below_set (below_set (below_set (below_set (below_set (below_set HS2.out.1 hnb (i := 0) (sV yn)) hnb (i := 6) (.int .i64 d.k)) hnb (i := 7) (.int .i64 d.n)) hnb (i := 8) (sV d.s)) hnb (i := 9) (.slice d.la d.ln d.lc)) hnb (i := 10) (.slice d.fa d.fn d.fc)) hnb (i := 12) (.bool true)), Own.drew (((((((HS2.out.2.1.set 0 (sV yn)).set 6 (.int .i64 d.k)).set 7 (.int .i64 d.n)).set 8 (sV d.s)).set 9 (.slice d.la d.ln d.lc)).set 10 (.slice d.fa d.fn d.fc)).set 12 (.bool true)), row_drew (row_setN (row_setN (row_setN (row_setN (row_setN (row_setN (row_setN HS2.out.2.2 hnr (0) (sV yn)) hnr (6) (.int .i64 d.k)) hnr (7) (.int .i64 d.n)) hnr (8) (sV d.s)) hnr (9) (.slice d.la d.ln d.lc)) hnr (10) (.slice d.fa d.fn d.fc)) hnr (12) (.bool true))⟩)
          go_upto_region 9 with (fail)
          go_region
          clear u0 v0 u6 v6 u7 v7 u8 v8 u9 v9 u10 v10 u12 v12 qn q0 q1 q2 q3 q4 HS2
          go_upto_region 11 with (fail)
          change Code.wp Try.prog _ _ _ (((((((w2.setCell ⟨nb, 0, none⟩ (sV yn)).setCell ⟨nb, 6, none⟩ (.int .i64 d.k)).setCell ⟨nb, 7, none⟩ (.int .i64 d.n)).setCell ⟨nb, 8, none⟩ (sV d.s)).setCell ⟨nb, 9, none⟩ (.slice d.la d.ln d.lc)).setCell ⟨nb, 10, none⟩ (.slice d.fa d.fn d.fc)).setCell ⟨nb, 12, none⟩ (.bool true)).drew
          generalize (((((((w2.setCell ⟨nb, 0, none⟩ (sV yn)).setCell ⟨nb, 6, none⟩ (.int .i64 d.k)).setCell ⟨nb, 7, none⟩ (.int .i64 d.n)).setCell ⟨nb, 8, none⟩ (sV d.s)).setCell ⟨nb, 9, none⟩ (.slice d.la d.ln d.lc)).setCell ⟨nb, 10, none⟩ (.slice d.fa d.fn d.fc)).setCell ⟨nb, 12, none⟩ (.bool true)).drew = w4 at *
          have HPC := Lib.hid (show PrOk w0 ⟨yn, VC0, d, false, true⟩ (yn, (none, some yt)) from ⟨rfl, rfl, rfl, (is_vc0 w0), HIB.out⟩)
          have z0 := HS4.out.2.1.cell (i := 0) rfl
          have z1 := HS4.out.2.1.cell (i := 1) rfl
          have z2 := HS4.out.2.1.cell (i := 2) rfl
          have z3 := HS4.out.2.1.cell (i := 3) rfl
          have z4 := HS4.out.2.1.cell (i := 4) rfl
          have z5 := HS4.out.2.1.cell (i := 5) rfl
          have z6 := HS4.out.2.1.cell (i := 6) rfl
          have z7 := HS4.out.2.1.cell (i := 7) rfl
          have z8 := HS4.out.2.1.cell (i := 8) rfl
          have z9 := HS4.out.2.1.cell (i := 9) rfl
          have z10 := HS4.out.2.1.cell (i := 10) rfl
          have z11 := HS4.out.2.1.cell (i := 11) rfl
          have z12 := HS4.out.2.1.cell (i := 12) rfl
          have hsz5 := HS4.out.2.1.lt
          have hbl5 := HS4.out.1.size
          have hrow5 := HS4.out.2.2
          have hDl := HDL.out
          go_upto_region 2 with (first | (at_builtin; refine wpList_append_own _ rfl (.tmp 49) (.tmp 51) 40 rfl w.heap.size 44 i44 (.agg #[.string ⟨#[]⟩, .int .i64 0, .int .i64 0, .string ⟨#[]⟩, .slice none 0 0, .slice none 0 0, .int .i64 0, .int .i64 0, .string ⟨#[]⟩, .slice none 0 0, .slice none 0 0, .bool false, .bool false]) 13 184 Try.underlying40 hi44 hz44 hs44 hy44 rfl (by decide) _ _ _ rfl (hrow5.alloc _) ⟨w4.heap.size, 0, none⟩ 1 1 (PC.cells ⟨yn, VC0, d, false, true⟩) rfl rfl (own_src (Own.new _ _ _)) (PC.one ⟨yn, VC0, d, false, true⟩) (by unfold maxLen; omega) (by omega) (by simp; omega) ?_; intro v6 w6 hown6 hgrow6 hnil6))
          have hb6 := below_rowq (HS4.out.1.alloc HS4.out.1.size (.cells #[sV yn, .int .i64 0, .int .i64 0, .string ⟨#[]⟩, .slice none 0 0, .slice none 0 0, .int .i64 d.k, .int .i64 d.n, sV d.s, .slice d.la d.ln d.lc, .slice d.fa d.fn d.fc, .bool false, .bool true] 44)) hgrow6 (fun k hk => by have := own_row hrow5 k hk; omega)
          obtain ⟨ao6, cap6, hu6, -, -, -⟩ := (Flat.of_own hown6).out
          subst hu6
          rw [← snocP] at hown6
          have HEND := Lib.hid (And.intro hb6 (And.intro hown6 (And.intro (show (cs ++ [(⟨yn, VC0, d, false, true⟩ : PC)]).length = (D ++ [((yn, (none, some yt)) : Pq)]).length by simp [HCS.out]) (prOk_snoc HCS.out HPK.out HPC.out))))
          clear z0 z1 z2 z3 z4 z5 z6 z7 z8 z9 z10 z11 z12 hgrow6 hnil6 hown6 hb6 hrow5
          go_roundg (([] : List (Str × T)).length + B1.length)
          case measure => have := HG.out; simp at this ⊢; omega
          case rel => exact ⟨([] : List (Str × T)), B1, D ++ [(yn, (none, some yt))], cs ++ [⟨yn, VC0, d, false, true⟩], aa, ca, (some ⟨b2, off2, none⟩), 0, _, rfl, rfl, rfl, HFN, HEND.out.1, by rw [List.length_append]; exact HEND.out.2.1, Lib.hid HEND.out.2.2.1, Lib.hid HEND.out.2.2.2, HPN⟩
        · have HFN := Lib.hid (And.intro HF.out.1 (show Flds w0 (.slice (some ⟨b2, off2 + 6, none⟩) B1.length (cb - 1)) B1 from by simpa [h1b] using HTB.out))
          have hbA := below_all hb (below_alloc wr (.cells #[.string ⟨#[]⟩, .int .i64 0, .int .i64 0, .string ⟨#[]⟩, .slice none 0 0, .slice none 0 0, .int .i64 0, .int .i64 0, .string ⟨#[]⟩, .slice none 0 0, .slice none 0 0, .bool false, .bool false] 44))
          have hnb : w.heap.size ≤ wr.heap.size := hb.size
          have hnr : ¬ (Value.slice ar D.length cr).ownBlock = some wr.heap.size := fun e => by have := (hrow.lt _ e).2; omega
          have HS := Lib.hid (show Below w.heap.size w (wr.alloc (.cells #[.string ⟨#[]⟩, .int .i64 0, .int .i64 0, .string ⟨#[]⟩, .slice none 0 0, .slice none 0 0, .int .i64 0, .int .i64 0, .string ⟨#[]⟩, .slice none 0 0, .slice none 0 0, .bool false, .bool false] 44)) ∧ Own (wr.alloc (.cells #[.string ⟨#[]⟩, .int .i64 0, .int .i64 0, .string ⟨#[]⟩, .slice none 0 0, .slice none 0 0, .int .i64 0, .int .i64 0, .string ⟨#[]⟩, .slice none 0 0, .slice none 0 0, .bool false, .bool false] 44)) wr.heap.size [.string ⟨#[]⟩, .int .i64 0, .int .i64 0, .string ⟨#[]⟩, .slice none 0 0, .slice none 0 0, .int .i64 0, .int .i64 0, .string ⟨#[]⟩, .slice none 0 0, .slice none 0 0, .bool false, .bool false] 44 ∧ (wr.alloc (.cells #[.string ⟨#[]⟩, .int .i64 0, .int .i64 0, .string ⟨#[]⟩, .slice none 0 0, .slice none 0 0, .int .i64 0, .int .i64 0, .string ⟨#[]⟩, .slice none 0 0, .slice none 0 0, .bool false, .bool false] 44)).ownsRow w.heap.size 44 13 (.slice ar D.length cr) D.length (cs.flatMap PC.cells) from ⟨hbA, Own.new _ _ _, hrow.alloc _⟩)
          have C := Lib.hid (nextSide_any _ _ _ _ (wr.alloc (.cells #[.string ⟨#[]⟩, .int .i64 0, .int .i64 0, .string ⟨#[]⟩, .slice none 0 0, .slice none 0 0, .int .i64 0, .int .i64 0, .string ⟨#[]⟩, .slice none 0 0, .slice none 0 0, .bool false, .bool false] 44)) (HF.out.1.all (below_all H0.out.1 hbA)) (HF.out.2.all (below_all H0.out.1 hbA)))
          rw [show sideP [] ((yn, yt) :: B1) = 1 from rfl] at C
          clear hbA hrow hb
          go_upto_region 4 with (fail)
          change Code.wp Try.prog _ _ _ (wr.alloc (.cells #[.string ⟨#[]⟩, .int .i64 0, .int .i64 0, .string ⟨#[]⟩, .slice none 0 0, .slice none 0 0, .int .i64 0, .int .i64 0, .string ⟨#[]⟩, .slice none 0 0, .slice none 0 0, .bool false, .bool false] 44))
          generalize wr.alloc (.cells #[.string ⟨#[]⟩, .int .i64 0, .int .i64 0, .string ⟨#[]⟩, .slice none 0 0, .slice none 0 0, .int .i64 0, .int .i64 0, .string ⟨#[]⟩, .slice none 0 0, .slice none 0 0, .bool false, .bool false] 44) = V at *
          generalize wr.heap.size = nb at *
          go_wp2_with fail
          refine C.out.mono ?_
          rintro e w2 ⟨rfl, hb2⟩
          have HS2 := Lib.hid (show Below w.heap.size w w2 ∧ Own w2 nb [.string ⟨#[]⟩, .int .i64 0, .int .i64 0, .string ⟨#[]⟩, .slice none 0 0, .slice none 0 0, .int .i64 0, .int .i64 0, .string ⟨#[]⟩, .slice none 0 0, .slice none 0 0, .bool false, .bool false] 44 ∧ w2.ownsRow w.heap.size 44 13 (.slice ar D.length cr) D.length (cs.flatMap PC.cells) from ⟨below_all HS.out.1 hb2, HS.out.2.1.all hb2, own_below HS.out.2.2 hb2⟩)
          clear C hb2 HS HF
          have u0 := HS2.out.2.1.cell (i := 0) rfl
          have u6 := HS2.out.2.1.cell (i := 6) rfl
          have u7 := HS2.out.2.1.cell (i := 7) rfl
          have u8 := HS2.out.2.1.cell (i := 8) rfl
          have u9 := HS2.out.2.1.cell (i := 9) rfl
          have u10 := HS2.out.2.1.cell (i := 10) rfl
          have u12 := HS2.out.2.1.cell (i := 12) rfl
          have v0 := HS2.out.2.1.frozen 0
          have v6 := HS2.out.2.1.frozen 6
          have v7 := HS2.out.2.1.frozen 7
          have v8 := HS2.out.2.1.frozen 8
          have v9 := HS2.out.2.1.frozen 9
          have v10 := HS2.out.2.1.frozen 10
          have v12 := HS2.out.2.1.frozen 12
          obtain ⟨qn, q0, q1, q2, q3, q4⟩ := HEB.out _ (below_all H0.out.1 HS2.out.1)
          have HS4 := Lib.hid (show Below w.heap.size w (((((((w2.setCell ⟨nb, 0, none⟩ (sV yn)).setCell ⟨nb, 6, none⟩ (.int .i64 d.k)).setCell ⟨nb, 7, none⟩ (.int .i64 d.n)).setCell ⟨nb, 8, none⟩ (sV d.s)).setCell ⟨nb, 9, none⟩ (.slice d.la d.ln d.lc)).setCell ⟨nb, 10, none⟩ (.slice d.fa d.fn d.fc)).setCell ⟨nb, 12, none⟩ (.bool true)).drew ∧ Own (((((((w2.setCell ⟨nb, 0, none⟩ (sV yn)).setCell ⟨nb, 6, none⟩ (.int .i64 d.k)).setCell ⟨nb, 7, none⟩ (.int .i64 d.n)).setCell ⟨nb, 8, none⟩ (sV d.s)).setCell ⟨nb, 9, none⟩ (.slice d.la d.ln d.lc)).setCell ⟨nb, 10, none⟩ (.slice d.fa d.fn d.fc)).setCell ⟨nb, 12, none⟩ (.bool true)).drew nb [sV yn, .int .i64 0, .int .i64 0, .string ⟨#[]⟩, .slice none 0 0, .slice none 0 0, .int .i64 d.k, .int .i64 d.n, sV d.s, .slice d.la d.ln d.lc, .slice d.fa d.fn d.fc, .bool false, .bool true] 44 ∧ (((((((w2.setCell ⟨nb, 0, none⟩ (sV yn)).setCell ⟨nb, 6, none⟩ (.int .i64 d.k)).setCell ⟨nb, 7, none⟩ (.int .i64 d.n)).setCell ⟨nb, 8, none⟩ (sV d.s)).setCell ⟨nb, 9, none⟩ (.slice d.la d.ln d.lc)).setCell ⟨nb, 10, none⟩ (.slice d.fa d.fn d.fc)).setCell ⟨nb, 12, none⟩ (.bool true)).drew.ownsRow w.heap.size 44 13 (.slice ar D.length cr) D.length (cs.flatMap PC.cells) from ⟨below_drew (below_set (below_set (below_set (below_set (below_set (below_set (below_set HS2.out.1 hnb (i := 0) (sV yn)) hnb (i := 6) (.int .i64 d.k)) hnb (i := 7) (.int .i64 d.n)) hnb (i := 8) (sV d.s)) hnb (i := 9) (.slice d.la d.ln d.lc)) hnb (i := 10) (.slice d.fa d.fn d.fc)) hnb (i := 12) (.bool true)), Own.drew (((((((HS2.out.2.1.set 0 (sV yn)).set 6 (.int .i64 d.k)).set 7 (.int .i64 d.n)).set 8 (sV d.s)).set 9 (.slice d.la d.ln d.lc)).set 10 (.slice d.fa d.fn d.fc)).set 12 (.bool true)), row_drew (row_setN (row_setN (row_setN (row_setN (row_setN (row_setN (row_setN HS2.out.2.2 hnr (0) (sV yn)) hnr (6) (.int .i64 d.k)) hnr (7) (.int .i64 d.n)) hnr (8) (sV d.s)) hnr (9) (.slice d.la d.ln d.lc)) hnr (10) (.slice d.fa d.fn d.fc)) hnr (12) (.bool true))⟩)
          go_upto_region 9 with (fail)
          go_region
          clear u0 v0 u6 v6 u7 v7 u8 v8 u9 v9 u10 v10 u12 v12 qn q0 q1 q2 q3 q4 HS2
          go_upto_region 11 with (fail)
          change Code.wp Try.prog _ _ _ (((((((w2.setCell ⟨nb, 0, none⟩ (sV yn)).setCell ⟨nb, 6, none⟩ (.int .i64 d.k)).setCell ⟨nb, 7, none⟩ (.int .i64 d.n)).setCell ⟨nb, 8, none⟩ (sV d.s)).setCell ⟨nb, 9, none⟩ (.slice d.la d.ln d.lc)).setCell ⟨nb, 10, none⟩ (.slice d.fa d.fn d.fc)).setCell ⟨nb, 12, none⟩ (.bool true)).drew
          generalize (((((((w2.setCell ⟨nb, 0, none⟩ (sV yn)).setCell ⟨nb, 6, none⟩ (.int .i64 d.k)).setCell ⟨nb, 7, none⟩ (.int .i64 d.n)).setCell ⟨nb, 8, none⟩ (sV d.s)).setCell ⟨nb, 9, none⟩ (.slice d.la d.ln d.lc)).setCell ⟨nb, 10, none⟩ (.slice d.fa d.fn d.fc)).setCell ⟨nb, 12, none⟩ (.bool true)).drew = w4 at *
          have HPC := Lib.hid (show PrOk w0 ⟨yn, VC0, d, false, true⟩ (yn, (none, some yt)) from ⟨rfl, rfl, rfl, (is_vc0 w0), HIB.out⟩)
          have z0 := HS4.out.2.1.cell (i := 0) rfl
          have z1 := HS4.out.2.1.cell (i := 1) rfl
          have z2 := HS4.out.2.1.cell (i := 2) rfl
          have z3 := HS4.out.2.1.cell (i := 3) rfl
          have z4 := HS4.out.2.1.cell (i := 4) rfl
          have z5 := HS4.out.2.1.cell (i := 5) rfl
          have z6 := HS4.out.2.1.cell (i := 6) rfl
          have z7 := HS4.out.2.1.cell (i := 7) rfl
          have z8 := HS4.out.2.1.cell (i := 8) rfl
          have z9 := HS4.out.2.1.cell (i := 9) rfl
          have z10 := HS4.out.2.1.cell (i := 10) rfl
          have z11 := HS4.out.2.1.cell (i := 11) rfl
          have z12 := HS4.out.2.1.cell (i := 12) rfl
          have hsz5 := HS4.out.2.1.lt
          have hbl5 := HS4.out.1.size
          have hrow5 := HS4.out.2.2
          have hDl := HDL.out
          go_upto_region 2 with (first | (at_builtin; refine wpList_append_own _ rfl (.tmp 49) (.tmp 51) 40 rfl w.heap.size 44 i44 (.agg #[.string ⟨#[]⟩, .int .i64 0, .int .i64 0, .string ⟨#[]⟩, .slice none 0 0, .slice none 0 0, .int .i64 0, .int .i64 0, .string ⟨#[]⟩, .slice none 0 0, .slice none 0 0, .bool false, .bool false]) 13 184 Try.underlying40 hi44 hz44 hs44 hy44 rfl (by decide) _ _ _ rfl (hrow5.alloc _) ⟨w4.heap.size, 0, none⟩ 1 1 (PC.cells ⟨yn, VC0, d, false, true⟩) rfl rfl (own_src (Own.new _ _ _)) (PC.one ⟨yn, VC0, d, false, true⟩) (by unfold maxLen; omega) (by omega) (by simp; omega) ?_; intro v6 w6 hown6 hgrow6 hnil6))
          have hb6 := below_rowq (HS4.out.1.alloc HS4.out.1.size (.cells #[sV yn, .int .i64 0, .int .i64 0, .string ⟨#[]⟩, .slice none 0 0, .slice none 0 0, .int .i64 d.k, .int .i64 d.n, sV d.s, .slice d.la d.ln d.lc, .slice d.fa d.fn d.fc, .bool false, .bool true] 44)) hgrow6 (fun k hk => by have := own_row hrow5 k hk; omega)
          obtain ⟨ao6, cap6, hu6, -, -, -⟩ := (Flat.of_own hown6).out
          subst hu6
          rw [← snocP] at hown6
          have HEND := Lib.hid (And.intro hb6 (And.intro hown6 (And.intro (show (cs ++ [(⟨yn, VC0, d, false, true⟩ : PC)]).length = (D ++ [((yn, (none, some yt)) : Pq)]).length by simp [HCS.out]) (prOk_snoc HCS.out HPK.out HPC.out))))
          clear z0 z1 z2 z3 z4 z5 z6 z7 z8 z9 z10 z11 z12 hgrow6 hnil6 hown6 hb6 hrow5
          go_roundg (([] : List (Str × T)).length + B1.length)
          case measure => have := HG.out; simp at this ⊢; omega
          case rel => exact ⟨([] : List (Str × T)), B1, D ++ [(yn, (none, some yt))], cs ++ [⟨yn, VC0, d, false, true⟩], aa, ca, (some ⟨b2, off2 + 6, none⟩), (cb - 1), _, rfl, rfl, rfl, HFN, HEND.out.1, by rw [List.length_append]; exact HEND.out.2.1, Lib.hid HEND.out.2.2.1, Lib.hid HEND.out.2.2.2, HPN⟩
    | cons x A1 =>
      obtain ⟨xn, xt⟩ := x
      obtain ⟨b, off, c, eaa, hbl, hIx, k0, k1, k2, k3, k4, k5⟩ := (HF.out.1).at (Below.refl _ _) (i := 0) rfl
      cases eaa
      have hHTA := (HF.out.1).tailIf
      simp only [Nat.zero_mul, Nat.add_zero] at k0 k1 k2 k3 k4 k5
      have HEA : Hid (∀ W : World, Below w0.heap.size w0 W → W.cell? ⟨b, off, none⟩ = some (sV xn) ∧ W.cell? ⟨b, off + 1, none⟩ = some (.int .i64 c.k) ∧ W.cell? ⟨b, off + 2, none⟩ = some (.int .i64 c.n) ∧ W.cell? ⟨b, off + 3, none⟩ = some (sV c.s) ∧ W.cell? ⟨b, off + 4, none⟩ = some (.slice c.la c.ln c.lc) ∧ W.cell? ⟨b, off + 5, none⟩ = some (.slice c.fa c.fn c.fc)) := Lib.hid (fun W hb => ⟨(hb.cell (p := ⟨b, off, none⟩) hbl).trans k0, (hb.cell (p := ⟨b, off + 1, none⟩) hbl).trans k1, (hb.cell (p := ⟨b, off + 2, none⟩) hbl).trans k2, (hb.cell (p := ⟨b, off + 3, none⟩) hbl).trans k3, (hb.cell (p := ⟨b, off + 4, none⟩) hbl).trans k4, (hb.cell (p := ⟨b, off + 5, none⟩) hbl).trans k5⟩)
      have HIA := Lib.hid hIx
      have HTA := Lib.hid hHTA
      clear hHTA k0 k1 k2 k3 k4 k5 hIx
      cases B' with
      | nil =>
        obtain ⟨mm, HPN⟩ : ∃ m, Hid (A1.length + ([] : List (Str × T)).length ≤ m ∧ prs (A.length + B.length) A B = (D ++ [(xn, (some xt, none))]) ++ prs m A1 ([] : List (Str × T))) := by
          obtain ⟨h1, h2⟩ := HPR.out
          cases n with
          | zero => simp at h1
          | succ m => exact ⟨m, Lib.hid ⟨by simp at h1 ⊢; omega, by rw [h2, prs_nilR]; simp⟩⟩
        by_cases h1a : ca = 1
        · subst h1a
          have HFN := Lib.hid (And.intro (show Flds w0 (.slice (some ⟨b, off, none⟩) A1.length 0) A1 from by simpa using HTA.out) HF.out.2)
          have hbA := below_all hb (below_alloc wr (.cells #[.string ⟨#[]⟩, .int .i64 0, .int .i64 0, .string ⟨#[]⟩, .slice none 0 0, .slice none 0 0, .int .i64 0, .int .i64 0, .string ⟨#[]⟩, .slice none 0 0, .slice none 0 0, .bool false, .bool false] 44))
          have hnb : w.heap.size ≤ wr.heap.size := hb.size
          have hnr : ¬ (Value.slice ar D.length cr).ownBlock = some wr.heap.size := fun e => by have := (hrow.lt _ e).2; omega
          have HS := Lib.hid (show Below w.heap.size w (wr.alloc (.cells #[.string ⟨#[]⟩, .int .i64 0, .int .i64 0, .string ⟨#[]⟩, .slice none 0 0, .slice none 0 0, .int .i64 0, .int .i64 0, .string ⟨#[]⟩, .slice none 0 0, .slice none 0 0, .bool false, .bool false] 44)) ∧ Own (wr.alloc (.cells #[.string ⟨#[]⟩, .int .i64 0, .int .i64 0, .string ⟨#[]⟩, .slice none 0 0, .slice none 0 0, .int .i64 0, .int .i64 0, .string ⟨#[]⟩, .slice none 0 0, .slice none 0 0, .bool false, .bool false] 44)) wr.heap.size [.string ⟨#[]⟩, .int .i64 0, .int .i64 0, .string ⟨#[]⟩, .slice none 0 0, .slice none 0 0, .int .i64 0, .int .i64 0, .string ⟨#[]⟩, .slice none 0 0, .slice none 0 0, .bool false, .bool false] 44 ∧ (wr.alloc (.cells #[.string ⟨#[]⟩, .int .i64 0, .int .i64 0, .string ⟨#[]⟩, .slice none 0 0, .slice none 0 0, .int .i64 0, .int .i64 0, .string ⟨#[]⟩, .slice none 0 0, .slice none 0 0, .bool false, .bool false] 44)).ownsRow w.heap.size 44 13 (.slice ar D.length cr) D.length (cs.flatMap PC.cells) from ⟨hbA, Own.new _ _ _, hrow.alloc _⟩)
          have C := Lib.hid (nextSide_any _ _ _ _ (wr.alloc (.cells #[.string ⟨#[]⟩, .int .i64 0, .int .i64 0, .string ⟨#[]⟩, .slice none 0 0, .slice none 0 0, .int .i64 0, .int .i64 0, .string ⟨#[]⟩, .slice none 0 0, .slice none 0 0, .bool false, .bool false] 44)) (HF.out.1.all (below_all H0.out.1 hbA)) (HF.out.2.all (below_all H0.out.1 hbA)))
          rw [show sideP ((xn, xt) :: A1) [] = -1 from rfl] at C
          clear hbA hrow hb
          go_upto_region 4 with (fail)
          change Code.wp Try.prog _ _ _ (wr.alloc (.cells #[.string ⟨#[]⟩, .int .i64 0, .int .i64 0, .string ⟨#[]⟩, .slice none 0 0, .slice none 0 0, .int .i64 0, .int .i64 0, .string ⟨#[]⟩, .slice none 0 0, .slice none 0 0, .bool false, .bool false] 44))
          generalize wr.alloc (.cells #[.string ⟨#[]⟩, .int .i64 0, .int .i64 0, .string ⟨#[]⟩, .slice none 0 0, .slice none 0 0, .int .i64 0, .int .i64 0, .string ⟨#[]⟩, .slice none 0 0, .slice none 0 0, .bool false, .bool false] 44) = V at *
          generalize wr.heap.size = nb at *
          go_wp2_with fail
          refine C.out.mono ?_
          rintro e w2 ⟨rfl, hb2⟩
          have HS2 := Lib.hid (show Below w.heap.size w w2 ∧ Own w2 nb [.string ⟨#[]⟩, .int .i64 0, .int .i64 0, .string ⟨#[]⟩, .slice none 0 0, .slice none 0 0, .int .i64 0, .int .i64 0, .string ⟨#[]⟩, .slice none 0 0, .slice none 0 0, .bool false, .bool false] 44 ∧ w2.ownsRow w.heap.size 44 13 (.slice ar D.length cr) D.length (cs.flatMap PC.cells) from ⟨below_all HS.out.1 hb2, HS.out.2.1.all hb2, own_below HS.out.2.2 hb2⟩)
          clear C hb2 HS HF
          have u0 := HS2.out.2.1.cell (i := 0) rfl
          have u1 := HS2.out.2.1.cell (i := 1) rfl
          have u2 := HS2.out.2.1.cell (i := 2) rfl
          have u3 := HS2.out.2.1.cell (i := 3) rfl
          have u4 := HS2.out.2.1.cell (i := 4) rfl
          have u5 := HS2.out.2.1.cell (i := 5) rfl
          have u11 := HS2.out.2.1.cell (i := 11) rfl
          have v0 := HS2.out.2.1.frozen 0
          have v1 := HS2.out.2.1.frozen 1
          have v2 := HS2.out.2.1.frozen 2
          have v3 := HS2.out.2.1.frozen 3
          have v4 := HS2.out.2.1.frozen 4
          have v5 := HS2.out.2.1.frozen 5
          have v11 := HS2.out.2.1.frozen 11
          obtain ⟨pn, p0, p1, p2, p3, p4⟩ := HEA.out _ (below_all H0.out.1 HS2.out.1)
          have HS3 := Lib.hid (show Below w.heap.size w (((((((w2.setCell ⟨nb, 0, none⟩ (sV xn)).setCell ⟨nb, 1, none⟩ (.int .i64 c.k)).setCell ⟨nb, 2, none⟩ (.int .i64 c.n)).setCell ⟨nb, 3, none⟩ (sV c.s)).setCell ⟨nb, 4, none⟩ (.slice c.la c.ln c.lc)).setCell ⟨nb, 5, none⟩ (.slice c.fa c.fn c.fc)).setCell ⟨nb, 11, none⟩ (.bool true)).drew ∧ Own (((((((w2.setCell ⟨nb, 0, none⟩ (sV xn)).setCell ⟨nb, 1, none⟩ (.int .i64 c.k)).setCell ⟨nb, 2, none⟩ (.int .i64 c.n)).setCell ⟨nb, 3, none⟩ (sV c.s)).setCell ⟨nb, 4, none⟩ (.slice c.la c.ln c.lc)).setCell ⟨nb, 5, none⟩ (.slice c.fa c.fn c.fc)).setCell ⟨nb, 11, none⟩ (.bool true)).drew nb [sV xn, .int .i64 c.k, .int .i64 c.n, sV c.s, .slice c.la c.ln c.lc, .slice c.fa c.fn c.fc, .int .i64 0, .int .i64 0, .string ⟨#[]⟩, .slice none 0 0, .slice none 0 0, .bool true, .bool false] 44 ∧ (((((((w2.setCell ⟨nb, 0, none⟩ (sV xn)).setCell ⟨nb, 1, none⟩ (.int .i64 c.k)).setCell ⟨nb, 2, none⟩ (.int .i64 c.n)).setCell ⟨nb, 3, none⟩ (sV c.s)).setCell ⟨nb, 4, none⟩ (.slice c.la c.ln c.lc)).setCell ⟨nb, 5, none⟩ (.slice c.fa c.fn c.fc)).setCell ⟨nb, 11, none⟩ (.bool true)).drew.ownsRow w.heap.size 44 13 (.slice ar D.length cr) D.length (cs.flatMap PC.cells) from ⟨below_drew (below_set (below_set (below_set (below_set (below_set (below_set (below_set HS2.out.1 hnb (i := 0) (sV xn)) hnb (i := 1) (.int .i64 c.k)) hnb (i := 2) (.int .i64 c.n)) hnb (i := 3) (sV c.s)) hnb (i := 4) (.slice c.la c.ln c.lc)) hnb (i := 5) (.slice c.fa c.fn c.fc)) hnb (i := 11) (.bool true)), Own.drew (((((((HS2.out.2.1.set 0 (sV xn)).set 1 (.int .i64 c.k)).set 2 (.int .i64 c.n)).set 3 (sV c.s)).set 4 (.slice c.la c.ln c.lc)).set 5 (.slice c.fa c.fn c.fc)).set 11 (.bool true)), row_drew (row_setN (row_setN (row_setN (row_setN (row_setN (row_setN (row_setN HS2.out.2.2 hnr (0) (sV xn)) hnr (1) (.int .i64 c.k)) hnr (2) (.int .i64 c.n)) hnr (3) (sV c.s)) hnr (4) (.slice c.la c.ln c.lc)) hnr (5) (.slice c.fa c.fn c.fc)) hnr (11) (.bool true))⟩)
          go_upto_region 6 with (fail)
          go_region
          clear u0 v0 u1 v1 u2 v2 u3 v3 u4 v4 u5 v5 u11 v11 pn p0 p1 p2 p3 p4 HS2
          go_upto_region 8 with (fail)
          change Code.wp Try.prog _ _ _ (((((((w2.setCell ⟨nb, 0, none⟩ (sV xn)).setCell ⟨nb, 1, none⟩ (.int .i64 c.k)).setCell ⟨nb, 2, none⟩ (.int .i64 c.n)).setCell ⟨nb, 3, none⟩ (sV c.s)).setCell ⟨nb, 4, none⟩ (.slice c.la c.ln c.lc)).setCell ⟨nb, 5, none⟩ (.slice c.fa c.fn c.fc)).setCell ⟨nb, 11, none⟩ (.bool true)).drew
          generalize (((((((w2.setCell ⟨nb, 0, none⟩ (sV xn)).setCell ⟨nb, 1, none⟩ (.int .i64 c.k)).setCell ⟨nb, 2, none⟩ (.int .i64 c.n)).setCell ⟨nb, 3, none⟩ (sV c.s)).setCell ⟨nb, 4, none⟩ (.slice c.la c.ln c.lc)).setCell ⟨nb, 5, none⟩ (.slice c.fa c.fn c.fc)).setCell ⟨nb, 11, none⟩ (.bool true)).drew = w3 at *
          have HPC := Lib.hid (show PrOk w0 ⟨xn, c, VC0, true, false⟩ (xn, (some xt, none)) from ⟨rfl, rfl, rfl, HIA.out, (is_vc0 w0)⟩)
          have z0 := HS3.out.2.1.cell (i := 0) rfl
          have z1 := HS3.out.2.1.cell (i := 1) rfl
          have z2 := HS3.out.2.1.cell (i := 2) rfl
          have z3 := HS3.out.2.1.cell (i := 3) rfl
          have z4 := HS3.out.2.1.cell (i := 4) rfl
          have z5 := HS3.out.2.1.cell (i := 5) rfl
          have z6 := HS3.out.2.1.cell (i := 6) rfl
          have z7 := HS3.out.2.1.cell (i := 7) rfl
          have z8 := HS3.out.2.1.cell (i := 8) rfl
          have z9 := HS3.out.2.1.cell (i := 9) rfl
          have z10 := HS3.out.2.1.cell (i := 10) rfl
          have z11 := HS3.out.2.1.cell (i := 11) rfl
          have z12 := HS3.out.2.1.cell (i := 12) rfl
          have hsz5 := HS3.out.2.1.lt
          have hbl5 := HS3.out.1.size
          have hrow5 := HS3.out.2.2
          have hDl := HDL.out
          go_upto_region 2 with (first | (at_builtin; refine wpList_append_own _ rfl (.tmp 49) (.tmp 51) 40 rfl w.heap.size 44 i44 (.agg #[.string ⟨#[]⟩, .int .i64 0, .int .i64 0, .string ⟨#[]⟩, .slice none 0 0, .slice none 0 0, .int .i64 0, .int .i64 0, .string ⟨#[]⟩, .slice none 0 0, .slice none 0 0, .bool false, .bool false]) 13 184 Try.underlying40 hi44 hz44 hs44 hy44 rfl (by decide) _ _ _ rfl (hrow5.alloc _) ⟨w3.heap.size, 0, none⟩ 1 1 (PC.cells ⟨xn, c, VC0, true, false⟩) rfl rfl (own_src (Own.new _ _ _)) (PC.one ⟨xn, c, VC0, true, false⟩) (by unfold maxLen; omega) (by omega) (by simp; omega) ?_; intro v6 w6 hown6 hgrow6 hnil6))
          have hb6 := below_rowq (HS3.out.1.alloc HS3.out.1.size (.cells #[sV xn, .int .i64 c.k, .int .i64 c.n, sV c.s, .slice c.la c.ln c.lc, .slice c.fa c.fn c.fc, .int .i64 0, .int .i64 0, .string ⟨#[]⟩, .slice none 0 0, .slice none 0 0, .bool true, .bool false] 44)) hgrow6 (fun k hk => by have := own_row hrow5 k hk; omega)
          obtain ⟨ao6, cap6, hu6, -, -, -⟩ := (Flat.of_own hown6).out
          subst hu6
          rw [← snocP] at hown6
          have HEND := Lib.hid (And.intro hb6 (And.intro hown6 (And.intro (show (cs ++ [(⟨xn, c, VC0, true, false⟩ : PC)]).length = (D ++ [((xn, (some xt, none)) : Pq)]).length by simp [HCS.out]) (prOk_snoc HCS.out HPK.out HPC.out))))
          clear z0 z1 z2 z3 z4 z5 z6 z7 z8 z9 z10 z11 z12 hgrow6 hnil6 hown6 hb6 hrow5
          go_roundg (A1.length + ([] : List (Str × T)).length)
          case measure => have := HG.out; simp at this ⊢; omega
          case rel => exact ⟨A1, ([] : List (Str × T)), D ++ [(xn, (some xt, none))], cs ++ [⟨xn, c, VC0, true, false⟩], (some ⟨b, off, none⟩), 0, ab, cb, _, rfl, rfl, rfl, HFN, HEND.out.1, by rw [List.length_append]; exact HEND.out.2.1, Lib.hid HEND.out.2.2.1, Lib.hid HEND.out.2.2.2, HPN⟩
        · have HFN := Lib.hid (And.intro (show Flds w0 (.slice (some ⟨b, off + 6, none⟩) A1.length (ca - 1)) A1 from by simpa [h1a] using HTA.out) HF.out.2)
          have hbA := below_all hb (below_alloc wr (.cells #[.string ⟨#[]⟩, .int .i64 0, .int .i64 0, .string ⟨#[]⟩, .slice none 0 0, .slice none 0 0, .int .i64 0, .int .i64 0, .string ⟨#[]⟩, .slice none 0 0, .slice none 0 0, .bool false, .bool false] 44))
          have hnb : w.heap.size ≤ wr.heap.size := hb.size
          have hnr : ¬ (Value.slice ar D.length cr).ownBlock = some wr.heap.size := fun e => by have := (hrow.lt _ e).2; omega
          have HS := Lib.hid (show Below w.heap.size w (wr.alloc (.cells #[.string ⟨#[]⟩, .int .i64 0, .int .i64 0, .string ⟨#[]⟩, .slice none 0 0, .slice none 0 0, .int .i64 0, .int .i64 0, .string ⟨#[]⟩, .slice none 0 0, .slice none 0 0, .bool false, .bool false] 44)) ∧ Own (wr.alloc (.cells #[.string ⟨#[]⟩, .int .i64 0, .int .i64 0, .string ⟨#[]⟩, .slice none 0 0, .slice none 0 0, .int .i64 0, .int .i64 0, .string ⟨#[]⟩, .slice none 0 0, .slice none 0 0, .bool false, .bool false] 44)) wr.heap.size [.string ⟨#[]⟩, .int .i64 0, .int .i64 0, .string ⟨#[]⟩, .slice none 0 0, .slice none 0 0, .int .i64 0, .int .i64 0, .string ⟨#[]⟩, .slice none 0 0, .slice none 0 0, .bool false, .bool false] 44 ∧ (wr.alloc (.cells #[.string ⟨#[]⟩, .int .i64 0, .int .i64 0, .string ⟨#[]⟩, .slice none 0 0, .slice none 0 0, .int .i64 0, .int .i64 0, .string ⟨#[]⟩, .slice none 0 0, .slice none 0 0, .bool false, .bool false] 44)).ownsRow w.heap.size 44 13 (.slice ar D.length cr) D.length (cs.flatMap PC.cells) from ⟨hbA, Own.new _ _ _, hrow.alloc _⟩)
          have C := Lib.hid (nextSide_any _ _ _ _ (wr.alloc (.cells #[.string ⟨#[]⟩, .int .i64 0, .int .i64 0, .string ⟨#[]⟩, .slice none 0 0, .slice none 0 0, .int .i64 0, .int .i64 0, .string ⟨#[]⟩, .slice none 0 0, .slice none 0 0, .bool false, .bool false] 44)) (HF.out.1.all (below_all H0.out.1 hbA)) (HF.out.2.all (below_all H0.out.1 hbA)))
          rw [show sideP ((xn, xt) :: A1) [] = -1 from rfl] at C
          clear hbA hrow hb
          go_upto_region 4 with (fail)
          change Code.wp Try.prog _ _ _ (wr.alloc (.cells #[.string ⟨#[]⟩, .int .i64 0, .int .i64 0, .string ⟨#[]⟩, .slice none 0 0, .slice none 0 0, .int .i64 0, .int .i64 0, .string ⟨#[]⟩, .slice none 0 0, .slice none 0 0, .bool false, .bool false] 44))
          generalize wr.alloc (.cells #[.string ⟨#[]⟩, .int .i64 0, .int .i64 0, .string ⟨#[]⟩, .slice none 0 0, .slice none 0 0, .int .i64 0, .int .i64 0, .string ⟨#[]⟩, .slice none 0 0, .slice none 0 0, .bool false, .bool false] 44) = V at *
          generalize wr.heap.size = nb at *
          go_wp2_with fail
          refine C.out.mono ?_
          rintro e w2 ⟨rfl, hb2⟩
          have HS2 := Lib.hid (show Below w.heap.size w w2 ∧ Own w2 nb [.string ⟨#[]⟩, .int .i64 0, .int .i64 0, .string ⟨#[]⟩, .slice none 0 0, .slice none 0 0, .int .i64 0, .int .i64 0, .string ⟨#[]⟩, .slice none 0 0, .slice none 0 0, .bool false, .bool false] 44 ∧ w2.ownsRow w.heap.size 44 13 (.slice ar D.length cr) D.length (cs.flatMap PC.cells) from ⟨below_all HS.out.1 hb2, HS.out.2.1.all hb2, own_below HS.out.2.2 hb2⟩)
          clear C hb2 HS HF
          have u0 := HS2.out.2.1.cell (i := 0) rfl
          have u1 := HS2.out.2.1.cell (i := 1) rfl
          have u2 := HS2.out.2.1.cell (i := 2) rfl
          have u3 := HS2.out.2.1.cell (i := 3) rfl
          have u4 := HS2.out.2.1.cell (i := 4) rfl
          have u5 := HS2.out.2.1.cell (i := 5) rfl
          have u11 := HS2.out.2.1.cell (i := 11) rfl
          have v0 := HS2.out.2.1.frozen 0
          have v1 := HS2.out.2.1.frozen 1
          have v2 := HS2.out.2.1.frozen 2
          have v3 := HS2.out.2.1.frozen 3
          have v4 := HS2.out.2.1.frozen 4
          have v5 := HS2.out.2.1.frozen 5
          have v11 := HS2.out.2.1.frozen 11
          obtain ⟨pn, p0, p1, p2, p3, p4⟩ := HEA.out _ (below_all H0.out.1 HS2.out.1)
          have HS3 := Lib.hid (show Below w.heap.size w (((((((w2.setCell ⟨nb, 0, none⟩ (sV xn)).setCell ⟨nb, 1, none⟩ (.int .i64 c.k)).setCell ⟨nb, 2, none⟩ (.int .i64 c.n)).setCell ⟨nb, 3, none⟩ (sV c.s)).setCell ⟨nb, 4, none⟩ (.slice c.la c.ln c.lc)).setCell ⟨nb, 5, none⟩ (.slice c.fa c.fn c.fc)).setCell ⟨nb, 11, none⟩ (.bool true)).drew ∧ Own (((((((w2.setCell ⟨nb, 0, none⟩ (sV xn)).setCell ⟨nb, 1, none⟩ (.int .i64 c.k)).setCell ⟨nb, 2, none⟩ (.int .i64 c.n)).setCell ⟨nb, 3, none⟩ (sV c.s)).setCell ⟨nb, 4, none⟩ (.slice c.la c.ln c.lc)).setCell ⟨nb, 5, none⟩ (.slice c.fa c.fn c.fc)).setCell ⟨nb, 11, none⟩ (.bool true)).drew nb [sV xn, .int .i64 c.k, .int .i64 c.n, sV c.s, .slice c.la c.ln c.lc, .slice c.fa c.fn c.fc, .int .i64 0, .int .i64 0, .string ⟨#[]⟩, .slice none 0 0, .slice none 0 0, .bool true, .bool false] 44 ∧ (((((((w2.setCell ⟨nb, 0, none⟩ (sV xn)).setCell ⟨nb, 1, none⟩ (.int .i64 c.k)).setCell ⟨nb, 2, none⟩ (.int .i64 c.n)).setCell ⟨nb, 3, none⟩ (sV c.s)).setCell ⟨nb, 4, none⟩ (.slice c.la c.ln c.lc)).setCell ⟨nb, 5, none⟩ (.slice c.fa c.fn c.fc)).setCell ⟨nb, 11, none⟩ (.bool true)).drew.ownsRow w.heap.size 44 13 (.slice ar D.length cr) D.length (cs.flatMap PC.cells) from ⟨below_drew (below_set (below_set (below_set (below_set (below_set (below_set (below_set HS2.out.1 hnb (i := 0) (sV xn)) hnb (i := 1) (.int .i64 c.k)) hnb (i := 2) (.int .i64 c.n)) hnb (i := 3) (sV c.s)) hnb (i := 4) (.slice c.la c.ln c.lc)) hnb (i := 5) (.slice c.fa c.fn c.fc)) hnb (i := 11) (.bool true)), Own.drew (((((((HS2.out.2.1.set 0 (sV xn)).set 1 (.int .i64 c.k)).set 2 (.int .i64 c.n)).set 3 (sV c.s)).set 4 (.slice c.la c.ln c.lc)).set 5 (.slice c.fa c.fn c.fc)).set 11 (.bool true)), row_drew (row_setN (row_setN (row_setN (row_setN (row_setN (row_setN (row_setN HS2.out.2.2 hnr (0) (sV xn)) hnr (1) (.int .i64 c.k)) hnr (2) (.int .i64 c.n)) hnr (3) (sV c.s)) hnr (4) (.slice c.la c.ln c.lc)) hnr (5) (.slice c.fa c.fn c.fc)) hnr (11) (.bool true))⟩)
          go_upto_region 6 with (fail)
          go_region
          clear u0 v0 u1 v1 u2 v2 u3 v3 u4 v4 u5 v5 u11 v11 pn p0 p1 p2 p3 p4 HS2
          go_upto_region 8 with (fail)
          change Code.wp Try.prog _ _ _ (((((((w2.setCell ⟨nb, 0, none⟩ (sV xn)).setCell ⟨nb, 1, none⟩ (.int .i64 c.k)).setCell ⟨nb, 2, none⟩ (.int .i64 c.n)).setCell ⟨nb, 3, none⟩ (sV c.s)).setCell ⟨nb, 4, none⟩ (.slice c.la c.ln c.lc)).setCell ⟨nb, 5, none⟩ (.slice c.fa c.fn c.fc)).setCell ⟨nb, 11, none⟩ (.bool true)).drew
          generalize (((((((w2.setCell ⟨nb, 0, none⟩ (sV xn)).setCell ⟨nb, 1, none⟩ (.int .i64 c.k)).setCell ⟨nb, 2, none⟩ (.int .i64 c.n)).setCell ⟨nb, 3, none⟩ (sV c.s)).setCell ⟨nb, 4, none⟩ (.slice c.la c.ln c.lc)).setCell ⟨nb, 5, none⟩ (.slice c.fa c.fn c.fc)).setCell ⟨nb, 11, none⟩ (.bool true)).drew = w3 at *
          have HPC := Lib.hid (show PrOk w0 ⟨xn, c, VC0, true, false⟩ (xn, (some xt, none)) from ⟨rfl, rfl, rfl, HIA.out, (is_vc0 w0)⟩)
          have z0 := HS3.out.2.1.cell (i := 0) rfl
          have z1 := HS3.out.2.1.cell (i := 1) rfl
          have z2 := HS3.out.2.1.cell (i := 2) rfl
          have z3 := HS3.out.2.1.cell (i := 3) rfl
          have z4 := HS3.out.2.1.cell (i := 4) rfl
          have z5 := HS3.out.2.1.cell (i := 5) rfl
          have z6 := HS3.out.2.1.cell (i := 6) rfl
          have z7 := HS3.out.2.1.cell (i := 7) rfl
          have z8 := HS3.out.2.1.cell (i := 8) rfl
          have z9 := HS3.out.2.1.cell (i := 9) rfl
          have z10 := HS3.out.2.1.cell (i := 10) rfl
          have z11 := HS3.out.2.1.cell (i := 11) rfl
          have z12 := HS3.out.2.1.cell (i := 12) rfl
          have hsz5 := HS3.out.2.1.lt
          have hbl5 := HS3.out.1.size
          have hrow5 := HS3.out.2.2
          have hDl := HDL.out
          go_upto_region 2 with (first | (at_builtin; refine wpList_append_own _ rfl (.tmp 49) (.tmp 51) 40 rfl w.heap.size 44 i44 (.agg #[.string ⟨#[]⟩, .int .i64 0, .int .i64 0, .string ⟨#[]⟩, .slice none 0 0, .slice none 0 0, .int .i64 0, .int .i64 0, .string ⟨#[]⟩, .slice none 0 0, .slice none 0 0, .bool false, .bool false]) 13 184 Try.underlying40 hi44 hz44 hs44 hy44 rfl (by decide) _ _ _ rfl (hrow5.alloc _) ⟨w3.heap.size, 0, none⟩ 1 1 (PC.cells ⟨xn, c, VC0, true, false⟩) rfl rfl (own_src (Own.new _ _ _)) (PC.one ⟨xn, c, VC0, true, false⟩) (by unfold maxLen; omega) (by omega) (by simp; omega) ?_; intro v6 w6 hown6 hgrow6 hnil6))
          have hb6 := below_rowq (HS3.out.1.alloc HS3.out.1.size (.cells #[sV xn, .int .i64 c.k, .int .i64 c.n, sV c.s, .slice c.la c.ln c.lc, .slice c.fa c.fn c.fc, .int .i64 0, .int .i64 0, .string ⟨#[]⟩, .slice none 0 0, .slice none 0 0, .bool true, .bool false] 44)) hgrow6 (fun k hk => by have := own_row hrow5 k hk; omega)
          obtain ⟨ao6, cap6, hu6, -, -, -⟩ := (Flat.of_own hown6).out
          subst hu6
          rw [← snocP] at hown6
          have HEND := Lib.hid (And.intro hb6 (And.intro hown6 (And.intro (show (cs ++ [(⟨xn, c, VC0, true, false⟩ : PC)]).length = (D ++ [((xn, (some xt, none)) : Pq)]).length by simp [HCS.out]) (prOk_snoc HCS.out HPK.out HPC.out))))
          clear z0 z1 z2 z3 z4 z5 z6 z7 z8 z9 z10 z11 z12 hgrow6 hnil6 hown6 hb6 hrow5
          go_roundg (A1.length + ([] : List (Str × T)).length)
          case measure => have := HG.out; simp at this ⊢; omega
          case rel => exact ⟨A1, ([] : List (Str × T)), D ++ [(xn, (some xt, none))], cs ++ [⟨xn, c, VC0, true, false⟩], (some ⟨b, off + 6, none⟩), (ca - 1), ab, cb, _, rfl, rfl, rfl, HFN, HEND.out.1, by rw [List.length_append]; exact HEND.out.2.1, Lib.hid HEND.out.2.2.1, Lib.hid HEND.out.2.2.2, HPN⟩
      | cons y B1 =>
        obtain ⟨yn, yt⟩ := y
        obtain ⟨b2, off2, d, eab, hb2l, hIy, k0, k1, k2, k3, k4, k5⟩ := (HF.out.2).at (Below.refl _ _) (i := 0) rfl
        cases eab
        have hHTB := (HF.out.2).tailIf
        simp only [Nat.zero_mul, Nat.add_zero] at k0 k1 k2 k3 k4 k5
        have HEB : Hid (∀ W : World, Below w0.heap.size w0 W → W.cell? ⟨b2, off2, none⟩ = some (sV yn) ∧ W.cell? ⟨b2, off2 + 1, none⟩ = some (.int .i64 d.k) ∧ W.cell? ⟨b2, off2 + 2, none⟩ = some (.int .i64 d.n) ∧ W.cell? ⟨b2, off2 + 3, none⟩ = some (sV d.s) ∧ W.cell? ⟨b2, off2 + 4, none⟩ = some (.slice d.la d.ln d.lc) ∧ W.cell? ⟨b2, off2 + 5, none⟩ = some (.slice d.fa d.fn d.fc)) := Lib.hid (fun W hb => ⟨(hb.cell (p := ⟨b2, off2, none⟩) hb2l).trans k0, (hb.cell (p := ⟨b2, off2 + 1, none⟩) hb2l).trans k1, (hb.cell (p := ⟨b2, off2 + 2, none⟩) hb2l).trans k2, (hb.cell (p := ⟨b2, off2 + 3, none⟩) hb2l).trans k3, (hb.cell (p := ⟨b2, off2 + 4, none⟩) hb2l).trans k4, (hb.cell (p := ⟨b2, off2 + 5, none⟩) hb2l).trans k5⟩)
        have HIB := Lib.hid hIy
        have HTB := Lib.hid hHTB
        clear hHTB k0 k1 k2 k3 k4 k5 hIy
        rcases cmpS_tri xn yn with hc | hc | hc
        · obtain ⟨mm, HPN⟩ : ∃ m, Hid (A1.length + ((yn, yt) :: B1).length ≤ m ∧ prs (A.length + B.length) A B = (D ++ [(xn, (some xt, none))]) ++ prs m A1 ((yn, yt) :: B1)) := by
            obtain ⟨h1, h2⟩ := HPR.out
            cases n with
            | zero => simp at h1
            | succ m => exact ⟨m, Lib.hid ⟨by simp at h1 ⊢; omega, by rw [h2, prs_lt hc]; simp⟩⟩
          by_cases h1a : ca = 1
          · subst h1a
            have HFN := Lib.hid (And.intro (show Flds w0 (.slice (some ⟨b, off, none⟩) A1.length 0) A1 from by simpa using HTA.out) HF.out.2)
            have hbA := below_all hb (below_alloc wr (.cells #[.string ⟨#[]⟩, .int .i64 0, .int .i64 0, .string ⟨#[]⟩, .slice none 0 0, .slice none 0 0, .int .i64 0, .int .i64 0, .string ⟨#[]⟩, .slice none 0 0, .slice none 0 0, .bool false, .bool false] 44))
            have hnb : w.heap.size ≤ wr.heap.size := hb.size
            have hnr : ¬ (Value.slice ar D.length cr).ownBlock = some wr.heap.size := fun e => by have := (hrow.lt _ e).2; omega
            have HS := Lib.hid (show Below w.heap.size w (wr.alloc (.cells #[.string ⟨#[]⟩, .int .i64 0, .int .i64 0, .string ⟨#[]⟩, .slice none 0 0, .slice none 0 0, .int .i64 0, .int .i64 0, .string ⟨#[]⟩, .slice none 0 0, .slice none 0 0, .bool false, .bool false] 44)) ∧ Own (wr.alloc (.cells #[.string ⟨#[]⟩, .int .i64 0, .int .i64 0, .string ⟨#[]⟩, .slice none 0 0, .slice none 0 0, .int .i64 0, .int .i64 0, .string ⟨#[]⟩, .slice none 0 0, .slice none 0 0, .bool false, .bool false] 44)) wr.heap.size [.string ⟨#[]⟩, .int .i64 0, .int .i64 0, .string ⟨#[]⟩, .slice none 0 0, .slice none 0 0, .int .i64 0, .int .i64 0, .string ⟨#[]⟩, .slice none 0 0, .slice none 0 0, .bool false, .bool false] 44 ∧ (wr.alloc (.cells #[.string ⟨#[]⟩, .int .i64 0, .int .i64 0, .string ⟨#[]⟩, .slice none 0 0, .slice none 0 0, .int .i64 0, .int .i64 0, .string ⟨#[]⟩, .slice none 0 0, .slice none 0 0, .bool false, .bool false] 44)).ownsRow w.heap.size 44 13 (.slice ar D.length cr) D.length (cs.flatMap PC.cells) from ⟨hbA, Own.new _ _ _, hrow.alloc _⟩)
            have C := Lib.hid (nextSide_any _ _ _ _ (wr.alloc (.cells #[.string ⟨#[]⟩, .int .i64 0, .int .i64 0, .string ⟨#[]⟩, .slice none 0 0, .slice none 0 0, .int .i64 0, .int .i64 0, .string ⟨#[]⟩, .slice none 0 0, .slice none 0 0, .bool false, .bool false] 44)) (HF.out.1.all (below_all H0.out.1 hbA)) (HF.out.2.all (below_all H0.out.1 hbA)))
            rw [show sideP ((xn, xt) :: A1) ((yn, yt) :: B1) = -1 from hc] at C
            clear hbA hrow hb
            go_upto_region 4 with (fail)
            change Code.wp Try.prog _ _ _ (wr.alloc (.cells #[.string ⟨#[]⟩, .int .i64 0, .int .i64 0, .string ⟨#[]⟩, .slice none 0 0, .slice none 0 0, .int .i64 0, .int .i64 0, .string ⟨#[]⟩, .slice none 0 0, .slice none 0 0, .bool false, .bool false] 44))
            generalize wr.alloc (.cells #[.string ⟨#[]⟩, .int .i64 0, .int .i64 0, .string ⟨#[]⟩, .slice none 0 0, .slice none 0 0, .int .i64 0, .int .i64 0, .string ⟨#[]⟩, .slice none 0 0, .slice none 0 0, .bool false, .bool false] 44) = V at *
            generalize wr.heap.size = nb at *
            go_wp2_with fail
            refine C.out.mono ?_
            rintro e w2 ⟨rfl, hb2⟩
            have HS2 := Lib.hid (show Below w.heap.size w w2 ∧ Own w2 nb [.string ⟨#[]⟩, .int .i64 0, .int .i64 0, .string ⟨#[]⟩, .slice none 0 0, .slice none 0 0, .int .i64 0, .int .i64 0, .string ⟨#[]⟩, .slice none 0 0, .slice none 0 0, .bool false, .bool false] 44 ∧ w2.ownsRow w.heap.size 44 13 (.slice ar D.length cr) D.length (cs.flatMap PC.cells) from ⟨below_all HS.out.1 hb2, HS.out.2.1.all hb2, own_below HS.out.2.2 hb2⟩)
            clear C hb2 HS HF
            have u0 := HS2.out.2.1.cell (i := 0) rfl
            have u1 := HS2.out.2.1.cell (i := 1) rfl
            have u2 := HS2.out.2.1.cell (i := 2) rfl
            have u3 := HS2.out.2.1.cell (i := 3) rfl
            have u4 := HS2.out.2.1.cell (i := 4) rfl
            have u5 := HS2.out.2.1.cell (i := 5) rfl
            have u11 := HS2.out.2.1.cell (i := 11) rfl
            have v0 := HS2.out.2.1.frozen 0
            have v1 := HS2.out.2.1.frozen 1
            have v2 := HS2.out.2.1.frozen 2
            have v3 := HS2.out.2.1.frozen 3
            have v4 := HS2.out.2.1.frozen 4
            have v5 := HS2.out.2.1.frozen 5
            have v11 := HS2.out.2.1.frozen 11
            obtain ⟨pn, p0, p1, p2, p3, p4⟩ := HEA.out _ (below_all H0.out.1 HS2.out.1)
            have HS3 := Lib.hid (show Below w.heap.size w (((((((w2.setCell ⟨nb, 0, none⟩ (sV xn)).setCell ⟨nb, 1, none⟩ (.int .i64 c.k)).setCell ⟨nb, 2, none⟩ (.int .i64 c.n)).setCell ⟨nb, 3, none⟩ (sV c.s)).setCell ⟨nb, 4, none⟩ (.slice c.la c.ln c.lc)).setCell ⟨nb, 5, none⟩ (.slice c.fa c.fn c.fc)).setCell ⟨nb, 11, none⟩ (.bool true)).drew ∧ Own (((((((w2.setCell ⟨nb, 0, none⟩ (sV xn)).setCell ⟨nb, 1, none⟩ (.int .i64 c.k)).setCell ⟨nb, 2, none⟩ (.int .i64 c.n)).setCell ⟨nb, 3, none⟩ (sV c.s)).setCell ⟨nb, 4, none⟩ (.slice c.la c.ln c.lc)).setCell ⟨nb, 5, none⟩ (.slice c.fa c.fn c.fc)).setCell ⟨nb, 11, none⟩ (.bool true)).drew nb [sV xn, .int .i64 c.k, .int .i64 c.n, sV c.s, .slice c.la c.ln c.lc, .slice c.fa c.fn c.fc, .int .i64 0, .int .i64 0, .string ⟨#[]⟩, .slice none 0 0, .slice none 0 0, .bool true, .bool false] 44 ∧ (((((((w2.setCell ⟨nb, 0, none⟩ (sV xn)).setCell ⟨nb, 1, none⟩ (.int .i64 c.k)).setCell ⟨nb, 2, none⟩ (.int .i64 c.n)).setCell ⟨nb, 3, none⟩ (sV c.s)).setCell ⟨nb, 4, none⟩ (.slice c.la c.ln c.lc)).setCell ⟨nb, 5, none⟩ (.slice c.fa c.fn c.fc)).setCell ⟨nb, 11, none⟩ (.bool true)).drew.ownsRow w.heap.size 44 13 (.slice ar D.length cr) D.length (cs.flatMap PC.cells) from ⟨below_drew (below_set (below_set (below_set (below_set (below_set (below_set (below_set HS2.out.1 hnb (i := 0) (sV xn)) hnb (i := 1) (.int .i64 c.k)) hnb (i := 2) (.int .i64 c.n)) hnb (i := 3) (sV c.s)) hnb (i := 4) (.slice c.la c.ln c.lc)) hnb (i := 5) (.slice c.fa c.fn c.fc)) hnb (i := 11) (.bool true)), Own.drew (((((((HS2.out.2.1.set 0 (sV xn)).set 1 (.int .i64 c.k)).set 2 (.int .i64 c.n)).set 3 (sV c.s)).set 4 (.slice c.la c.ln c.lc)).set 5 (.slice c.fa c.fn c.fc)).set 11 (.bool true)), row_drew (row_setN (row_setN (row_setN (row_setN (row_setN (row_setN (row_setN HS2.out.2.2 hnr (0) (sV xn)) hnr (1) (.int .i64 c.k)) hnr (2) (.int .i64 c.n)) hnr (3) (sV c.s)) hnr (4) (.slice c.la c.ln c.lc)) hnr (5) (.slice c.fa c.fn c.fc)) hnr (11) (.bool true))⟩)
            go_upto_region 6 with (fail)
            go_region
            clear u0 v0 u1 v1 u2 v2 u3 v3 u4 v4 u5 v5 u11 v11 pn p0 p1 p2 p3 p4 HS2
            go_upto_region 8 with (fail)
            change Code.wp Try.prog _ _ _ (((((((w2.setCell ⟨nb, 0, none⟩ (sV xn)).setCell ⟨nb, 1, none⟩ (.int .i64 c.k)).setCell ⟨nb, 2, none⟩ (.int .i64 c.n)).setCell ⟨nb, 3, none⟩ (sV c.s)).setCell ⟨nb, 4, none⟩ (.slice c.la c.ln c.lc)).setCell ⟨nb, 5, none⟩ (.slice c.fa c.fn c.fc)).setCell ⟨nb, 11, none⟩ (.bool true)).drew
            generalize (((((((w2.setCell ⟨nb, 0, none⟩ (sV xn)).setCell ⟨nb, 1, none⟩ (.int .i64 c.k)).setCell ⟨nb, 2, none⟩ (.int .i64 c.n)).setCell ⟨nb, 3, none⟩ (sV c.s)).setCell ⟨nb, 4, none⟩ (.slice c.la c.ln c.lc)).setCell ⟨nb, 5, none⟩ (.slice c.fa c.fn c.fc)).setCell ⟨nb, 11, none⟩ (.bool true)).drew = w3 at *
            have HPC := Lib.hid (show PrOk w0 ⟨xn, c, VC0, true, false⟩ (xn, (some xt, none)) from ⟨rfl, rfl, rfl, HIA.out, (is_vc0 w0)⟩)
            have z0 := HS3.out.2.1.cell (i := 0) rfl
            have z1 := HS3.out.2.1.cell (i := 1) rfl
            have z2 := HS3.out.2.1.cell (i := 2) rfl
            have z3 := HS3.out.2.1.cell (i := 3) rfl
            have z4 := HS3.out.2.1.cell (i := 4) rfl
            have z5 := HS3.out.2.1.cell (i := 5) rfl
            have z6 := HS3.out.2.1.cell (i := 6) rfl
            have z7 := HS3.out.2.1.cell (i := 7) rfl
            have z8 := HS3.out.2.1.cell (i := 8) rfl
            have z9 := HS3.out.2.1.cell (i := 9) rfl
            have z10 := HS3.out.2.1.cell (i := 10) rfl
            have z11 := HS3.out.2.1.cell (i := 11) rfl
            have z12 := HS3.out.2.1.cell (i := 12) rfl
            have hsz5 := HS3.out.2.1.lt
            have hbl5 := HS3.out.1.size
            have hrow5 := HS3.out.2.2
            have hDl := HDL.out
            go_upto_region 2 with (first | (at_builtin; refine wpList_append_own _ rfl (.tmp 49) (.tmp 51) 40 rfl w.heap.size 44 i44 (.agg #[.string ⟨#[]⟩, .int .i64 0, .int .i64 0, .string ⟨#[]⟩, .slice none 0 0, .slice none 0 0, .int .i64 0, .int .i64 0, .string ⟨#[]⟩, .slice none 0 0, .slice none 0 0, .bool false, .bool false]) 13 184 Try.underlying40 hi44 hz44 hs44 hy44 rfl (by decide) _ _ _ rfl (hrow5.alloc _) ⟨w3.heap.size, 0, none⟩ 1 1 (PC.cells ⟨xn, c, VC0, true, false⟩) rfl rfl (own_src (Own.new _ _ _)) (PC.one ⟨xn, c, VC0, true, false⟩) (by unfold maxLen; omega) (by omega) (by simp; omega) ?_; intro v6 w6 hown6 hgrow6 hnil6))
            have hb6 := below_rowq (HS3.out.1.alloc HS3.out.1.size (.cells #[sV xn, .int .i64 c.k, .int .i64 c.n, sV c.s, .slice c.la c.ln c.lc, .slice c.fa c.fn c.fc, .int .i64 0, .int .i64 0, .string ⟨#[]⟩, .slice none 0 0, .slice none 0 0, .bool true, .bool false] 44)) hgrow6 (fun k hk => by have := own_row hrow5 k hk; omega)
            obtain ⟨ao6, cap6, hu6, -, -, -⟩ := (Flat.of_own hown6).out
            subst hu6
            rw [← snocP] at hown6
            have HEND := Lib.hid (And.intro hb6 (And.intro hown6 (And.intro (show (cs ++ [(⟨xn, c, VC0, true, false⟩ : PC)]).length = (D ++ [((xn, (some xt, none)) : Pq)]).length by simp [HCS.out]) (prOk_snoc HCS.out HPK.out HPC.out))))
            clear z0 z1 z2 z3 z4 z5 z6 z7 z8 z9 z10 z11 z12 hgrow6 hnil6 hown6 hb6 hrow5
            go_roundg (A1.length + ((yn, yt) :: B1).length)
            case measure => have := HG.out; simp at this ⊢; omega
            case rel => exact ⟨A1, ((yn, yt) :: B1), D ++ [(xn, (some xt, none))], cs ++ [⟨xn, c, VC0, true, false⟩], (some ⟨b, off, none⟩), 0, (some ⟨b2, off2, none⟩), cb, _, rfl, rfl, rfl, HFN, HEND.out.1, by rw [List.length_append]; exact HEND.out.2.1, Lib.hid HEND.out.2.2.1, Lib.hid HEND.out.2.2.2, HPN⟩
          · have HFN := Lib.hid (And.intro (show Flds w0 (.slice (some ⟨b, off + 6, none⟩) A1.length (ca - 1)) A1 from by simpa [h1a] using HTA.out) HF.out.2)
            have hbA := below_all hb (below_alloc wr (.cells #[.string ⟨#[]⟩, .int .i64 0, .int .i64 0, .string ⟨#[]⟩, .slice none 0 0, .slice none 0 0, .int .i64 0, .int .i64 0, .string ⟨#[]⟩, .slice none 0 0, .slice none 0 0, .bool false, .bool false] 44))
            have hnb : w.heap.size ≤ wr.heap.size := hb.size
            have hnr : ¬ (Value.slice ar D.length cr).ownBlock = some wr.heap.size := fun e => by have := (hrow.lt _ e).2; omega
            have HS := Lib.hid (show Below w.heap.size w (wr.alloc (.cells #[.string ⟨#[]⟩, .int .i64 0, .int .i64 0, .string ⟨#[]⟩, .slice none 0 0, .slice none 0 0, .int .i64 0, .int .i64 0, .string ⟨#[]⟩, .slice none 0 0, .slice none 0 0, .bool false, .bool false] 44)) ∧ Own (wr.alloc (.cells #[.string ⟨#[]⟩, .int .i64 0, .int .i64 0, .string ⟨#[]⟩, .slice none 0 0, .slice none 0 0, .int .i64 0, .int .i64 0, .string ⟨#[]⟩, .slice none 0 0, .slice none 0 0, .bool false, .bool false] 44)) wr.heap.size [.string ⟨#[]⟩, .int .i64 0, .int .i64 0, .string ⟨#[]⟩, .slice none 0 0, .slice none 0 0, .int .i64 0, .int .i64 0, .string ⟨#[]⟩, .slice none 0 0, .slice none 0 0, .bool false, .bool false] 44 ∧ (wr.alloc (.cells #[.string ⟨#[]⟩, .int .i64 0, .int .i64 0, .string ⟨#[]⟩, .slice none 0 0, .slice none 0 0, .int .i64 0, .int .i64 0, .string ⟨#[]⟩, .slice none 0 0, .slice none 0 0, .bool false, .bool false] 44)).ownsRow w.heap.size 44 13 (.slice ar D.length cr) D.length (cs.flatMap PC.cells) from ⟨hbA, Own.new _ _ _, hrow.alloc _⟩)
            have C := Lib.hid (nextSide_any _ _ _ _ (wr.alloc (.cells #[.string ⟨#[]⟩, .int .i64 0, .int .i64 0, .string ⟨#[]⟩, .slice none 0 0, .slice none 0 0, .int .i64 0, .int .i64 0, .string ⟨#[]⟩, .slice none 0 0, .slice none 0 0, .bool false, .bool false] 44)) (HF.out.1.all (below_all H0.out.1 hbA)) (HF.out.2.all (below_all H0.out.1 hbA)))
            rw [show sideP ((xn, xt) :: A1) ((yn, yt) :: B1) = -1 from hc] at C
            clear hbA hrow hb
            go_upto_region 4 with (fail)
            change Code.wp Try.prog _ _ _ (wr.alloc (.cells #[.string ⟨#[]⟩, .int .i64 0, .int .i64 0, .string ⟨#[]⟩, .slice none 0 0, .slice none 0 0, .int .i64 0, .int .i64 0, .string ⟨#[]⟩, .slice none 0 0, .slice none 0 0, .bool false, .bool false] 44))
            generalize wr.alloc (.cells #[.string ⟨#[]⟩, .int .i64 0, .int .i64 0, .string ⟨#[]⟩, .slice none 0 0, .slice none 0 0, .int .i64 0, .int .i64 0, .string ⟨#[]⟩, .slice none 0 0, .slice none 0 0, .bool false, .bool false] 44) = V at *
            generalize wr.heap.size = nb at *
            go_wp2_with fail
            refine C.out.mono ?_
            rintro e w2 ⟨rfl, hb2⟩
            have HS2 := Lib.hid (show Below w.heap.size w w2 ∧ Own w2 nb [.string ⟨#[]⟩, .int .i64 0, .int .i64 0, .string ⟨#[]⟩, .slice none 0 0, .slice none 0 0, .int .i64 0, .int .i64 0, .string ⟨#[]⟩, .slice none 0 0, .slice none 0 0, .bool false, .bool false] 44 ∧ w2.ownsRow w.heap.size 44 13 (.slice ar D.length cr) D.length (cs.flatMap PC.cells) from ⟨below_all HS.out.1 hb2, HS.out.2.1.all hb2, own_below HS.out.2.2 hb2⟩)
            clear C hb2 HS HF
            have u0 := HS2.out.2.1.cell (i := 0) rfl
            have u1 := HS2.out.2.1.cell (i := 1) rfl
            have u2 := HS2.out.2.1.cell (i := 2) rfl
            have u3 := HS2.out.2.1.cell (i := 3) rfl
            have u4 := HS2.out.2.1.cell (i := 4) rfl
            have u5 := HS2.out.2.1.cell (i := 5) rfl
            have u11 := HS2.out.2.1.cell (i := 11) rfl
            have v0 := HS2.out.2.1.frozen 0
            have v1 := HS2.out.2.1.frozen 1
            have v2 := HS2.out.2.1.frozen 2
            have v3 := HS2.out.2.1.frozen 3
            have v4 := HS2.out.2.1.frozen 4
            have v5 := HS2.out.2.1.frozen 5
            have v11 := HS2.out.2.1.frozen 11
            obtain ⟨pn, p0, p1, p2, p3, p4⟩ := HEA.out _ (below_all H0.out.1 HS2.out.1)
            have HS3 := Lib.hid (show Below w.heap.size w (((((((w2.setCell ⟨nb, 0, none⟩ (sV xn)).setCell ⟨nb, 1, none⟩ (.int .i64 c.k)).setCell ⟨nb, 2, none⟩ (.int .i64 c.n)).setCell ⟨nb, 3, none⟩ (sV c.s)).setCell ⟨nb, 4, none⟩ (.slice c.la c.ln c.lc)).setCell ⟨nb, 5, none⟩ (.slice c.fa c.fn c.fc)).setCell ⟨nb, 11, none⟩ (.bool true)).drew ∧ Own (((((((w2.setCell ⟨nb, 0, none⟩ (sV xn)).setCell ⟨nb, 1, none⟩ (.int .i64 c.k)).setCell ⟨nb, 2, none⟩ (.int .i64 c.n)).setCell ⟨nb, 3, none⟩ (sV c.s)).setCell ⟨nb, 4, none⟩ (.slice c.la c.ln c.lc)).setCell ⟨nb, 5, none⟩ (.slice c.fa c.fn c.fc)).setCell ⟨nb, 11, none⟩ (.bool true)).drew nb [sV xn, .int .i64 c.k, .int .i64 c.n, sV c.s, .slice c.la c.ln c.lc, .slice c.fa c.fn c.fc, .int .i64 0, .int .i64 0, .string ⟨#[]⟩, .slice none 0 0, .slice none 0 0, .bool true, .bool false] 44 ∧ (((((((w2.setCell ⟨nb, 0, none⟩ (sV xn)).setCell ⟨nb, 1, none⟩ (.int .i64 c.k)).setCell ⟨nb, 2, none⟩ (.int .i64 c.n)).setCell ⟨nb, 3, none⟩ (sV c.s)).setCell ⟨nb, 4, none⟩ (.slice c.la c.ln c.lc)).setCell ⟨nb, 5, none⟩ (.slice c.fa c.fn c.fc)).setCell ⟨nb, 11, none⟩ (.bool true)).drew.ownsRow w.heap.size 44 13 (.slice ar D.length cr) D.length (cs.flatMap PC.cells) from ⟨below_drew (below_set (below_set (below_set (below_set (below_set (below_set (below_set HS2.out.1 hnb (i := 0) (sV xn)) hnb (i := 1) (.int .i64 c.k)) hnb (i := 2) (.int .i64 c.n)) hnb (i := 3) (sV c.s)) hnb (i := 4) (.slice c.la c.ln c.lc)) hnb (i := 5) (.slice c.fa c.fn c.fc)) hnb (i := 11) (.bool true)), Own.drew (((((((HS2.out.2.1.set 0 (sV xn)).set 1 (.int .i64 c.k)).set 2 (.int .i64 c.n)).set 3 (sV c.s)).set 4 (.slice c.la c.ln c.lc)).set 5 (.slice c.fa c.fn c.fc)).set 11 (.bool true)), row_drew (row_setN (row_setN (row_setN (row_setN (row_setN (row_setN (row_setN HS2.out.2.2 hnr (0) (sV xn)) hnr (1) (.int .i64 c.k)) hnr (2) (.int .i64 c.n)) hnr (3) (sV c.s)) hnr (4) (.slice c.la c.ln c.lc)) hnr (5) (.slice c.fa c.fn c.fc)) hnr (11) (.bool true))⟩)
            go_upto_region 6 with (fail)
            go_region
            clear u0 v0 u1 v1 u2 v2 u3 v3 u4 v4 u5 v5 u11 v11 pn p0 p1 p2 p3 p4 HS2
            go_upto_region 8 with (fail)
            change Code.wp Try.prog _ _ _ (((((((w2.setCell ⟨nb, 0, none⟩ (sV xn)).setCell ⟨nb, 1, none⟩ (.int .i64 c.k)).setCell ⟨nb, 2, none⟩ (.int .i64 c.n)).setCell ⟨nb, 3, none⟩ (sV c.s)).setCell ⟨nb, 4, none⟩ (.slice c.la c.ln c.lc)).setCell ⟨nb, 5, none⟩ (.slice c.fa c.fn c.fc)).setCell ⟨nb, 11, none⟩ (.bool true)).drew
            generalize (((((((w2.setCell ⟨nb, 0, none⟩ (sV xn)).setCell ⟨nb, 1, none⟩ (.int .i64 c.k)).setCell ⟨nb, 2, none⟩ (.int .i64 c.n)).setCell ⟨nb, 3, none⟩ (sV c.s)).setCell ⟨nb, 4, none⟩ (.slice c.la c.ln c.lc)).setCell ⟨nb, 5, none⟩ (.slice c.fa c.fn c.fc)).setCell ⟨nb, 11, none⟩ (.bool true)).drew = w3 at *
            have HPC := Lib.hid (show PrOk w0 ⟨xn, c, VC0, true, false⟩ (xn, (some xt, none)) from ⟨rfl, rfl, rfl, HIA.out, (is_vc0 w0)⟩)
            have z0 := HS3.out.2.1.cell (i := 0) rfl
            have z1 := HS3.out.2.1.cell (i := 1) rfl
            have z2 := HS3.out.2.1.cell (i := 2) rfl
            have z3 := HS3.out.2.1.cell (i := 3) rfl
            have z4 := HS3.out.2.1.cell (i := 4) rfl
            have z5 := HS3.out.2.1.cell (i := 5) rfl
            have z6 := HS3.out.2.1.cell (i := 6) rfl
            have z7 := HS3.out.2.1.cell (i := 7) rfl
            have z8 := HS3.out.2.1.cell (i := 8) rfl
            have z9 := HS3.out.2.1.cell (i := 9) rfl
            have z10 := HS3.out.2.1.cell (i := 10) rfl
            have z11 := HS3.out.2.1.cell (i := 11) rfl
            have z12 := HS3.out.2.1.cell (i := 12) rfl
            have hsz5 := HS3.out.2.1.lt
            have hbl5 := HS3.out.1.size
            have hrow5 := HS3.out.2.2
            have hDl := HDL.out
            go_upto_region 2 with (first | (at_builtin; refine wpList_append_own _ rfl (.tmp 49) (.tmp 51) 40 rfl w.heap.size 44 i44 (.agg #[.string ⟨#[]⟩, .int .i64 0, .int .i64 0, .string ⟨#[]⟩, .slice none 0 0, .slice none 0 0, .int .i64 0, .int .i64 0, .string ⟨#[]⟩, .slice none 0 0, .slice none 0 0, .bool false, .bool false]) 13 184 Try.underlying40 hi44 hz44 hs44 hy44 rfl (by decide) _ _ _ rfl (hrow5.alloc _) ⟨w3.heap.size, 0, none⟩ 1 1 (PC.cells ⟨xn, c, VC0, true, false⟩) rfl rfl (own_src (Own.new _ _ _)) (PC.one ⟨xn, c, VC0, true, false⟩) (by unfold maxLen; omega) (by omega) (by simp; omega) ?_; intro v6 w6 hown6 hgrow6 hnil6))
            have hb6 := below_rowq (HS3.out.1.alloc HS3.out.1.size (.cells #[sV xn, .int .i64 c.k, .int .i64 c.n, sV c.s, .slice c.la c.ln c.lc, .slice c.fa c.fn c.fc, .int .i64 0, .int .i64 0, .string ⟨#[]⟩, .slice none 0 0, .slice none 0 0, .bool true, .bool false] 44)) hgrow6 (fun k hk => by have := own_row hrow5 k hk; omega)
            obtain ⟨ao6, cap6, hu6, -, -, -⟩ := (Flat.of_own hown6).out
            subst hu6
            rw [← snocP] at hown6
            have HEND := Lib.hid (And.intro hb6 (And.intro hown6 (And.intro (show (cs ++ [(⟨xn, c, VC0, true, false⟩ : PC)]).length = (D ++ [((xn, (some xt, none)) : Pq)]).length by simp [HCS.out]) (prOk_snoc HCS.out HPK.out HPC.out))))
            clear z0 z1 z2 z3 z4 z5 z6 z7 z8 z9 z10 z11 z12 hgrow6 hnil6 hown6 hb6 hrow5
            go_roundg (A1.length + ((yn, yt) :: B1).length)
            case measure => have := HG.out; simp at this ⊢; omega
            case rel => exact ⟨A1, ((yn, yt) :: B1), D ++ [(xn, (some xt, none))], cs ++ [⟨xn, c, VC0, true, false⟩], (some ⟨b, off + 6, none⟩), (ca - 1), (some ⟨b2, off2, none⟩), cb, _, rfl, rfl, rfl, HFN, HEND.out.1, by rw [List.length_append]; exact HEND.out.2.1, Lib.hid HEND.out.2.2.1, Lib.hid HEND.out.2.2.2, HPN⟩
        · obtain ⟨mm, HPN⟩ : ∃ m, Hid (A1.length + B1.length ≤ m ∧ prs (A.length + B.length) A B = (D ++ [(yn, (some xt, some yt))]) ++ prs m A1 B1) := by
            obtain ⟨h1, h2⟩ := HPR.out
            cases n with
            | zero => simp at h1
            | succ m => exact ⟨m, Lib.hid ⟨by simp at h1 ⊢; omega, by rw [h2, prs_eq hc]; simp⟩⟩
          by_cases h1a : ca = 1
          · subst h1a
            by_cases h1b : cb = 1
            · subst h1b
              have HFN := Lib.hid (And.intro (show Flds w0 (.slice (some ⟨b, off, none⟩) A1.length 0) A1 from by simpa using HTA.out) (show Flds w0 (.slice (some ⟨b2, off2, none⟩) B1.length 0) B1 from by simpa using HTB.out))
              have hbA := below_all hb (below_alloc wr (.cells #[.string ⟨#[]⟩, .int .i64 0, .int .i64 0, .string ⟨#[]⟩, .slice none 0 0, .slice none 0 0, .int .i64 0, .int .i64 0, .string ⟨#[]⟩, .slice none 0 0, .slice none 0 0, .bool false, .bool false] 44))
              have hnb : w.heap.size ≤ wr.heap.size := hb.size
              have hnr : ¬ (Value.slice ar D.length cr).ownBlock = some wr.heap.size := fun e => by have := (hrow.lt _ e).2; omega
              have HS := Lib.hid (show Below w.heap.size w (wr.alloc (.cells #[.string ⟨#[]⟩, .int .i64 0, .int .i64 0, .string ⟨#[]⟩, .slice none 0 0, .slice none 0 0, .int .i64 0, .int .i64 0, .string ⟨#[]⟩, .slice none 0 0, .slice none 0 0, .bool false, .bool false] 44)) ∧ Own (wr.alloc (.cells #[.string ⟨#[]⟩, .int .i64 0, .int .i64 0, .string ⟨#[]⟩, .slice none 0 0, .slice none 0 0, .int .i64 0, .int .i64 0, .string ⟨#[]⟩, .slice none 0 0, .slice none 0 0, .bool false, .bool false] 44)) wr.heap.size [.string ⟨#[]⟩, .int .i64 0, .int .i64 0, .string ⟨#[]⟩, .slice none 0 0, .slice none 0 0, .int .i64 0, .int .i64 0, .string ⟨#[]⟩, .slice none 0 0, .slice none 0 0, .bool false, .bool false] 44 ∧ (wr.alloc (.cells #[.string ⟨#[]⟩, .int .i64 0, .int .i64 0, .string ⟨#[]⟩, .slice none 0 0, .slice none 0 0, .int .i64 0, .int .i64 0, .string ⟨#[]⟩, .slice none 0 0, .slice none 0 0, .bool false, .bool false] 44)).ownsRow w.heap.size 44 13 (.slice ar D.length cr) D.length (cs.flatMap PC.cells) from ⟨hbA, Own.new _ _ _, hrow.alloc _⟩)
              have C := Lib.hid (nextSide_any _ _ _ _ (wr.alloc (.cells #[.string ⟨#[]⟩, .int .i64 0, .int .i64 0, .string ⟨#[]⟩, .slice none 0 0, .slice none 0 0, .int .i64 0, .int .i64 0, .string ⟨#[]⟩, .slice none 0 0, .slice none 0 0, .bool false, .bool false] 44)) (HF.out.1.all (below_all H0.out.1 hbA)) (HF.out.2.all (below_all H0.out.1 hbA)))
              rw [show sideP ((xn, xt) :: A1) ((yn, yt) :: B1) = 0 from hc] at C
              clear hbA hrow hb
              go_upto_region 4 with (fail)
              change Code.wp Try.prog _ _ _ (wr.alloc (.cells #[.string ⟨#[]⟩, .int .i64 0, .int .i64 0, .string ⟨#[]⟩, .slice none 0 0, .slice none 0 0, .int .i64 0, .int .i64 0, .string ⟨#[]⟩, .slice none 0 0, .slice none 0 0, .bool false, .bool false] 44))
              generalize wr.alloc (.cells #[.string ⟨#[]⟩, .int .i64 0, .int .i64 0, .string ⟨#[]⟩, .slice none 0 0, .slice none 0 0, .int .i64 0, .int .i64 0, .string ⟨#[]⟩, .slice none 0 0, .slice none 0 0, .bool false, .bool false] 44) = V at *
              generalize wr.heap.size = nb at *
              go_wp2_with fail
              refine C.out.mono ?_
              rintro e w2 ⟨rfl, hb2⟩
              have HS2 := Lib.hid (show Below w.heap.size w w2 ∧ Own w2 nb [.string ⟨#[]⟩, .int .i64 0, .int .i64 0, .string ⟨#[]⟩, .slice none 0 0, .slice none 0 0, .int .i64 0, .int .i64 0, .string ⟨#[]⟩, .slice none 0 0, .slice none 0 0, .bool false, .bool false] 44 ∧ w2.ownsRow w.heap.size 44 13 (.slice ar D.length cr) D.length (cs.flatMap PC.cells) from ⟨below_all HS.out.1 hb2, HS.out.2.1.all hb2, own_below HS.out.2.2 hb2⟩)
              clear C hb2 HS HF
              have u0 := HS2.out.2.1.cell (i := 0) rfl
              have u1 := HS2.out.2.1.cell (i := 1) rfl
              have u2 := HS2.out.2.1.cell (i := 2) rfl
              have u3 := HS2.out.2.1.cell (i := 3) rfl
              have u4 := HS2.out.2.1.cell (i := 4) rfl
              have u5 := HS2.out.2.1.cell (i := 5) rfl
              have u11 := HS2.out.2.1.cell (i := 11) rfl
              have v0 := HS2.out.2.1.frozen 0
              have v1 := HS2.out.2.1.frozen 1
              have v2 := HS2.out.2.1.frozen 2
              have v3 := HS2.out.2.1.frozen 3
              have v4 := HS2.out.2.1.frozen 4
              have v5 := HS2.out.2.1.frozen 5
              have v11 := HS2.out.2.1.frozen 11
              obtain ⟨pn, p0, p1, p2, p3, p4⟩ := HEA.out _ (below_all H0.out.1 HS2.out.1)
              have HS3 := Lib.hid (show Below w.heap.size w (((((((w2.setCell ⟨nb, 0, none⟩ (sV xn)).setCell ⟨nb, 1, none⟩ (.int .i64 c.k)).setCell ⟨nb, 2, none⟩ (.int .i64 c.n)).setCell ⟨nb, 3, none⟩ (sV c.s)).setCell ⟨nb, 4, none⟩ (.slice c.la c.ln c.lc)).setCell ⟨nb, 5, none⟩ (.slice c.fa c.fn c.fc)).setCell ⟨nb, 11, none⟩ (.bool true)).drew ∧ Own (((((((w2.setCell ⟨nb, 0, none⟩ (sV xn)).setCell ⟨nb, 1, none⟩ (.int .i64 c.k)).setCell ⟨nb, 2, none⟩ (.int .i64 c.n)).setCell ⟨nb, 3, none⟩ (sV c.s)).setCell ⟨nb, 4, none⟩ (.slice c.la c.ln c.lc)).setCell ⟨nb, 5, none⟩ (.slice c.fa c.fn c.fc)).setCell ⟨nb, 11, none⟩ (.bool true)).drew nb [sV xn, .int .i64 c.k, .int .i64 c.n, sV c.s, .slice c.la c.ln c.lc, .slice c.fa c.fn c.fc, .int .i64 0, .int .i64 0, .string ⟨#[]⟩, .slice none 0 0, .slice none 0 0, .bool true, .bool false] 44 ∧ (((((((w2.setCell ⟨nb, 0, none⟩ (sV xn)).setCell ⟨nb, 1, none⟩ (.int .i64 c.k)).setCell ⟨nb, 2, none⟩ (.int .i64 c.n)).setCell ⟨nb, 3, none⟩ (sV c.s)).setCell ⟨nb, 4, none⟩ (.slice c.la c.ln c.lc)).setCell ⟨nb, 5, none⟩ (.slice c.fa c.fn c.fc)).setCell ⟨nb, 11, none⟩ (.bool true)).drew.ownsRow w.heap.size 44 13 (.slice ar D.length cr) D.length (cs.flatMap PC.cells) from ⟨below_drew (below_set (below_set (below_set (below_set (below_set (below_set (below_set HS2.out.1 hnb (i := 0) (sV xn)) hnb (i := 1) (.int .i64 c.k)) hnb (i := 2) (.int .i64 c.n)) hnb (i := 3) (sV c.s)) hnb (i := 4) (.slice c.la c.ln c.lc)) hnb (i := 5) (.slice c.fa c.fn c.fc)) hnb (i := 11) (.bool true)), Own.drew (((((((HS2.out.2.1.set 0 (sV xn)).set 1 (.int .i64 c.k)).set 2 (.int .i64 c.n)).set 3 (sV c.s)).set 4 (.slice c.la c.ln c.lc)).set 5 (.slice c.fa c.fn c.fc)).set 11 (.bool true)), row_drew (row_setN (row_setN (row_setN (row_setN (row_setN (row_setN (row_setN HS2.out.2.2 hnr (0) (sV xn)) hnr (1) (.int .i64 c.k)) hnr (2) (.int .i64 c.n)) hnr (3) (sV c.s)) hnr (4) (.slice c.la c.ln c.lc)) hnr (5) (.slice c.fa c.fn c.fc)) hnr (11) (.bool true))⟩)
              go_upto_region 6 with (fail)
              go_region
              clear u0 v0 u1 v1 u2 v2 u3 v3 u4 v4 u5 v5 u11 v11 pn p0 p1 p2 p3 p4 HS2
              go_upto_region 8 with (fail)
              change Code.wp Try.prog _ _ _ (((((((w2.setCell ⟨nb, 0, none⟩ (sV xn)).setCell ⟨nb, 1, none⟩ (.int .i64 c.k)).setCell ⟨nb, 2, none⟩ (.int .i64 c.n)).setCell ⟨nb, 3, none⟩ (sV c.s)).setCell ⟨nb, 4, none⟩ (.slice c.la c.ln c.lc)).setCell ⟨nb, 5, none⟩ (.slice c.fa c.fn c.fc)).setCell ⟨nb, 11, none⟩ (.bool true)).drew
              generalize (((((((w2.setCell ⟨nb, 0, none⟩ (sV xn)).setCell ⟨nb, 1, none⟩ (.int .i64 c.k)).setCell ⟨nb, 2, none⟩ (.int .i64 c.n)).setCell ⟨nb, 3, none⟩ (sV c.s)).setCell ⟨nb, 4, none⟩ (.slice c.la c.ln c.lc)).setCell ⟨nb, 5, none⟩ (.slice c.fa c.fn c.fc)).setCell ⟨nb, 11, none⟩ (.bool true)).drew = w3 at *
              have u0 := HS3.out.2.1.cell (i := 0) rfl
              have u6 := HS3.out.2.1.cell (i := 6) rfl
              have u7 := HS3.out.2.1.cell (i := 7) rfl
              have u8 := HS3.out.2.1.cell (i := 8) rfl
              have u9 := HS3.out.2.1.cell (i := 9) rfl
              have u10 := HS3.out.2.1.cell (i := 10) rfl
              have u12 := HS3.out.2.1.cell (i := 12) rfl
              have v0 := HS3.out.2.1.frozen 0
              have v6 := HS3.out.2.1.frozen 6
              have v7 := HS3.out.2.1.frozen 7
              have v8 := HS3.out.2.1.frozen 8
              have v9 := HS3.out.2.1.frozen 9
              have v10 := HS3.out.2.1.frozen 10
              have v12 := HS3.out.2.1.frozen 12
              obtain ⟨qn, q0, q1, q2, q3, q4⟩ := HEB.out _ (below_all H0.out.1 HS3.out.1)
              have HS4 := Lib.hid (show Below w.heap.size w (((((((w3.setCell ⟨nb, 0, none⟩ (sV yn)).setCell ⟨nb, 6, none⟩ (.int .i64 d.k)).setCell ⟨nb, 7, none⟩ (.int .i64 d.n)).setCell ⟨nb, 8, none⟩ (sV d.s)).setCell ⟨nb, 9, none⟩ (.slice d.la d.ln d.lc)).setCell ⟨nb, 10, none⟩ (.slice d.fa d.fn d.fc)).setCell ⟨nb, 12, none⟩ (.bool true)).drew ∧ Own (((((((w3.setCell ⟨nb, 0, none⟩ (sV yn)).setCell ⟨nb, 6, none⟩ (.int .i64 d.k)).setCell ⟨nb, 7, none⟩ (.int .i64 d.n)).setCell ⟨nb, 8, none⟩ (sV d.s)).setCell ⟨nb, 9, none⟩ (.slice d.la d.ln d.lc)).setCell ⟨nb, 10, none⟩ (.slice d.fa d.fn d.fc)).setCell ⟨nb, 12, none⟩ (.bool true)).drew nb [sV yn, .int .i64 c.k, .int .i64 c.n, sV c.s, .slice c.la c.ln c.lc, .slice c.fa c.fn c.fc, .int .i64 d.k, .int .i64 d.n, sV d.s, .slice d.la d.ln d.lc, .slice d.fa d.fn d.fc, .bool true, .bool true] 44 ∧ (((((((w3.setCell ⟨nb, 0, none⟩ (sV yn)).setCell ⟨nb, 6, none⟩ (.int .i64 d.k)).setCell ⟨nb, 7, none⟩ (.int .i64 d.n)).setCell ⟨nb, 8, none⟩ (sV d.s)).setCell ⟨nb, 9, none⟩ (.slice d.la d.ln d.lc)).setCell ⟨nb, 10, none⟩ (.slice d.fa d.fn d.fc)).setCell ⟨nb, 12, none⟩ (.bool true)).drew.ownsRow w.heap.size 44 13 (.slice ar D.length cr) D.length (cs.flatMap PC.cells) from ⟨below_drew (below_set (below_set (below_set (below_set (below_set (below_set (below_set HS3.out.1 hnb (i := 0) (sV yn)) hnb (i := 6) (.int .i64 d.k)) hnb (i := 7) (.int .i64 d.n)) hnb (i := 8) (sV d.s)) hnb (i := 9) (.slice d.la d.ln d.lc)) hnb (i := 10) (.slice d.fa d.fn d.fc)) hnb (i := 12) (.bool true)), Own.drew (((((((HS3.out.2.1.set 0 (sV yn)).set 6 (.int .i64 d.k)).set 7 (.int .i64 d.n)).set 8 (sV d.s)).set 9 (.slice d.la d.ln d.lc)).set 10 (.slice d.fa d.fn d.fc)).set 12 (.bool true)), row_drew (row_setN (row_setN (row_setN (row_setN (row_setN (row_setN (row_setN HS3.out.2.2 hnr (0) (sV yn)) hnr (6) (.int .i64 d.k)) hnr (7) (.int .i64 d.n)) hnr (8) (sV d.s)) hnr (9) (.slice d.la d.ln d.lc)) hnr (10) (.slice d.fa d.fn d.fc)) hnr (12) (.bool true))⟩)
              go_upto_region 9 with (fail)
              go_region
              clear u0 v0 u6 v6 u7 v7 u8 v8 u9 v9 u10 v10 u12 v12 qn q0 q1 q2 q3 q4 HS3
              go_upto_region 11 with (fail)
              change Code.wp Try.prog _ _ _ (((((((w3.setCell ⟨nb, 0, none⟩ (sV yn)).setCell ⟨nb, 6, none⟩ (.int .i64 d.k)).setCell ⟨nb, 7, none⟩ (.int .i64 d.n)).setCell ⟨nb, 8, none⟩ (sV d.s)).setCell ⟨nb, 9, none⟩ (.slice d.la d.ln d.lc)).setCell ⟨nb, 10, none⟩ (.slice d.fa d.fn d.fc)).setCell ⟨nb, 12, none⟩ (.bool true)).drew
              generalize (((((((w3.setCell ⟨nb, 0, none⟩ (sV yn)).setCell ⟨nb, 6, none⟩ (.int .i64 d.k)).setCell ⟨nb, 7, none⟩ (.int .i64 d.n)).setCell ⟨nb, 8, none⟩ (sV d.s)).setCell ⟨nb, 9, none⟩ (.slice d.la d.ln d.lc)).setCell ⟨nb, 10, none⟩ (.slice d.fa d.fn d.fc)).setCell ⟨nb, 12, none⟩ (.bool true)).drew = w4 at *
              have HPC := Lib.hid (show PrOk w0 ⟨yn, c, d, true, true⟩ (yn, (some xt, some yt)) from ⟨rfl, rfl, rfl, HIA.out, HIB.out⟩)
              have z0 := HS4.out.2.1.cell (i := 0) rfl
              have z1 := HS4.out.2.1.cell (i := 1) rfl
              have z2 := HS4.out.2.1.cell (i := 2) rfl
              have z3 := HS4.out.2.1.cell (i := 3) rfl
              have z4 := HS4.out.2.1.cell (i := 4) rfl
              have z5 := HS4.out.2.1.cell (i := 5) rfl
              have z6 := HS4.out.2.1.cell (i := 6) rfl
              have z7 := HS4.out.2.1.cell (i := 7) rfl
              have z8 := HS4.out.2.1.cell (i := 8) rfl
              have z9 := HS4.out.2.1.cell (i := 9) rfl
              have z10 := HS4.out.2.1.cell (i := 10) rfl
              have z11 := HS4.out.2.1.cell (i := 11) rfl
              have z12 := HS4.out.2.1.cell (i := 12) rfl
              have hsz5 := HS4.out.2.1.lt
              have hbl5 := HS4.out.1.size
              have hrow5 := HS4.out.2.2
              have hDl := HDL.out
              go_upto_region 2 with (first | (at_builtin; refine wpList_append_own _ rfl (.tmp 49) (.tmp 51) 40 rfl w.heap.size 44 i44 (.agg #[.string ⟨#[]⟩, .int .i64 0, .int .i64 0, .string ⟨#[]⟩, .slice none 0 0, .slice none 0 0, .int .i64 0, .int .i64 0, .string ⟨#[]⟩, .slice none 0 0, .slice none 0 0, .bool false, .bool false]) 13 184 Try.underlying40 hi44 hz44 hs44 hy44 rfl (by decide) _ _ _ rfl (hrow5.alloc _) ⟨w4.heap.size, 0, none⟩ 1 1 (PC.cells ⟨yn, c, d, true, true⟩) rfl rfl (own_src (Own.new _ _ _)) (PC.one ⟨yn, c, d, true, true⟩) (by unfold maxLen; omega) (by omega) (by simp; omega) ?_; intro v6 w6 hown6 hgrow6 hnil6))
              have hb6 := below_rowq (HS4.out.1.alloc HS4.out.1.size (.cells #[sV yn, .int .i64 c.k, .int .i64 c.n, sV c.s, .slice c.la c.ln c.lc, .slice c.fa c.fn c.fc, .int .i64 d.k, .int .i64 d.n, sV d.s, .slice d.la d.ln d.lc, .slice d.fa d.fn d.fc, .bool true, .bool true] 44)) hgrow6 (fun k hk => by have := own_row hrow5 k hk; omega)
              obtain ⟨ao6, cap6, hu6, -, -, -⟩ := (Flat.of_own hown6).out
              subst hu6
              rw [← snocP] at hown6
              have HEND := Lib.hid (And.intro hb6 (And.intro hown6 (And.intro (show (cs ++ [(⟨yn, c, d, true, true⟩ : PC)]).length = (D ++ [((yn, (some xt, some yt)) : Pq)]).length by simp [HCS.out]) (prOk_snoc HCS.out HPK.out HPC.out))))
              clear z0 z1 z2 z3 z4 z5 z6 z7 z8 z9 z10 z11 z12 hgrow6 hnil6 hown6 hb6 hrow5
              go_roundg (A1.length + B1.length)
              case measure => have := HG.out; simp at this ⊢; omega
              case rel => exact ⟨A1, B1, D ++ [(yn, (some xt, some yt))], cs ++ [⟨yn, c, d, true, true⟩], (some ⟨b, off, none⟩), 0, (some ⟨b2, off2, none⟩), 0, _, rfl, rfl, rfl, HFN, HEND.out.1, by rw [List.length_append]; exact HEND.out.2.1, Lib.hid HEND.out.2.2.1, Lib.hid HEND.out.2.2.2, HPN⟩
            · have HFN := Lib.hid (And.intro (show Flds w0 (.slice (some ⟨b, off, none⟩) A1.length 0) A1 from by simpa using HTA.out) (show Flds w0 (.slice (some ⟨b2, off2 + 6, none⟩) B1.length (cb - 1)) B1 from by simpa [h1b] using HTB.out))
              have hbA := below_all hb (below_alloc wr (.cells #[.string ⟨#[]⟩, .int .i64 0, .int .i64 0, .string ⟨#[]⟩, .slice none 0 0, .slice none 0 0, .int .i64 0, .int .i64 0, .string ⟨#[]⟩, .slice none 0 0, .slice none 0 0, .bool false, .bool false] 44))
              have hnb : w.heap.size ≤ wr.heap.size := hb.size
              have hnr : ¬ (Value.slice ar D.length cr).ownBlock = some wr.heap.size := fun e => by have := (hrow.lt _ e).2; omega
              have HS := Lib.hid (show Below w.heap.size w (wr.alloc (.cells #[.string ⟨#[]⟩, .int .i64 0, .int .i64 0, .string ⟨#[]⟩, .slice none 0 0, .slice none 0 0, .int .i64 0, .int .i64 0, .string ⟨#[]⟩, .slice none 0 0, .slice none 0 0, .bool false, .bool false] 44)) ∧ Own (wr.alloc (.cells #[.string ⟨#[]⟩, .int .i64 0, .int .i64 0, .string ⟨#[]⟩, .slice none 0 0, .slice none 0 0, .int .i64 0, .int .i64 0, .string ⟨#[]⟩, .slice none 0 0, .slice none 0 0, .bool false, .bool false] 44)) wr.heap.size [.string ⟨#[]⟩, .int .i64 0, .int .i64 0, .string ⟨#[]⟩, .slice none 0 0, .slice none 0 0, .int .i64 0, .int .i64 0, .string ⟨#[]⟩, .slice none 0 0, .slice none 0 0, .bool false, .bool false] 44 ∧ (wr.alloc (.cells #[.string ⟨#[]⟩, .int .i64 0, .int .i64 0, .string ⟨#[]⟩, .slice none 0 0, .slice none 0 0, .int .i64 0, .int .i64 0, .string ⟨#[]⟩, .slice none 0 0, .slice none 0 0, .bool false, .bool false] 44)).ownsRow w.heap.size 44 13 (.slice ar D.length cr) D.length (cs.flatMap PC.cells) from ⟨hbA, Own.new _ _ _, hrow.alloc _⟩)
              have C := Lib.hid (nextSide_any _ _ _ _ (wr.alloc (.cells #[.string ⟨#[]⟩, .int .i64 0, .int .i64 0, .string ⟨#[]⟩, .slice none 0 0, .slice none 0 0, .int .i64 0, .int .i64 0, .string ⟨#[]⟩, .slice none 0 0, .slice none 0 0, .bool false, .bool false] 44)) (HF.out.1.all (below_all H0.out.1 hbA)) (HF.out.2.all (below_all H0.out.1 hbA)))
              rw [show sideP ((xn, xt) :: A1) ((yn, yt) :: B1) = 0 from hc] at C
              clear hbA hrow hb
              go_upto_region 4 with (fail)
              change Code.wp Try.prog _ _ _ (wr.alloc (.cells #[.string ⟨#[]⟩, .int .i64 0, .int .i64 0, .string ⟨#[]⟩, .slice none 0 0, .slice none 0 0, .int .i64 0, .int .i64 0, .string ⟨#[]⟩, .slice none 0 0, .slice none 0 0, .bool false, .bool false] 44))
              generalize wr.alloc (.cells #[.string ⟨#[]⟩, .int .i64 0, .int .i64 0, .string ⟨#[]⟩, .slice none 0 0, .slice none 0 0, .int .i64 0, .int .i64 0, .string ⟨#[]⟩, .slice none 0 0, .slice none 0 0, .bool false, .bool false] 44) = V at *
              generalize wr.heap.size = nb at *
              go_wp2_with fail
              refine C.out.mono ?_
              rintro e w2 ⟨rfl, hb2⟩
              have HS2 := Lib.hid (show Below w.heap.size w w2 ∧ Own w2 nb [.string ⟨#[]⟩, .int .i64 0, .int .i64 0, .string ⟨#[]⟩, .slice none 0 0, .slice none 0 0, .int .i64 0, .int .i64 0, .string ⟨#[]⟩, .slice none 0 0, .slice none 0 0, .bool false, .bool false] 44 ∧ w2.ownsRow w.heap.size 44 13 (.slice ar D.length cr) D.length (cs.flatMap PC.cells) from ⟨below_all HS.out.1 hb2, HS.out.2.1.all hb2, own_below HS.out.2.2 hb2⟩)
              clear C hb2 HS HF
              have u0 := HS2.out.2.1.cell (i := 0) rfl
              have u1 := HS2.out.2.1.cell (i := 1) rfl
              have u2 := HS2.out.2.1.cell (i := 2) rfl
              have u3 := HS2.out.2.1.cell (i := 3) rfl
              have u4 := HS2.out.2.1.cell (i := 4) rfl
              have u5 := HS2.out.2.1.cell (i := 5) rfl
              have u11 := HS2.out.2.1.cell (i := 11) rfl
              have v0 := HS2.out.2.1.frozen 0
              have v1 := HS2.out.2.1.frozen 1
              have v2 := HS2.out.2.1.frozen 2
              have v3 := HS2.out.2.1.frozen 3
              have v4 := HS2.out.2.1.frozen 4
              have v5 := HS2.out.2.1.frozen 5
              have v11 := HS2.out.2.1.frozen 11
              obtain ⟨pn, p0, p1, p2, p3, p4⟩ := HEA.out _ (below_all H0.out.1 HS2.out.1)
              have HS3 := Lib.hid (show Below w.heap.size w (((((((w2.setCell ⟨nb, 0, none⟩ (sV xn)).setCell ⟨nb, 1, none⟩ (.int .i64 c.k)).setCell ⟨nb, 2, none⟩ (.int .i64 c.n)).setCell ⟨nb, 3, none⟩ (sV c.s)).setCell ⟨nb, 4, none⟩ (.slice c.la c.ln c.lc)).setCell ⟨nb, 5, none⟩ (.slice c.fa c.fn c.fc)).setCell ⟨nb, 11, none⟩ (.bool true)).drew ∧ Own (((((((w2.setCell ⟨nb, 0, none⟩ (sV xn)).setCell ⟨nb, 1, none⟩ (.int .i64 c.k)).setCell ⟨nb, 2, none⟩ (.int .i64 c.n)).setCell ⟨nb, 3, none⟩ (sV c.s)).setCell ⟨nb, 4, none⟩ (.slice c.la c.ln c.lc)).setCell ⟨nb, 5, none⟩ (.slice c.fa c.fn c.fc)).setCell ⟨nb, 11, none⟩ (.bool true)).drew nb [sV xn, .int .i64 c.k, .int .i64 c.n, sV c.s, .slice c.la c.ln c.lc, .slice c.fa c.fn c.fc, .int .i64 0, .int .i64 0, .string ⟨#[]⟩, .slice none 0 0, .slice none 0 0, .bool true, .bool false] 44 ∧ (((((((w2.setCell ⟨nb, 0, none⟩ (sV xn)).setCell ⟨nb, 1, none⟩ (.int .i64 c.k)).setCell ⟨nb, 2, none⟩ (.int .i64 c.n)).setCell ⟨nb, 3, none⟩ (sV c.s)).setCell ⟨nb, 4, none⟩ (.slice c.la c.ln c.lc)).setCell ⟨nb, 5, none⟩ (.slice c.fa c.fn c.fc)).setCell ⟨nb, 11, none⟩ (.bool true)).drew.ownsRow w.heap.size 44 13 (.slice ar D.length cr) D.length (cs.flatMap PC.cells) from ⟨below_drew (below_set (below_set (below_set (below_set (below_set (below_set (below_set HS2.out.1 hnb (i := 0) (sV xn)) hnb (i := 1) (.int .i64 c.k)) hnb (i := 2) (.int .i64 c.n)) hnb (i := 3) (sV c.s)) hnb (i := 4) (.slice c.la c.ln c.lc)) hnb (i := 5) (.slice c.fa c.fn c.fc)) hnb (i := 11) (.bool true)), Own.drew (((((((HS2.out.2.1.set 0 (sV xn)).set 1 (.int .i64 c.k)).set 2 (.int .i64 c.n)).set 3 (sV c.s)).set 4 (.slice c.la c.ln c.lc)).set 5 (.slice c.fa c.fn c.fc)).set 11 (.bool true)), row_drew (row_setN (row_setN (row_setN (row_setN (row_setN (row_setN (row_setN HS2.out.2.2 hnr (0) (sV xn)) hnr (1) (.int .i64 c.k)) hnr (2) (.int .i64 c.n)) hnr (3) (sV c.s)) hnr (4) (.slice c.la c.ln c.lc)) hnr (5) (.slice c.fa c.fn c.fc)) hnr (11) (.bool true))⟩)
              go_upto_region 6 with (fail)
              go_region
              clear u0 v0 u1 v1 u2 v2 u3 v3 u4 v4 u5 v5 u11 v11 pn p0 p1 p2 p3 p4 HS2
              go_upto_region 8 with (fail)
              change Code.wp Try.prog _ _ _ (((((((w2.setCell ⟨nb, 0, none⟩ (sV xn)).setCell ⟨nb, 1, none⟩ (.int .i64 c.k)).setCell ⟨nb, 2, none⟩ (.int .i64 c.n)).setCell ⟨nb, 3, none⟩ (sV c.s)).setCell ⟨nb, 4, none⟩ (.slice c.la c.ln c.lc)).setCell ⟨nb, 5, none⟩ (.slice c.fa c.fn c.fc)).setCell ⟨nb, 11, none⟩ (.bool true)).drew
              generalize (((((((w2.setCell ⟨nb, 0, none⟩ (sV xn)).setCell ⟨nb, 1, none⟩ (.int .i64 c.k)).setCell ⟨nb, 2, none⟩ (.int .i64 c.n)).setCell ⟨nb, 3, none⟩ (sV c.s)).setCell ⟨nb, 4, none⟩ (.slice c.la c.ln c.lc)).setCell ⟨nb, 5, none⟩ (.slice c.fa c.fn c.fc)).setCell ⟨nb, 11, none⟩ (.bool true)).drew = w3 at *
              have u0 := HS3.out.2.1.cell (i := 0) rfl
              have u6 := HS3.out.2.1.cell (i := 6) rfl
              have u7 := HS3.out.2.1.cell (i := 7) rfl
              have u8 := HS3.out.2.1.cell (i := 8) rfl
              have u9 := HS3.out.2.1.cell (i := 9) rfl
              have u10 := HS3.out.2.1.cell (i := 10) rfl
              have u12 := HS3.out.2.1.cell (i := 12) rfl
              have v0 := HS3.out.2.1.frozen 0
              have v6 := HS3.out.2.1.frozen 6
              have v7 := HS3.out.2.1.frozen 7
              have v8 := HS3.out.2.1.frozen 8
              have v9 := HS3.out.2.1.frozen 9
              have v10 := HS3.out.2.1.frozen 10
              have v12 := HS3.out.2.1.frozen 12
              obtain ⟨qn, q0, q1, q2, q3, q4⟩ := HEB.out _ (below_all H0.out.1 HS3.out.1)
              have HS4 := Lib.hid (show Below w.heap.size w (((((((w3.setCell ⟨nb, 0, none⟩ (sV yn)).setCell ⟨nb, 6, none⟩ (.int .i64 d.k)).setCell ⟨nb, 7, none⟩ (.int .i64 d.n)).setCell ⟨nb, 8, none⟩ (sV d.s)).setCell ⟨nb, 9, none⟩ (.slice d.la d.ln d.lc)).setCell ⟨nb, 10, none⟩ (.slice d.fa d.fn d.fc)).setCell ⟨nb, 12, none⟩ (.bool true)).drew ∧ Own (((((((w3.setCell ⟨nb, 0, none⟩ (sV yn)).setCell ⟨nb, 6, none⟩ (.int .i64 d.k)).setCell ⟨nb, 7, none⟩ (.int .i64 d.n)).setCell ⟨nb, 8, none⟩ (sV d.s)).setCell ⟨nb, 9, none⟩ (.slice d.la d.ln d.lc)).setCell ⟨nb, 10, none⟩ (.slice d.fa d.fn d.fc)).setCell ⟨nb, 12, none⟩ (.bool true)).drew nb [sV yn, .int .i64 c.k, .int .i64 c.n, sV c.s, .slice c.la c.ln c.lc, .slice c.fa c.fn c.fc, .int .i64 d.k, .int .i64 d.n, sV d.s, .slice d.la d.ln d.lc, .slice d.fa d.fn d.fc, .bool true, .bool true] 44 ∧ (((((((w3.setCell ⟨nb, 0, none⟩ (sV yn)).setCell ⟨nb, 6, none⟩ (.int .i64 d.k)).setCell ⟨nb, 7, none⟩ (.int .i64 d.n)).setCell ⟨nb, 8, none⟩ (sV d.s)).setCell ⟨nb, 9, none⟩ (.slice d.la d.ln d.lc)).setCell ⟨nb, 10, none⟩ (.slice d.fa d.fn d.fc)).setCell ⟨nb, 12, none⟩ (.bool true)).drew.ownsRow w.heap.size 44 13 (.slice ar D.length cr) D.length (cs.flatMap PC.cells) from ⟨below_drew (below_set (below_set (below_set (below_set (below_set (below_set (below_set HS3.out.1 hnb (i := 0) (sV yn)) hnb (i := 6) (.int .i64 d.k)) hnb (i := 7) (.int .i64 d.n)) hnb (i := 8) (sV d.s)) hnb (i := 9) (.slice d.la d.ln d.lc)) hnb (i := 10) (.slice d.fa d.fn d.fc)) hnb (i := 12) (.bool true)), Own.drew (((((((HS3.out.2.1.set 0 (sV yn)).set 6 (.int .i64 d.k)).set 7 (.int .i64 d.n)).set 8 (sV d.s)).set 9 (.slice d.la d.ln d.lc)).set 10 (.slice d.fa d.fn d.fc)).set 12 (.bool true)), row_drew (row_setN (row_setN (row_setN (row_setN (row_setN (row_setN (row_setN HS3.out.2.2 hnr (0) (sV yn)) hnr (6) (.int .i64 d.k)) hnr (7) (.int .i64 d.n)) hnr (8) (sV d.s)) hnr (9) (.slice d.la d.ln d.lc)) hnr (10) (.slice d.fa d.fn d.fc)) hnr (12) (.bool true))⟩)
              go_upto_region 9 with (fail)
              go_region
              clear u0 v0 u6 v6 u7 v7 u8 v8 u9 v9 u10 v10 u12 v12 qn q0 q1 q2 q3 q4 HS3
              go_upto_region 11 with (fail)
              change Code.wp Try.prog _ _ _ (((((((w3.setCell ⟨nb, 0, none⟩ (sV yn)).setCell ⟨nb, 6, none⟩ (.int .i64 d.k)).setCell ⟨nb, 7, none⟩ (.int .i64 d.n)).setCell ⟨nb, 8, none⟩ (sV d.s)).setCell ⟨nb, 9, none⟩ (.slice d.la d.ln d.lc)).setCell ⟨nb, 10, none⟩ (.slice d.fa d.fn d.fc)).setCell ⟨nb, 12, none⟩ (.bool true)).drew
              generalize (((((((w3.setCell ⟨nb, 0, none⟩ (sV yn)).setCell ⟨nb, 6, none⟩ (.int .i64 d.k)).setCell ⟨nb, 7, none⟩ (.int .i64 d.n)).setCell ⟨nb, 8, none⟩ (sV d.s)).setCell ⟨nb, 9, none⟩ (.slice d.la d.ln d.lc)).setCell ⟨nb, 10, none⟩ (.slice d.fa d.fn d.fc)).setCell ⟨nb, 12, none⟩ (.bool true)).drew = w4 at *
              have HPC := Lib.hid (show PrOk w0 ⟨yn, c, d, true, true⟩ (yn, (some xt, some yt)) from ⟨rfl, rfl, rfl, HIA.out, HIB.out⟩)
              have z0 := HS4.out.2.1.cell (i := 0) rfl
              have z1 := HS4.out.2.1.cell (i := 1) rfl
              have z2 := HS4.out.2.1.cell (i := 2) rfl
              have z3 := HS4.out.2.1.cell (i := 3) rfl
              have z4 := HS4.out.2.1.cell (i := 4) rfl
              have z5 := HS4.out.2.1.cell (i := 5) rfl
              have z6 := HS4.out.2.1.cell (i := 6) rfl
              have z7 := HS4.out.2.1.cell (i := 7) rfl
              have z8 := HS4.out.2.1.cell (i := 8) rfl
              have z9 := HS4.out.2.1.cell (i := 9) rfl
              have z10 := HS4.out.2.1.cell (i := 10) rfl
              have z11 := HS4.out.2.1.cell (i := 11) rfl
              have z12 := HS4.out.2.1.cell (i := 12) rfl
              have hsz5 := HS4.out.2.1.lt
              have hbl5 := HS4.out.1.size
              have hrow5 := HS4.out.2.2
              have hDl := HDL.out
              go_upto_region 2 with (first | (at_builtin; refine wpList_append_own _ rfl (.tmp 49) (.tmp 51) 40 rfl w.heap.size 44 i44 (.agg #[.string ⟨#[]⟩, .int .i64 0, .int .i64 0, .string ⟨#[]⟩, .slice none 0 0, .slice none 0 0, .int .i64 0, .int .i64 0, .string ⟨#[]⟩, .slice none 0 0, .slice none 0 0, .bool false, .bool false]) 13 184 Try.underlying40 hi44 hz44 hs44 hy44 rfl (by decide) _ _ _ rfl (hrow5.alloc _) ⟨w4.heap.size, 0, none⟩ 1 1 (PC.cells ⟨yn, c, d, true, true⟩) rfl rfl (own_src (Own.new _ _ _)) (PC.one ⟨yn, c, d, true, true⟩) (by unfold maxLen; omega) (by omega) (by simp; omega) ?_; intro v6 w6 hown6 hgrow6 hnil6))
              have hb6 := below_rowq (HS4.out.1.alloc HS4.out.1.size (.cells #[sV yn, .int .i64 c.k, .int .i64 c.n, sV c.s, .slice c.la c.ln c.lc, .slice c.fa c.fn c.fc, .int .i64 d.k, .int .i64 d.n, sV d.s, .slice d.la d.ln d.lc, .slice d.fa d.fn d.fc, .bool true, .bool true] 44)) hgrow6 (fun k hk => by have := own_row hrow5 k hk; omega)
              obtain ⟨ao6, cap6, hu6, -, -, -⟩ := (Flat.of_own hown6).out
              subst hu6
              rw [← snocP] at hown6
              have HEND := Lib.hid (And.intro hb6 (And.intro hown6 (And.intro (show (cs ++ [(⟨yn, c, d, true, true⟩ : PC)]).length = (D ++ [((yn, (some xt, some yt)) : Pq)]).length by simp [HCS.out]) (prOk_snoc HCS.out HPK.out HPC.out))))
              clear z0 z1 z2 z3 z4 z5 z6 z7 z8 z9 z10 z11 z12 hgrow6 hnil6 hown6 hb6 hrow5
              go_roundg (A1.length + B1.length)
              case measure => have := HG.out; simp at this ⊢; omega
              case rel => exact ⟨A1, B1, D ++ [(yn, (some xt, some yt))], cs ++ [⟨yn, c, d, true, true⟩], (some ⟨b, off, none⟩), 0, (some ⟨b2, off2 + 6, none⟩), (cb - 1), _, rfl, rfl, rfl, HFN, HEND.out.1, by rw [List.length_append]; exact HEND.out.2.1, Lib.hid HEND.out.2.2.1, Lib.hid HEND.out.2.2.2, HPN⟩
          · by_cases h1b : cb = 1
            · subst h1b
              have HFN := Lib.hid (And.intro (show Flds w0 (.slice (some ⟨b, off + 6, none⟩) A1.length (ca - 1)) A1 from by simpa [h1a] using HTA.out) (show Flds w0 (.slice (some ⟨b2, off2, none⟩) B1.length 0) B1 from by simpa using HTB.out))
              have hbA := below_all hb (below_alloc wr (.cells #[.string ⟨#[]⟩, .int .i64 0, .int .i64 0, .string ⟨#[]⟩, .slice none 0 0, .slice none 0 0, .int .i64 0, .int .i64 0, .string ⟨#[]⟩, .slice none 0 0, .slice none 0 0, .bool false, .bool false] 44))
              have hnb : w.heap.size ≤ wr.heap.size := hb.size
              have hnr : ¬ (Value.slice ar D.length cr).ownBlock = some wr.heap.size := fun e => by have := (hrow.lt _ e).2; omega
              have HS := Lib.hid (show Below w.heap.size w (wr.alloc (.cells #[.string ⟨#[]⟩, .int .i64 0, .int .i64 0, .string ⟨#[]⟩, .slice none 0 0, .slice none 0 0, .int .i64 0, .int .i64 0, .string ⟨#[]⟩, .slice none 0 0, .slice none 0 0, .bool false, .bool false] 44)) ∧ Own (wr.alloc (.cells #[.string ⟨#[]⟩, .int .i64 0, .int .i64 0, .string ⟨#[]⟩, .slice none 0 0, .slice none 0 0, .int .i64 0, .int .i64 0, .string ⟨#[]⟩, .slice none 0 0, .slice none 0 0, .bool false, .bool false] 44)) wr.heap.size [.string ⟨#[]⟩, .int .i64 0, .int .i64 0, .string ⟨#[]⟩, .slice none 0 0, .slice none 0 0, .int .i64 0, .int .i64 0, .string ⟨#[]⟩, .slice none 0 0, .slice none 0 0, .bool false, .bool false] 44 ∧ (wr.alloc (.cells #[.string ⟨#[]⟩, .int .i64 0, .int .i64 0, .string ⟨#[]⟩, .slice none 0 0, .slice none 0 0, .int .i64 0, .int .i64 0, .string ⟨#[]⟩, .slice none 0 0, .slice none 0 0, .bool false, .bool false] 44)).ownsRow w.heap.size 44 13 (.slice ar D.length cr) D.length (cs.flatMap PC.cells) from ⟨hbA, Own.new _ _ _, hrow.alloc _⟩)
              have C := Lib.hid (nextSide_any _ _ _ _ (wr.alloc (.cells #[.string ⟨#[]⟩, .int .i64 0, .int .i64 0, .string ⟨#[]⟩, .slice none 0 0, .slice none 0 0, .int .i64 0, .int .i64 0, .string ⟨#[]⟩, .slice none 0 0, .slice none 0 0, .bool false, .bool false] 44)) (HF.out.1.all (below_all H0.out.1 hbA)) (HF.out.2.all (below_all H0.out.1 hbA)))
              rw [show sideP ((xn, xt) :: A1) ((yn, yt) :: B1) = 0 from hc] at C
              clear hbA hrow hb
              go_upto_region 4 with (fail)
              change Code.wp Try.prog _ _ _ (wr.alloc (.cells #[.string ⟨#[]⟩, .int .i64 0, .int .i64 0, .string ⟨#[]⟩, .slice none 0 0, .slice none 0 0, .int .i64 0, .int .i64 0, .string ⟨#[]⟩, .slice none 0 0, .slice none 0 0, .bool false, .bool false] 44))
              generalize wr.alloc (.cells #[.string ⟨#[]⟩, .int .i64 0, .int .i64 0, .string ⟨#[]⟩, .slice none 0 0, .slice none 0 0, .int .i64 0, .int .i64 0, .string ⟨#[]⟩, .slice none 0 0, .slice none 0 0, .bool false, .bool false] 44) = V at *
              generalize wr.heap.size = nb at *
              go_wp2_with fail
              refine C.out.mono ?_
              rintro e w2 ⟨rfl, hb2⟩
              have HS2 := Lib.hid (show Below w.heap.size w w2 ∧ Own w2 nb [.string ⟨#[]⟩, .int .i64 0, .int .i64 0, .string ⟨#[]⟩, .slice none 0 0, .slice none 0 0, .int .i64 0, .int .i64 0, .string ⟨#[]⟩, .slice none 0 0, .slice none 0 0, .bool false, .bool false] 44 ∧ w2.ownsRow w.heap.size 44 13 (.slice ar D.length cr) D.length (cs.flatMap PC.cells) from ⟨below_all HS.out.1 hb2, HS.out.2.1.all hb2, own_below HS.out.2.2 hb2⟩)
              clear C hb2 HS HF
              have u0 := HS2.out.2.1.cell (i := 0) rfl
              have u1 := HS2.out.2.1.cell (i := 1) rfl
              have u2 := HS2.out.2.1.cell (i := 2) rfl
              have u3 := HS2.out.2.1.cell (i := 3) rfl
              have u4 := HS2.out.2.1.cell (i := 4) rfl
              have u5 := HS2.out.2.1.cell (i := 5) rfl
              have u11 := HS2.out.2.1.cell (i := 11) rfl
              have v0 := HS2.out.2.1.frozen 0
              have v1 := HS2.out.2.1.frozen 1
              have v2 := HS2.out.2.1.frozen 2
              have v3 := HS2.out.2.1.frozen 3
              have v4 := HS2.out.2.1.frozen 4
              have v5 := HS2.out.2.1.frozen 5
              have v11 := HS2.out.2.1.frozen 11
              obtain ⟨pn, p0, p1, p2, p3, p4⟩ := HEA.out _ (below_all H0.out.1 HS2.out.1)
              have HS3 := Lib.hid (show Below w.heap.size w (((((((w2.setCell ⟨nb, 0, none⟩ (sV xn)).setCell ⟨nb, 1, none⟩ (.int .i64 c.k)).setCell ⟨nb, 2, none⟩ (.int .i64 c.n)).setCell ⟨nb, 3, none⟩ (sV c.s)).setCell ⟨nb, 4, none⟩ (.slice c.la c.ln c.lc)).setCell ⟨nb, 5, none⟩ (.slice c.fa c.fn c.fc)).setCell ⟨nb, 11, none⟩ (.bool true)).drew ∧ Own (((((((w2.setCell ⟨nb, 0, none⟩ (sV xn)).setCell ⟨nb, 1, none⟩ (.int .i64 c.k)).setCell ⟨nb, 2, none⟩ (.int .i64 c.n)).setCell ⟨nb, 3, none⟩ (sV c.s)).setCell ⟨nb, 4, none⟩ (.slice c.la c.ln c.lc)).setCell ⟨nb, 5, none⟩ (.slice c.fa c.fn c.fc)).setCell ⟨nb, 11, none⟩ (.bool true)).drew nb [sV xn, .int .i64 c.k, .int .i64 c.n, sV c.s, .slice c.la c.ln c.lc, .slice c.fa c.fn c.fc, .int .i64 0, .int .i64 0, .string ⟨#[]⟩, .slice none 0 0, .slice none 0 0, .bool true, .bool false] 44 ∧ (((((((w2.setCell ⟨nb, 0, none⟩ (sV xn)).setCell ⟨nb, 1, none⟩ (.int .i64 c.k)).setCell ⟨nb, 2, none⟩ (.int .i64 c.n)).setCell ⟨nb, 3, none⟩ (sV c.s)).setCell ⟨nb, 4, none⟩ (.slice c.la c.ln c.lc)).setCell ⟨nb, 5, none⟩ (.slice c.fa c.fn c.fc)).setCell ⟨nb, 11, none⟩ (.bool true)).drew.ownsRow w.heap.size 44 13 (.slice ar D.length cr) D.length (cs.flatMap PC.cells) from ⟨below_drew (below_set (below_set (below_set (below_set (below_set (below_set (below_set HS2.out.1 hnb (i := 0) (sV xn)) hnb (i := 1) (.int .i64 c.k)) hnb (i := 2) (.int .i64 c.n)) hnb (i := 3) (sV c.s)) hnb (i := 4) (.slice c.la c.ln c.lc)) hnb (i := 5) (.slice c.fa c.fn c.fc)) hnb (i := 11) (.bool true)), Own.drew (((((((HS2.out.2.1.set 0 (sV xn)).set 1 (.int .i64 c.k)).set 2 (.int .i64 c.n)).set 3 (sV c.s)).set 4 (.slice c.la c.ln c.lc)).set 5 (.slice c.fa c.fn c.fc)).set 11 (.bool true)), row_drew (row_setN (row_setN (row_setN (row_setN (row_setN (row_setN (row_setN HS2.out.2.2 hnr (0) (sV xn)) hnr (1) (.int .i64 c.k)) hnr (2) (.int .i64 c.n)) hnr (3) (sV c.s)) hnr (4) (.slice c.la c.ln c.lc)) hnr (5) (.slice c.fa c.fn c.fc)) hnr (11) (.bool true))⟩)
              go_upto_region 6 with (fail)
              go_region
              clear u0 v0 u1 v1 u2 v2 u3 v3 u4 v4 u5 v5 u11 v11 pn p0 p1 p2 p3 p4 HS2
              go_upto_region 8 with (fail)
              change Code.wp Try.prog _ _ _ (((((((w2.setCell ⟨nb, 0, none⟩ (sV xn)).setCell ⟨nb, 1, none⟩ (.int .i64 c.k)).setCell ⟨nb, 2, none⟩ (.int .i64 c.n)).setCell ⟨nb, 3, none⟩ (sV c.s)).setCell ⟨nb, 4, none⟩ (.slice c.la c.ln c.lc)).setCell ⟨nb, 5, none⟩ (.slice c.fa c.fn c.fc)).setCell ⟨nb, 11, none⟩ (.bool true)).drew
              generalize (((((((w2.setCell ⟨nb, 0, none⟩ (sV xn)).setCell ⟨nb, 1, none⟩ (.int .i64 c.k)).setCell ⟨nb, 2, none⟩ (.int .i64 c.n)).setCell ⟨nb, 3, none⟩ (sV c.s)).setCell ⟨nb, 4, none⟩ (.slice c.la c.ln c.lc)).setCell ⟨nb, 5, none⟩ (.slice c.fa c.fn c.fc)).setCell ⟨nb, 11, none⟩ (.bool true)).drew = w3 at *
              have u0 := HS3.out.2.1.cell (i := 0) rfl
              have u6 := HS3.out.2.1.cell (i := 6) rfl
              have u7 := HS3.out.2.1.cell (i := 7) rfl
              have u8 := HS3.out.2.1.cell (i := 8) rfl
              have u9 := HS3.out.2.1.cell (i := 9) rfl
              have u10 := HS3.out.2.1.cell (i := 10) rfl
              have u12 := HS3.out.2.1.cell (i := 12) rfl
              have v0 := HS3.out.2.1.frozen 0
              have v6 := HS3.out.2.1.frozen 6
              have v7 := HS3.out.2.1.frozen 7
              have v8 := HS3.out.2.1.frozen 8
              have v9 := HS3.out.2.1.frozen 9
              have v10 := HS3.out.2.1.frozen 10
              have v12 := HS3.out.2.1.frozen 12
              obtain ⟨qn, q0, q1, q2, q3, q4⟩ := HEB.out _ (below_all H0.out.1 HS3.out.1)
              have HS4 := Lib.hid (show Below w.heap.size w (((((((w3.setCell ⟨nb, 0, none⟩ (sV yn)).setCell ⟨nb, 6, none⟩ (.int .i64 d.k)).setCell ⟨nb, 7, none⟩ (.int .i64 d.n)).setCell ⟨nb, 8, none⟩ (sV d.s)).setCell ⟨nb, 9, none⟩ (.slice d.la d.ln d.lc)).setCell ⟨nb, 10, none⟩ (.slice d.fa d.fn d.fc)).setCell ⟨nb, 12, none⟩ (.bool true)).drew ∧ Own (((((((w3.setCell ⟨nb, 0, none⟩ (sV yn)).setCell ⟨nb, 6, none⟩ (.int .i64 d.k)).setCell ⟨nb, 7, none⟩ (.int .i64 d.n)).setCell ⟨nb, 8, none⟩ (sV d.s)).setCell ⟨nb, 9, none⟩ (.slice d.la d.ln d.lc)).setCell ⟨nb, 10, none⟩ (.slice d.fa d.fn d.fc)).setCell ⟨nb, 12, none⟩ (.bool true)).drew nb [sV yn, .int .i64 c.k, .int .i64 c.n, sV c.s, .slice c.la c.ln c.lc, .slice c.fa c.fn c.fc, .int .i64 d.k, .int .i64 d.n, sV d.s, .slice d.la d.ln d.lc, .slice d.fa d.fn d.fc, .bool true, .bool true] 44 ∧ (((((((w3.setCell ⟨nb, 0, none⟩ (sV yn)).setCell ⟨nb, 6, none⟩ (.int .i64 d.k)).setCell ⟨nb, 7, none⟩ (.int .i64 d.n)).setCell ⟨nb, 8, none⟩ (sV d.s)).setCell ⟨nb, 9, none⟩ (.slice d.la d.ln d.lc)).setCell ⟨nb, 10, none⟩ (.slice d.fa d.fn d.fc)).setCell ⟨nb, 12, none⟩ (.bool true)).drew.ownsRow w.heap.size 44 13 (.slice ar D.length cr) D.length (cs.flatMap PC.cells) from ⟨below_drew (below_set (below_set (below_set (below_set (below_set (below_set (below_set HS3.out.1 hnb (i := 0) (sV yn)) hnb (i := 6) (.int .i64 d.k)) hnb (i := 7) (.int .i64 d.n)) hnb (i := 8) (sV d.s)) hnb (i := 9) (.slice d.la d.ln d.lc)) hnb (i := 10) (.slice d.fa d.fn d.fc)) hnb (i := 12) (.bool true)), Own.drew (((((((HS3.out.2.1.set 0 (sV yn)).set 6 (.int .i64 d.k)).set 7 (.int .i64 d.n)).set 8 (sV d.s)).set 9 (.slice d.la d.ln d.lc)).set 10 (.slice d.fa d.fn d.fc)).set 12 (.bool true)), row_drew (row_setN (row_setN (row_setN (row_setN (row_setN (row_setN (row_setN HS3.out.2.2 hnr (0) (sV yn)) hnr (6) (.int .i64 d.k)) hnr (7) (.int .i64 d.n)) hnr (8) (sV d.s)) hnr (9) (.slice d.la d.ln d.lc)) hnr (10) (.slice d.fa d.fn d.fc)) hnr (12) (.bool true))⟩)
              go_upto_region 9 with (fail)
              go_region
              clear u0 v0 u6 v6 u7 v7 u8 v8 u9 v9 u10 v10 u12 v12 qn q0 q1 q2 q3 q4 HS3
              go_upto_region 11 with (fail)
              change Code.wp Try.prog _ _ _ (((((((w3.setCell ⟨nb, 0, none⟩ (sV yn)).setCell ⟨nb, 6, none⟩ (.int .i64 d.k)).setCell ⟨nb, 7, none⟩ (.int .i64 d.n)).setCell ⟨nb, 8, none⟩ (sV d.s)).setCell ⟨nb, 9, none⟩ (.slice d.la d.ln d.lc)).setCell ⟨nb, 10, none⟩ (.slice d.fa d.fn d.fc)).setCell ⟨nb, 12, none⟩ (.bool true)).drew
              generalize (((((((w3.setCell ⟨nb, 0, none⟩ (sV yn)).setCell ⟨nb, 6, none⟩ (.int .i64 d.k)).setCell ⟨nb, 7, none⟩ (.int .i64 d.n)).setCell ⟨nb, 8, none⟩ (sV d.s)).setCell ⟨nb, 9, none⟩ (.slice d.la d.ln d.lc)).setCell ⟨nb, 10, none⟩ (.slice d.fa d.fn d.fc)).setCell ⟨nb, 12, none⟩ (.bool true)).drew = w4 at *
              have HPC := Lib.hid (show PrOk w0 ⟨yn, c, d, true, true⟩ (yn, (some xt, some yt)) from ⟨rfl, rfl, rfl, HIA.out, HIB.out⟩)
              have z0 := HS4.out.2.1.cell (i := 0) rfl
              have z1 := HS4.out.2.1.cell (i := 1) rfl
              have z2 := HS4.out.2.1.cell (i := 2) rfl
              have z3 := HS4.out.2.1.cell (i := 3) rfl
              have z4 := HS4.out.2.1.cell (i := 4) rfl
              have z5 := HS4.out.2.1.cell (i := 5) rfl
              have z6 := HS4.out.2.1.cell (i := 6) rfl
              have z7 := HS4.out.2.1.cell (i := 7) rfl
              have z8 := HS4.out.2.1.cell (i := 8) rfl
              have z9 := HS4.out.2.1.cell (i := 9) rfl
              have z10 := HS4.out.2.1.cell (i := 10) rfl
              have z11 := HS4.out.2.1.cell (i := 11) rfl
              have z12 := HS4.out.2.1.cell (i := 12) rfl
              have hsz5 := HS4.out.2.1.lt
              have hbl5 := HS4.out.1.size
              have hrow5 := HS4.out.2.2
              have hDl := HDL.out
              go_upto_region 2 with (first | (at_builtin; refine wpList_append_own _ rfl (.tmp 49) (.tmp 51) 40 rfl w.heap.size 44 i44 (.agg #[.string ⟨#[]⟩, .int .i64 0, .int .i64 0, .string ⟨#[]⟩, .slice none 0 0, .slice none 0 0, .int .i64 0, .int .i64 0, .string ⟨#[]⟩, .slice none 0 0, .slice none 0 0, .bool false, .bool false]) 13 184 Try.underlying40 hi44 hz44 hs44 hy44 rfl (by decide) _ _ _ rfl (hrow5.alloc _) ⟨w4.heap.size, 0, none⟩ 1 1 (PC.cells ⟨yn, c, d, true, true⟩) rfl rfl (own_src (Own.new _ _ _)) (PC.one ⟨yn, c, d, true, true⟩) (by unfold maxLen; omega) (by omega) (by simp; omega) ?_; intro v6 w6 hown6 hgrow6 hnil6))
              have hb6 := below_rowq (HS4.out.1.alloc HS4.out.1.size (.cells #[sV yn, .int .i64 c.k, .int .i64 c.n, sV c.s, .slice c.la c.ln c.lc, .slice c.fa c.fn c.fc, .int .i64 d.k, .int .i64 d.n, sV d.s, .slice d.la d.ln d.lc, .slice d.fa d.fn d.fc, .bool true, .bool true] 44)) hgrow6 (fun k hk => by have := own_row hrow5 k hk; omega)
              obtain ⟨ao6, cap6, hu6, -, -, -⟩ := (Flat.of_own hown6).out
              subst hu6
              rw [← snocP] at hown6
              have HEND := Lib.hid (And.intro hb6 (And.intro hown6 (And.intro (show (cs ++ [(⟨yn, c, d, true, true⟩ : PC)]).length = (D ++ [((yn, (some xt, some yt)) : Pq)]).length by simp [HCS.out]) (prOk_snoc HCS.out HPK.out HPC.out))))
              clear z0 z1 z2 z3 z4 z5 z6 z7 z8 z9 z10 z11 z12 hgrow6 hnil6 hown6 hb6 hrow5
              go_roundg (A1.length + B1.length)
              case measure => have := HG.out; simp at this ⊢; omega
              case rel => exact ⟨A1, B1, D ++ [(yn, (some xt, some yt))], cs ++ [⟨yn, c, d, true, true⟩], (some ⟨b, off + 6, none⟩), (ca - 1), (some ⟨b2, off2, none⟩), 0, _, rfl, rfl, rfl, HFN, HEND.out.1, by rw [List.length_append]; exact HEND.out.2.1, Lib.hid HEND.out.2.2.1, Lib.hid HEND.out.2.2.2, HPN⟩
            · have HFN := Lib.hid (And.intro (show Flds w0 (.slice (some ⟨b, off + 6, none⟩) A1.length (ca - 1)) A1 from by simpa [h1a] using HTA.out) (show Flds w0 (.slice (some ⟨b2, off2 + 6, none⟩) B1.length (cb - 1)) B1 from by simpa [h1b] using HTB.out))
              have hbA := below_all hb (below_alloc wr (.cells #[.string ⟨#[]⟩, .int .i64 0, .int .i64 0, .string ⟨#[]⟩, .slice none 0 0, .slice none 0 0, .int .i64 0, .int .i64 0, .string ⟨#[]⟩, .slice none 0 0, .slice none 0 0, .bool false, .bool false] 44))
              have hnb : w.heap.size ≤ wr.heap.size := hb.size
              have hnr : ¬ (Value.slice ar D.length cr).ownBlock = some wr.heap.size := fun e => by have := (hrow.lt _ e).2; omega
              have HS := Lib.hid (show Below w.heap.size w (wr.alloc (.cells #[.string ⟨#[]⟩, .int .i64 0, .int .i64 0, .string ⟨#[]⟩, .slice none 0 0, .slice none 0 0, .int .i64 0, .int .i64 0, .string ⟨#[]⟩, .slice none 0 0, .slice none 0 0, .bool false, .bool false] 44)) ∧ Own (wr.alloc (.cells #[.string ⟨#[]⟩, .int .i64 0, .int .i64 0, .string ⟨#[]⟩, .slice none 0 0, .slice none 0 0, .int .i64 0, .int .i64 0, .string ⟨#[]⟩, .slice none 0 0, .slice none 0 0, .bool false, .bool false] 44)) wr.heap.size [.string ⟨#[]⟩, .int .i64 0, .int .i64 0, .string ⟨#[]⟩, .slice none 0 0, .slice none 0 0, .int .i64 0, .int .i64 0, .string ⟨#[]⟩, .slice none 0 0, .slice none 0 0, .bool false, .bool false] 44 ∧ (wr.alloc (.cells #[.string ⟨#[]⟩, .int .i64 0, .int .i64 0, .string ⟨#[]⟩, .slice none 0 0, .slice none 0 0, .int .i64 0, .int .i64 0, .string ⟨#[]⟩, .slice none 0 0, .slice none 0 0, .bool false, .bool false] 44)).ownsRow w.heap.size 44 13 (.slice ar D.length cr) D.length (cs.flatMap PC.cells) from ⟨hbA, Own.new _ _ _, hrow.alloc _⟩)
              have C := Lib.hid (nextSide_any _ _ _ _ (wr.alloc (.cells #[.string ⟨#[]⟩, .int .i64 0, .int .i64 0, .string ⟨#[]⟩, .slice none 0 0, .slice none 0 0, .int .i64 0, .int .i64 0, .string ⟨#[]⟩, .slice none 0 0, .slice none 0 0, .bool false, .bool false] 44)) (HF.out.1.all (below_all H0.out.1 hbA)) (HF.out.2.all (below_all H0.out.1 hbA)))
              rw [show sideP ((xn, xt) :: A1) ((yn, yt) :: B1) = 0 from hc] at C
              clear hbA hrow hb
              go_upto_region 4 with (fail)
              change Code.wp Try.prog _ _ _ (wr.alloc (.cells #[.string ⟨#[]⟩, .int .i64 0, .int .i64 0, .string ⟨#[]⟩, .slice none 0 0, .slice none 0 0, .int .i64 0, .int .i64 0, .string ⟨#[]⟩, .slice none 0 0, .slice none 0 0, .bool false, .bool false] 44))
              generalize wr.alloc (.cells #[.string ⟨#[]⟩, .int .i64 0, .int .i64 0, .string ⟨#[]⟩, .slice none 0 0, .slice none 0 0, .int .i64 0, .int .i64 0, .string ⟨#[]⟩, .slice none 0 0, .slice none 0 0, .bool false, .bool false] 44) = V at *
              generalize wr.heap.size = nb at *
              go_wp2_with fail
              refine C.out.mono ?_
              rintro e w2 ⟨rfl, hb2⟩
              have HS2 := Lib.hid (show Below w.heap.size w w2 ∧ Own w2 nb [.string ⟨#[]⟩, .int .i64 0, .int .i64 0, .string ⟨#[]⟩, .slice none 0 0, .slice none 0 0, .int .i64 0, .int .i64 0, .string ⟨#[]⟩, .slice none 0 0, .slice none 0 0, .bool false, .bool false] 44 ∧ w2.ownsRow w.heap.size 44 13 (.slice ar D.length cr) D.length (cs.flatMap PC.cells) from ⟨below_all HS.out.1 hb2, HS.out.2.1.all hb2, own_below HS.out.2.2 hb2⟩)
              clear C hb2 HS HF
              have u0 := HS2.out.2.1.cell (i := 0) rfl
              have u1 := HS2.out.2.1.cell (i := 1) rfl
              have u2 := HS2.out.2.1.cell (i := 2) rfl
              have u3 := HS2.out.2.1.cell (i := 3) rfl
              have u4 := HS2.out.2.1.cell (i := 4) rfl
              have u5 := HS2.out.2.1.cell (i := 5) rfl
              have u11 := HS2.out.2.1.cell (i := 11) rfl
              have v0 := HS2.out.2.1.frozen 0
              have v1 := HS2.out.2.1.frozen 1
              have v2 := HS2.out.2.1.frozen 2
              have v3 := HS2.out.2.1.frozen 3
              have v4 := HS2.out.2.1.frozen 4
              have v5 := HS2.out.2.1.frozen 5
              have v11 := HS2.out.2.1.frozen 11
              obtain ⟨pn, p0, p1, p2, p3, p4⟩ := HEA.out _ (below_all H0.out.1 HS2.out.1)
              have HS3 := Lib.hid (show Below w.heap.size w (((((((w2.setCell ⟨nb, 0, none⟩ (sV xn)).setCell ⟨nb, 1, none⟩ (.int .i64 c.k)).setCell ⟨nb, 2, none⟩ (.int .i64 c.n)).setCell ⟨nb, 3, none⟩ (sV c.s)).setCell ⟨nb, 4, none⟩ (.slice c.la c.ln c.lc)).setCell ⟨nb, 5, none⟩ (.slice c.fa c.fn c.fc)).setCell ⟨nb, 11, none⟩ (.bool true)).drew ∧ Own (((((((w2.setCell ⟨nb, 0, none⟩ (sV xn)).setCell ⟨nb, 1, none⟩ (.int .i64 c.k)).setCell ⟨nb, 2, none⟩ (.int .i64 c.n)).setCell ⟨nb, 3, none⟩ (sV c.s)).setCell ⟨nb, 4, none⟩ (.slice c.la c.ln c.lc)).setCell ⟨nb, 5, none⟩ (.slice c.fa c.fn c.fc)).setCell ⟨nb, 11, none⟩ (.bool true)).drew nb [sV xn, .int .i64 c.k, .int .i64 c.n, sV c.s, .slice c.la c.ln c.lc, .slice c.fa c.fn c.fc, .int .i64 0, .int .i64 0, .string ⟨#[]⟩, .slice none 0 0, .slice none 0 0, .bool true, .bool false] 44 ∧ (((((((w2.setCell ⟨nb, 0, none⟩ (sV xn)).setCell ⟨nb, 1, none⟩ (.int .i64 c.k)).setCell ⟨nb, 2, none⟩ (.int .i64 c.n)).setCell ⟨nb, 3, none⟩ (sV c.s)).setCell ⟨nb, 4, none⟩ (.slice c.la c.ln c.lc)).setCell ⟨nb, 5, none⟩ (.slice c.fa c.fn c.fc)).setCell ⟨nb, 11, none⟩ (.bool true)).drew.ownsRow w.heap.size 44 13 (.slice ar D.length cr) D.length (cs.flatMap PC.cells) from ⟨below_drew (below_set (below_set (below_set (below_set (below_set (below_set (below_set HS2.out.1 hnb (i := 0) (sV xn)) hnb (i := 1) (.int .i64 c.k)) hnb (i := 2) (.int .i64 c.n)) hnb (i := 3) (sV c.s)) hnb (i := 4) (.slice c.la c.ln c.lc)) hnb (i := 5) (.slice c.fa c.fn c.fc)) hnb (i := 11) (.bool true)), Own.drew (((((((HS2.out.2.1.set 0 (sV xn)).set 1 (.int .i64 c.k)).set 2 (.int .i64 c.n)).set 3 (sV c.s)).set 4 (.slice c.la c.ln c.lc)).set 5 (.slice c.fa c.fn c.fc)).set 11 (.bool true)), row_drew (row_setN (row_setN (row_setN (row_setN (row_setN (row_setN (row_setN HS2.out.2.2 hnr (0) (sV xn)) hnr (1) (.int .i64 c.k)) hnr (2) (.int .i64 c.n)) hnr (3) (sV c.s)) hnr (4) (.slice c.la c.ln c.lc)) hnr (5) (.slice c.fa c.fn c.fc)) hnr (11) (.bool true))⟩)
              go_upto_region 6 with (fail)
              go_region
              clear u0 v0 u1 v1 u2 v2 u3 v3 u4 v4 u5 v5 u11 v11 pn p0 p1 p2 p3 p4 HS2
              go_upto_region 8 with (fail)
              change Code.wp Try.prog _ _ _ (((((((w2.setCell ⟨nb, 0, none⟩ (sV xn)).setCell ⟨nb, 1, none⟩ (.int .i64 c.k)).setCell ⟨nb, 2, none⟩ (.int .i64 c.n)).setCell ⟨nb, 3, none⟩ (sV c.s)).setCell ⟨nb, 4, none⟩ (.slice c.la c.ln c.lc)).setCell ⟨nb, 5, none⟩ (.slice c.fa c.fn c.fc)).setCell ⟨nb, 11, none⟩ (.bool true)).drew
              generalize (((((((w2.setCell ⟨nb, 0, none⟩ (sV xn)).setCell ⟨nb, 1, none⟩ (.int .i64 c.k)).setCell ⟨nb, 2, none⟩ (.int .i64 c.n)).setCell ⟨nb, 3, none⟩ (sV c.s)).setCell ⟨nb, 4, none⟩ (.slice c.la c.ln c.lc)).setCell ⟨nb, 5, none⟩ (.slice c.fa c.fn c.fc)).setCell ⟨nb, 11, none⟩ (.bool true)).drew = w3 at *
              have u0 := HS3.out.2.1.cell (i := 0) rfl
              have u6 := HS3.out.2.1.cell (i := 6) rfl
              have u7 := HS3.out.2.1.cell (i := 7) rfl
              have u8 := HS3.out.2.1.cell (i := 8) rfl
              have u9 := HS3.out.2.1.cell (i := 9) rfl
              have u10 := HS3.out.2.1.cell (i := 10) rfl
              have u12 := HS3.out.2.1.cell (i := 12) rfl
              have v0 := HS3.out.2.1.frozen 0
              have v6 := HS3.out.2.1.frozen 6
              have v7 := HS3.out.2.1.frozen 7
              have v8 := HS3.out.2.1.frozen 8
              have v9 := HS3.out.2.1.frozen 9
              have v10 := HS3.out.2.1.frozen 10
              have v12 := HS3.out.2.1.frozen 12
              obtain ⟨qn, q0, q1, q2, q3, q4⟩ := HEB.out _ (below_all H0.out.1 HS3.out.1)
              have HS4 := Lib.hid (show Below w.heap.size w (((((((w3.setCell ⟨nb, 0, none⟩ (sV yn)).setCell ⟨nb, 6, none⟩ (.int .i64 d.k)).setCell ⟨nb, 7, none⟩ (.int .i64 d.n)).setCell ⟨nb, 8, none⟩ (sV d.s)).setCell ⟨nb, 9, none⟩ (.slice d.la d.ln d.lc)).setCell ⟨nb, 10, none⟩ (.slice d.fa d.fn d.fc)).setCell ⟨nb, 12, none⟩ (.bool true)).drew ∧ Own (((((((w3.setCell ⟨nb, 0, none⟩ (sV yn)).setCell ⟨nb, 6, none⟩ (.int .i64 d.k)).setCell ⟨nb, 7, none⟩ (.int .i64 d.n)).setCell ⟨nb, 8, none⟩ (sV d.s)).setCell ⟨nb, 9, none⟩ (.slice d.la d.ln d.lc)).setCell ⟨nb, 10, none⟩ (.slice d.fa d.fn d.fc)).setCell ⟨nb, 12, none⟩ (.bool true)).drew nb [sV yn, .int .i64 c.k, .int .i64 c.n, sV c.s, .slice c.la c.ln c.lc, .slice c.fa c.fn c.fc, .int .i64 d.k, .int .i64 d.n, sV d.s, .slice d.la d.ln d.lc, .slice d.fa d.fn d.fc, .bool true, .bool true] 44 ∧ (((((((w3.setCell ⟨nb, 0, none⟩ (sV yn)).setCell ⟨nb, 6, none⟩ (.int .i64 d.k)).setCell ⟨nb, 7, none⟩ (.int .i64 d.n)).setCell ⟨nb, 8, none⟩ (sV d.s)).setCell ⟨nb, 9, none⟩ (.slice d.la d.ln d.lc)).setCell ⟨nb, 10, none⟩ (.slice d.fa d.fn d.fc)).setCell ⟨nb, 12, none⟩ (.bool true)).drew.ownsRow w.heap.size 44 13 (.slice ar D.length cr) D.length (cs.flatMap PC.cells) from ⟨below_drew (below_set (below_set (below_set (below_set (below_set (below_set (below_set HS3.out.1 hnb (i := 0) (sV yn)) hnb (i := 6) (.int .i64 d.k)) hnb (i := 7) (.int .i64 d.n)) hnb (i := 8) (sV d.s)) hnb (i := 9) (.slice d.la d.ln d.lc)) hnb (i := 10) (.slice d.fa d.fn d.fc)) hnb (i := 12) (.bool true)), Own.drew (((((((HS3.out.2.1.set 0 (sV yn)).set 6 (.int .i64 d.k)).set 7 (.int .i64 d.n)).set 8 (sV d.s)).set 9 (.slice d.la d.ln d.lc)).set 10 (.slice d.fa d.fn d.fc)).set 12 (.bool true)), row_drew (row_setN (row_setN (row_setN (row_setN (row_setN (row_setN (row_setN HS3.out.2.2 hnr (0) (sV yn)) hnr (6) (.int .i64 d.k)) hnr (7) (.int .i64 d.n)) hnr (8) (sV d.s)) hnr (9) (.slice d.la d.ln d.lc)) hnr (10) (.slice d.fa d.fn d.fc)) hnr (12) (.bool true))⟩)
              go_upto_region 9 with (fail)
              go_region
              clear u0 v0 u6 v6 u7 v7 u8 v8 u9 v9 u10 v10 u12 v12 qn q0 q1 q2 q3 q4 HS3
              go_upto_region 11 with (fail)
              change Code.wp Try.prog _ _ _ (((((((w3.setCell ⟨nb, 0, none⟩ (sV yn)).setCell ⟨nb, 6, none⟩ (.int .i64 d.k)).setCell ⟨nb, 7, none⟩ (.int .i64 d.n)).setCell ⟨nb, 8, none⟩ (sV d.s)).setCell ⟨nb, 9, none⟩ (.slice d.la d.ln d.lc)).setCell ⟨nb, 10, none⟩ (.slice d.fa d.fn d.fc)).setCell ⟨nb, 12, none⟩ (.bool true)).drew
              generalize (((((((w3.setCell ⟨nb, 0, none⟩ (sV yn)).setCell ⟨nb, 6, none⟩ (.int .i64 d.k)).setCell ⟨nb, 7, none⟩ (.int .i64 d.n)).setCell ⟨nb, 8, none⟩ (sV d.s)).setCell ⟨nb, 9, none⟩ (.slice d.la d.ln d.lc)).setCell ⟨nb, 10, none⟩ (.slice d.fa d.fn d.fc)).setCell ⟨nb, 12, none⟩ (.bool true)).drew = w4 at *
              have HPC := Lib.hid (show PrOk w0 ⟨yn, c, d, true, true⟩ (yn, (some xt, some yt)) from ⟨rfl, rfl, rfl, HIA.out, HIB.out⟩)
              have z0 := HS4.out.2.1.cell (i := 0) rfl
              have z1 := HS4.out.2.1.cell (i := 1) rfl
              have z2 := HS4.out.2.1.cell (i := 2) rfl
              have z3 := HS4.out.2.1.cell (i := 3) rfl
              have z4 := HS4.out.2.1.cell (i := 4) rfl
              have z5 := HS4.out.2.1.cell (i := 5) rfl
              have z6 := HS4.out.2.1.cell (i := 6) rfl
              have z7 := HS4.out.2.1.cell (i := 7) rfl
              have z8 := HS4.out.2.1.cell (i := 8) rfl
              have z9 := HS4.out.2.1.cell (i := 9) rfl
              have z10 := HS4.out.2.1.cell (i := 10) rfl
              have z11 := HS4.out.2.1.cell (i := 11) rfl
              have z12 := HS4.out.2.1.cell (i := 12) rfl
              have hsz5 := HS4.out.2.1.lt
              have hbl5 := HS4.out.1.size
              have hrow5 := HS4.out.2.2
              have hDl := HDL.out
              go_upto_region 2 with (first | (at_builtin; refine wpList_append_own _ rfl (.tmp 49) (.tmp 51) 40 rfl w.heap.size 44 i44 (.agg #[.string ⟨#[]⟩, .int .i64 0, .int .i64 0, .string ⟨#[]⟩, .slice none 0 0, .slice none 0 0, .int .i64 0, .int .i64 0, .string ⟨#[]⟩, .slice none 0 0, .slice none 0 0, .bool false, .bool false]) 13 184 Try.underlying40 hi44 hz44 hs44 hy44 rfl (by decide) _ _ _ rfl (hrow5.alloc _) ⟨w4.heap.size, 0, none⟩ 1 1 (PC.cells ⟨yn, c, d, true, true⟩) rfl rfl (own_src (Own.new _ _ _)) (PC.one ⟨yn, c, d, true, true⟩) (by unfold maxLen; omega) (by omega) (by simp; omega) ?_; intro v6 w6 hown6 hgrow6 hnil6))
              have hb6 := below_rowq (HS4.out.1.alloc HS4.out.1.size (.cells #[sV yn, .int .i64 c.k, .int .i64 c.n, sV c.s, .slice c.la c.ln c.lc, .slice c.fa c.fn c.fc, .int .i64 d.k, .int .i64 d.n, sV d.s, .slice d.la d.ln d.lc, .slice d.fa d.fn d.fc, .bool true, .bool true] 44)) hgrow6 (fun k hk => by have := own_row hrow5 k hk; omega)
              obtain ⟨ao6, cap6, hu6, -, -, -⟩ := (Flat.of_own hown6).out
              subst hu6
              rw [← snocP] at hown6
              have HEND := Lib.hid (And.intro hb6 (And.intro hown6 (And.intro (show (cs ++ [(⟨yn, c, d, true, true⟩ : PC)]).length = (D ++ [((yn, (some xt, some yt)) : Pq)]).length by simp [HCS.out]) (prOk_snoc HCS.out HPK.out HPC.out))))
              clear z0 z1 z2 z3 z4 z5 z6 z7 z8 z9 z10 z11 z12 hgrow6 hnil6 hown6 hb6 hrow5
              go_roundg (A1.length + B1.length)
              case measure => have := HG.out; simp at this ⊢; omega
              case rel => exact ⟨A1, B1, D ++ [(yn, (some xt, some yt))], cs ++ [⟨yn, c, d, true, true⟩], (some ⟨b, off + 6, none⟩), (ca - 1), (some ⟨b2, off2 + 6, none⟩), (cb - 1), _, rfl, rfl, rfl, HFN, HEND.out.1, by rw [List.length_append]; exact HEND.out.2.1, Lib.hid HEND.out.2.2.1, Lib.hid HEND.out.2.2.2, HPN⟩
        · obtain ⟨mm, HPN⟩ : ∃ m, Hid (((xn, xt) :: A1).length + B1.length ≤ m ∧ prs (A.length + B.length) A B = (D ++ [(yn, (none, some yt))]) ++ prs m ((xn, xt) :: A1) B1) := by
            obtain ⟨h1, h2⟩ := HPR.out
            cases n with
            | zero => simp at h1
            | succ m => exact ⟨m, Lib.hid ⟨by simp at h1 ⊢; omega, by rw [h2, prs_gt hc]; simp⟩⟩
          by_cases h1b : cb = 1
          · subst h1b
            have HFN := Lib.hid (And.intro HF.out.1 (show Flds w0 (.slice (some ⟨b2, off2, none⟩) B1.length 0) B1 from by simpa using HTB.out))
            have hbA := below_all hb (below_alloc wr (.cells #[.string ⟨#[]⟩, .int .i64 0, .int .i64 0, .string ⟨#[]⟩, .slice none 0 0, .slice none 0 0, .int .i64 0, .int .i64 0, .string ⟨#[]⟩, .slice none 0 0, .slice none 0 0, .bool false, .bool false] 44))
            have hnb : w.heap.size ≤ wr.heap.size := hb.size
            have hnr : ¬ (Value.slice ar D.length cr).ownBlock = some wr.heap.size := fun e => by have := (hrow.lt _ e).2; omega
            have HS := Lib.hid (show Below w.heap.size w (wr.alloc (.cells #[.string ⟨#[]⟩, .int .i64 0, .int .i64 0, .string ⟨#[]⟩, .slice none 0 0, .slice none 0 0, .int .i64 0, .int .i64 0, .string ⟨#[]⟩, .slice none 0 0, .slice none 0 0, .bool false, .bool false] 44)) ∧ Own (wr.alloc (.cells #[.string ⟨#[]⟩, .int .i64 0, .int .i64 0, .string ⟨#[]⟩, .slice none 0 0, .slice none 0 0, .int .i64 0, .int .i64 0, .string ⟨#[]⟩, .slice none 0 0, .slice none 0 0, .bool false, .bool false] 44)) wr.heap.size [.string ⟨#[]⟩, .int .i64 0, .int .i64 0, .string ⟨#[]⟩, .slice none 0 0, .slice none 0 0, .int .i64 0, .int .i64 0, .string ⟨#[]⟩, .slice none 0 0, .slice none 0 0, .bool false, .bool false] 44 ∧ (wr.alloc (.cells #[.string ⟨#[]⟩, .int .i64 0, .int .i64 0, .string ⟨#[]⟩, .slice none 0 0, .slice none 0 0, .int .i64 0, .int .i64 0, .string ⟨#[]⟩, .slice none 0 0, .slice none 0 0, .bool false, .bool false] 44)).ownsRow w.heap.size 44 13 (.slice ar D.length cr) D.length (cs.flatMap PC.cells) from ⟨hbA, Own.new _ _ _, hrow.alloc _⟩)
            have C := Lib.hid (nextSide_any _ _ _ _ (wr.alloc (.cells #[.string ⟨#[]⟩, .int .i64 0, .int .i64 0, .string ⟨#[]⟩, .slice none 0 0, .slice none 0 0, .int .i64 0, .int .i64 0, .string ⟨#[]⟩, .slice none 0 0, .slice none 0 0, .bool false, .bool false] 44)) (HF.out.1.all (below_all H0.out.1 hbA)) (HF.out.2.all (below_all H0.out.1 hbA)))
            rw [show sideP ((xn, xt) :: A1) ((yn, yt) :: B1) = 1 from hc] at C
            clear hbA hrow hb
            go_upto_region 4 with (fail)
            change Code.wp Try.prog _ _ _ (wr.alloc (.cells #[.string ⟨#[]⟩, .int .i64 0, .int .i64 0, .string ⟨#[]⟩, .slice none 0 0, .slice none 0 0, .int .i64 0, .int .i64 0, .string ⟨#[]⟩, .slice none 0 0, .slice none 0 0, .bool false, .bool false] 44))
            generalize wr.alloc (.cells #[.string ⟨#[]⟩, .int .i64 0, .int .i64 0, .string ⟨#[]⟩, .slice none 0 0, .slice none 0 0, .int .i64 0, .int .i64 0, .string ⟨#[]⟩, .slice none 0 0, .slice none 0 0, .bool false, .bool false] 44) = V at *
            generalize wr.heap.size = nb at *
            go_wp2_with fail
            refine C.out.mono ?_
            rintro e w2 ⟨rfl, hb2⟩
            have HS2 := Lib.hid (show Below w.heap.size w w2 ∧ Own w2 nb [.string ⟨#[]⟩, .int .i64 0, .int .i64 0, .string ⟨#[]⟩, .slice none 0 0, .slice none 0 0, .int .i64 0, .int .i64 0, .string ⟨#[]⟩, .slice none 0 0, .slice none 0 0, .bool false, .bool false] 44 ∧ w2.ownsRow w.heap.size 44 13 (.slice ar D.length cr) D.length (cs.flatMap PC.cells) from ⟨below_all HS.out.1 hb2, HS.out.2.1.all hb2, own_below HS.out.2.2 hb2⟩)
            clear C hb2 HS HF
            have u0 := HS2.out.2.1.cell (i := 0) rfl
            have u6 := HS2.out.2.1.cell (i := 6) rfl
            have u7 := HS2.out.2.1.cell (i := 7) rfl
            have u8 := HS2.out.2.1.cell (i := 8) rfl
            have u9 := HS2.out.2.1.cell (i := 9) rfl
            have u10 := HS2.out.2.1.cell (i := 10) rfl
            have u12 := HS2.out.2.1.cell (i := 12) rfl
            have v0 := HS2.out.2.1.frozen 0
            have v6 := HS2.out.2.1.frozen 6
            have v7 := HS2.out.2.1.frozen 7
            have v8 := HS2.out.2.1.frozen 8
            have v9 := HS2.out.2.1.frozen 9
            have v10 := HS2.out.2.1.frozen 10
            have v12 := HS2.out.2.1.frozen 12
            obtain ⟨qn, q0, q1, q2, q3, q4⟩ := HEB.out _ (below_all H0.out.1 HS2.out.1)
            have HS4 := Lib.hid (show Below w.heap.size w (((((((w2.setCell ⟨nb, 0, none⟩ (sV yn)).setCell ⟨nb, 6, none⟩ (.int .i64 d.k)).setCell ⟨nb, 7, none⟩ (.int .i64 d.n)).setCell ⟨nb, 8, none⟩ (sV d.s)).setCell ⟨nb, 9, none⟩ (.slice d.la d.ln d.lc)).setCell ⟨nb, 10, none⟩ (.slice d.fa d.fn d.fc)).setCell ⟨nb, 12, none⟩ (.bool true)).drew ∧ Own (((((((w2.setCell ⟨nb, 0, none⟩ (sV yn)).setCell ⟨nb, 6, none⟩ (.int .i64 d.k)).setCell ⟨nb, 7, none⟩ (.int .i64 d.n)).setCell ⟨nb, 8, none⟩ (sV d.s)).setCell ⟨nb, 9, none⟩ (.slice d.la d.ln d.lc)).setCell ⟨nb, 10, none⟩ (.slice d.fa d.fn d.fc)).setCell ⟨nb, 12, none⟩ (.bool true)).drew nb [sV yn, .int .i64 0, .int .i64 0, .string ⟨#[]⟩, .slice none 0 0, .slice none 0 0, .int .i64 d.k, .int .i64 d.n, sV d.s, .slice d.la d.ln d.lc, .slice d.fa d.fn d.fc, .bool false, .bool true] 44 ∧ (((((((w2.setCell ⟨nb, 0, none⟩ (sV yn)).setCell ⟨nb, 6, none⟩ (.int .i64 d.k)).setCell ⟨nb, 7, none⟩ (.int .i64 d.n)).setCell ⟨nb, 8, none⟩ (sV d.s)).setCell ⟨nb, 9, none⟩ (.slice d.la d.ln d.lc)).setCell ⟨nb, 10, none⟩ (.slice d.fa d.fn d.fc)).setCell ⟨nb, 12, none⟩ (.bool true)).drew.ownsRow w.heap.size 44 13 (.slice ar D.length cr) D.length (cs.flatMap PC.cells) from ⟨below_drew (below_set (below_set (below_set (below_set (below_set (below_set (below_set HS2.out.1 hnb (i := 0) (sV yn)) hnb (i := 6) (.int .i64 d.k)) hnb (i := 7) (.int .i64 d.n)) hnb (i := 8) (sV d.s)) hnb (i := 9) (.slice d.la d.ln d.lc)) hnb (i := 10) (.slice d.fa d.fn d.fc)) hnb (i := 12) (.bool true)), Own.drew (((((((HS2.out.2.1.set 0 (sV yn)).set 6 (.int .i64 d.k)).set 7 (.int .i64 d.n)).set 8 (sV d.s)).set 9 (.slice d.la d.ln d.lc)).set 10 (.slice d.fa d.fn d.fc)).set 12 (.bool true)), row_drew (row_setN (row_setN (row_setN (row_setN (row_setN (row_setN (row_setN HS2.out.2.2 hnr (0) (sV yn)) hnr (6) (.int .i64 d.k)) hnr (7) (.int .i64 d.n)) hnr (8) (sV d.s)) hnr (9) (.slice d.la d.ln d.lc)) hnr (10) (.slice d.fa d.fn d.fc)) hnr (12) (.bool true))⟩)
            go_upto_region 9 with (fail)
            go_region
            clear u0 v0 u6 v6 u7 v7 u8 v8 u9 v9 u10 v10 u12 v12 qn q0 q1 q2 q3 q4 HS2
            go_upto_region 11 with (fail)
            change Code.wp Try.prog _ _ _ (((((((w2.setCell ⟨nb, 0, none⟩ (sV yn)).setCell ⟨nb, 6, none⟩ (.int .i64 d.k)).setCell ⟨nb, 7, none⟩ (.int .i64 d.n)).setCell ⟨nb, 8, none⟩ (sV d.s)).setCell ⟨nb, 9, none⟩ (.slice d.la d.ln d.lc)).setCell ⟨nb, 10, none⟩ (.slice d.fa d.fn d.fc)).setCell ⟨nb, 12, none⟩ (.bool true)).drew
            generalize (((((((w2.setCell ⟨nb, 0, none⟩ (sV yn)).setCell ⟨nb, 6, none⟩ (.int .i64 d.k)).setCell ⟨nb, 7, none⟩ (.int .i64 d.n)).setCell ⟨nb, 8, none⟩ (sV d.s)).setCell ⟨nb, 9, none⟩ (.slice d.la d.ln d.lc)).setCell ⟨nb, 10, none⟩ (.slice d.fa d.fn d.fc)).setCell ⟨nb, 12, none⟩ (.bool true)).drew = w4 at *
            have HPC := Lib.hid (show PrOk w0 ⟨yn, VC0, d, false, true⟩ (yn, (none, some yt)) from ⟨rfl, rfl, rfl, (is_vc0 w0), HIB.out⟩)
            have z0 := HS4.out.2.1.cell (i := 0) rfl
            have z1 := HS4.out.2.1.cell (i := 1) rfl
            have z2 := HS4.out.2.1.cell (i := 2) rfl
            have z3 := HS4.out.2.1.cell (i := 3) rfl
            have z4 := HS4.out.2.1.cell (i := 4) rfl
            have z5 := HS4.out.2.1.cell (i := 5) rfl
            have z6 := HS4.out.2.1.cell (i := 6) rfl
            have z7 := HS4.out.2.1.cell (i := 7) rfl
            have z8 := HS4.out.2.1.cell (i := 8) rfl
            have z9 := HS4.out.2.1.cell (i := 9) rfl
            have z10 := HS4.out.2.1.cell (i := 10) rfl
            have z11 := HS4.out.2.1.cell (i := 11) rfl
            have z12 := HS4.out.2.1.cell (i := 12) rfl
            have hsz5 := HS4.out.2.1.lt
            have hbl5 := HS4.out.1.size
            have hrow5 := HS4.out.2.2
            have hDl := HDL.out
            go_upto_region 2 with (first | (at_builtin; refine wpList_append_own _ rfl (.tmp 49) (.tmp 51) 40 rfl w.heap.size 44 i44 (.agg #[.string ⟨#[]⟩, .int .i64 0, .int .i64 0, .string ⟨#[]⟩, .slice none 0 0, .slice none 0 0, .int .i64 0, .int .i64 0, .string ⟨#[]⟩, .slice none 0 0, .slice none 0 0, .bool false, .bool false]) 13 184 Try.underlying40 hi44 hz44 hs44 hy44 rfl (by decide) _ _ _ rfl (hrow5.alloc _) ⟨w4.heap.size, 0, none⟩ 1 1 (PC.cells ⟨yn, VC0, d, false, true⟩) rfl rfl (own_src (Own.new _ _ _)) (PC.one ⟨yn, VC0, d, false, true⟩) (by unfold maxLen; omega) (by omega) (by simp; omega) ?_; intro v6 w6 hown6 hgrow6 hnil6))
            have hb6 := below_rowq (HS4.out.1.alloc HS4.out.1.size (.cells #[sV yn, .int .i64 0, .int .i64 0, .string ⟨#[]⟩, .slice none 0 0, .slice none 0 0, .int .i64 d.k, .int .i64 d.n, sV d.s, .slice d.la d.ln d.lc, .slice d.fa d.fn d.fc, .bool false, .bool true] 44)) hgrow6 (fun k hk => by have := own_row hrow5 k hk; omega)
            obtain ⟨ao6, cap6, hu6, -, -, -⟩ := (Flat.of_own hown6).out
            subst hu6
            rw [← snocP] at hown6
            have HEND := Lib.hid (And.intro hb6 (And.intro hown6 (And.intro (show (cs ++ [(⟨yn, VC0, d, false, true⟩ : PC)]).length = (D ++ [((yn, (none, some yt)) : Pq)]).length by simp [HCS.out]) (prOk_snoc HCS.out HPK.out HPC.out))))
            clear z0 z1 z2 z3 z4 z5 z6 z7 z8 z9 z10 z11 z12 hgrow6 hnil6 hown6 hb6 hrow5
            go_roundg (((xn, xt) :: A1).length + B1.length)
            case measure => have := HG.out; simp at this ⊢; omega
            case rel => exact ⟨((xn, xt) :: A1), B1, D ++ [(yn, (none, some yt))], cs ++ [⟨yn, VC0, d, false, true⟩], (some ⟨b, off, none⟩), ca, (some ⟨b2, off2, none⟩), 0, _, rfl, rfl, rfl, HFN, HEND.out.1, by rw [List.length_append]; exact HEND.out.2.1, Lib.hid HEND.out.2.2.1, Lib.hid HEND.out.2.2.2, HPN⟩
          · have HFN := Lib.hid (And.intro HF.out.1 (show Flds w0 (.slice (some ⟨b2, off2 + 6, none⟩) B1.length (cb - 1)) B1 from by simpa [h1b] using HTB.out))
            have hbA := below_all hb (below_alloc wr (.cells #[.string ⟨#[]⟩, .int .i64 0, .int .i64 0, .string ⟨#[]⟩, .slice none 0 0, .slice none 0 0, .int .i64 0, .int .i64 0, .string ⟨#[]⟩, .slice none 0 0, .slice none 0 0, .bool false, .bool false] 44))
            have hnb : w.heap.size ≤ wr.heap.size := hb.size
            have hnr : ¬ (Value.slice ar D.length cr).ownBlock = some wr.heap.size := fun e => by have := (hrow.lt _ e).2; omega
            have HS := Lib.hid (show Below w.heap.size w (wr.alloc (.cells #[.string ⟨#[]⟩, .int .i64 0, .int .i64 0, .string ⟨#[]⟩, .slice none 0 0, .slice none 0 0, .int .i64 0, .int .i64 0, .string ⟨#[]⟩, .slice none 0 0, .slice none 0 0, .bool false, .bool false] 44)) ∧ Own (wr.alloc (.cells #[.string ⟨#[]⟩, .int .i64 0, .int .i64 0, .string ⟨#[]⟩, .slice none 0 0, .slice none 0 0, .int .i64 0, .int .i64 0, .string ⟨#[]⟩, .slice none 0 0, .slice none 0 0, .bool false, .bool false] 44)) wr.heap.size [.string ⟨#[]⟩, .int .i64 0, .int .i64 0, .string ⟨#[]⟩, .slice none 0 0, .slice none 0 0, .int .i64 0, .int .i64 0, .string ⟨#[]⟩, .slice none 0 0, .slice none 0 0, .bool false, .bool false] 44 ∧ (wr.alloc (.cells #[.string ⟨#[]⟩, .int .i64 0, .int .i64 0, .string ⟨#[]⟩, .slice none 0 0, .slice none 0 0, .int .i64 0, .int .i64 0, .string ⟨#[]⟩, .slice none 0 0, .slice none 0 0, .bool false, .bool false] 44)).ownsRow w.heap.size 44 13 (.slice ar D.length cr) D.length (cs.flatMap PC.cells) from ⟨hbA, Own.new _ _ _, hrow.alloc _⟩)
            have C := Lib.hid (nextSide_any _ _ _ _ (wr.alloc (.cells #[.string ⟨#[]⟩, .int .i64 0, .int .i64 0, .string ⟨#[]⟩, .slice none 0 0, .slice none 0 0, .int .i64 0, .int .i64 0, .string ⟨#[]⟩, .slice none 0 0, .slice none 0 0, .bool false, .bool false] 44)) (HF.out.1.all (below_all H0.out.1 hbA)) (HF.out.2.all (below_all H0.out.1 hbA)))
            rw [show sideP ((xn, xt) :: A1) ((yn, yt) :: B1) = 1 from hc] at C
            clear hbA hrow hb
            go_upto_region 4 with (fail)
            change Code.wp Try.prog _ _ _ (wr.alloc (.cells #[.string ⟨#[]⟩, .int .i64 0, .int .i64 0, .string ⟨#[]⟩, .slice none 0 0, .slice none 0 0, .int .i64 0, .int .i64 0, .string ⟨#[]⟩, .slice none 0 0, .slice none 0 0, .bool false, .bool false] 44))
            generalize wr.alloc (.cells #[.string ⟨#[]⟩, .int .i64 0, .int .i64 0, .string ⟨#[]⟩, .slice none 0 0, .slice none 0 0, .int .i64 0, .int .i64 0, .string ⟨#[]⟩, .slice none 0 0, .slice none 0 0, .bool false, .bool false] 44) = V at *
            generalize wr.heap.size = nb at *
            go_wp2_with fail
            refine C.out.mono ?_
            rintro e w2 ⟨rfl, hb2⟩
            have HS2 := Lib.hid (show Below w.heap.size w w2 ∧ Own w2 nb [.string ⟨#[]⟩, .int .i64 0, .int .i64 0, .string ⟨#[]⟩, .slice none 0 0, .slice none 0 0, .int .i64 0, .int .i64 0, .string ⟨#[]⟩, .slice none 0 0, .slice none 0 0, .bool false, .bool false] 44 ∧ w2.ownsRow w.heap.size 44 13 (.slice ar D.length cr) D.length (cs.flatMap PC.cells) from ⟨below_all HS.out.1 hb2, HS.out.2.1.all hb2, own_below HS.out.2.2 hb2⟩)
            clear C hb2 HS HF
            have u0 := HS2.out.2.1.cell (i := 0) rfl
            have u6 := HS2.out.2.1.cell (i := 6) rfl
            have u7 := HS2.out.2.1.cell (i := 7) rfl
            have u8 := HS2.out.2.1.cell (i := 8) rfl
            have u9 := HS2.out.2.1.cell (i := 9) rfl
            have u10 := HS2.out.2.1.cell (i := 10) rfl
            have u12 := HS2.out.2.1.cell (i := 12) rfl
            have v0 := HS2.out.2.1.frozen 0
            have v6 := HS2.out.2.1.frozen 6
            have v7 := HS2.out.2.1.frozen 7
            have v8 := HS2.out.2.1.frozen 8
            have v9 := HS2.out.2.1.frozen 9
            have v10 := HS2.out.2.1.frozen 10
            have v12 := HS2.out.2.1.frozen 12
            obtain ⟨qn, q0, q1, q2, q3, q4⟩ := HEB.out _ (below_all H0.out.1 HS2.out.1)
            have HS4 := Lib.hid (show Below w.heap.size w (((((((w2.setCell ⟨nb, 0, none⟩ (sV yn)).setCell ⟨nb, 6, none⟩ (.int .i64 d.k)).setCell ⟨nb, 7, none⟩ (.int .i64 d.n)).setCell ⟨nb, 8, none⟩ (sV d.s)).setCell ⟨nb, 9, none⟩ (.slice d.la d.ln d.lc)).setCell ⟨nb, 10, none⟩ (.slice d.fa d.fn d.fc)).setCell ⟨nb, 12, none⟩ (.bool true)).drew ∧ Own (((((((w2.setCell ⟨nb, 0, none⟩ (sV yn)).setCell ⟨nb, 6, none⟩ (.int .i64 d.k)).setCell ⟨nb, 7, none⟩ (.int .i64 d.n)).setCell ⟨nb, 8, none⟩ (sV d.s)).setCell ⟨nb, 9, none⟩ (.slice d.la d.ln d.lc)).setCell ⟨nb, 10, none⟩ (.slice d.fa d.fn d.fc)).setCell ⟨nb, 12, none⟩ (.bool true)).drew nb [sV yn, .int .i64 0, .int .i64 0, .string ⟨#[]⟩, .slice none 0 0, .slice none 0 0, .int .i64 d.k, .int .i64 d.n, sV d.s, .slice d.la d.ln d.lc, .slice d.fa d.fn d.fc, .bool false, .bool true] 44 ∧ (((((((w2.setCell ⟨nb, 0, none⟩ (sV yn)).setCell ⟨nb, 6, none⟩ (.int .i64 d.k)).setCell ⟨nb, 7, none⟩ (.int .i64 d.n)).setCell ⟨nb, 8, none⟩ (sV d.s)).setCell ⟨nb, 9, none⟩ (.slice d.la d.ln d.lc)).setCell ⟨nb, 10, none⟩ (.slice d.fa d.fn d.fc)).setCell ⟨nb, 12, none⟩ (.bool true)).drew.ownsRow w.heap.size 44 13 (.slice ar D.length cr) D.length (cs.flatMap PC.cells) from ⟨below_drew (below_set (below_set (below_set (below_set (below_set (below_set (below_set HS2.out.1 hnb (i := 0) (sV yn)) hnb (i := 6) (.int .i64 d.k)) hnb (i := 7) (.int .i64 d.n)) hnb (i := 8) (sV d.s)) hnb (i := 9) (.slice d.la d.ln d.lc)) hnb (i := 10) (.slice d.fa d.fn d.fc)) hnb (i := 12) (.bool true)), Own.drew (((((((HS2.out.2.1.set 0 (sV yn)).set 6 (.int .i64 d.k)).set 7 (.int .i64 d.n)).set 8 (sV d.s)).set 9 (.slice d.la d.ln d.lc)).set 10 (.slice d.fa d.fn d.fc)).set 12 (.bool true)), row_drew (row_setN (row_setN (row_setN (row_setN (row_setN (row_setN (row_setN HS2.out.2.2 hnr (0) (sV yn)) hnr (6) (.int .i64 d.k)) hnr (7) (.int .i64 d.n)) hnr (8) (sV d.s)) hnr (9) (.slice d.la d.ln d.lc)) hnr (10) (.slice d.fa d.fn d.fc)) hnr (12) (.bool true))⟩)
            go_upto_region 9 with (fail)
            go_region
            clear u0 v0 u6 v6 u7 v7 u8 v8 u9 v9 u10 v10 u12 v12 qn q0 q1 q2 q3 q4 HS2
            go_upto_region 11 with (fail)
            change Code.wp Try.prog _ _ _ (((((((w2.setCell ⟨nb, 0, none⟩ (sV yn)).setCell ⟨nb, 6, none⟩ (.int .i64 d.k)).setCell ⟨nb, 7, none⟩ (.int .i64 d.n)).setCell ⟨nb, 8, none⟩ (sV d.s)).setCell ⟨nb, 9, none⟩ (.slice d.la d.ln d.lc)).setCell ⟨nb, 10, none⟩ (.slice d.fa d.fn d.fc)).setCell ⟨nb, 12, none⟩ (.bool true)).drew
            generalize (((((((w2.setCell ⟨nb, 0, none⟩ (sV yn)).setCell ⟨nb, 6, none⟩ (.int .i64 d.k)).setCell ⟨nb, 7, none⟩ (.int .i64 d.n)).setCell ⟨nb, 8, none⟩ (sV d.s)).setCell ⟨nb, 9, none⟩ (.slice d.la d.ln d.lc)).setCell ⟨nb, 10, none⟩ (.slice d.fa d.fn d.fc)).setCell ⟨nb, 12, none⟩ (.bool true)).drew = w4 at *
            have HPC := Lib.hid (show PrOk w0 ⟨yn, VC0, d, false, true⟩ (yn, (none, some yt)) from ⟨rfl, rfl, rfl, (is_vc0 w0), HIB.out⟩)
            have z0 := HS4.out.2.1.cell (i := 0) rfl
            have z1 := HS4.out.2.1.cell (i := 1) rfl
            have z2 := HS4.out.2.1.cell (i := 2) rfl
            have z3 := HS4.out.2.1.cell (i := 3) rfl
            have z4 := HS4.out.2.1.cell (i := 4) rfl
            have z5 := HS4.out.2.1.cell (i := 5) rfl
            have z6 := HS4.out.2.1.cell (i := 6) rfl
            have z7 := HS4.out.2.1.cell (i := 7) rfl
            have z8 := HS4.out.2.1.cell (i := 8) rfl
            have z9 := HS4.out.2.1.cell (i := 9) rfl
            have z10 := HS4.out.2.1.cell (i := 10) rfl
            have z11 := HS4.out.2.1.cell (i := 11) rfl
            have z12 := HS4.out.2.1.cell (i := 12) rfl
            have hsz5 := HS4.out.2.1.lt
            have hbl5 := HS4.out.1.size
            have hrow5 := HS4.out.2.2
            have hDl := HDL.out
            go_upto_region 2 with (first | (at_builtin; refine wpList_append_own _ rfl (.tmp 49) (.tmp 51) 40 rfl w.heap.size 44 i44 (.agg #[.string ⟨#[]⟩, .int .i64 0, .int .i64 0, .string ⟨#[]⟩, .slice none 0 0, .slice none 0 0, .int .i64 0, .int .i64 0, .string ⟨#[]⟩, .slice none 0 0, .slice none 0 0, .bool false, .bool false]) 13 184 Try.underlying40 hi44 hz44 hs44 hy44 rfl (by decide) _ _ _ rfl (hrow5.alloc _) ⟨w4.heap.size, 0, none⟩ 1 1 (PC.cells ⟨yn, VC0, d, false, true⟩) rfl rfl (own_src (Own.new _ _ _)) (PC.one ⟨yn, VC0, d, false, true⟩) (by unfold maxLen; omega) (by omega) (by simp; omega) ?_; intro v6 w6 hown6 hgrow6 hnil6))
            have hb6 := below_rowq (HS4.out.1.alloc HS4.out.1.size (.cells #[sV yn, .int .i64 0, .int .i64 0, .string ⟨#[]⟩, .slice none 0 0, .slice none 0 0, .int .i64 d.k, .int .i64 d.n, sV d.s, .slice d.la d.ln d.lc, .slice d.fa d.fn d.fc, .bool false, .bool true] 44)) hgrow6 (fun k hk => by have := own_row hrow5 k hk; omega)
            obtain ⟨ao6, cap6, hu6, -, -, -⟩ := (Flat.of_own hown6).out
            subst hu6
            rw [← snocP] at hown6
            have HEND := Lib.hid (And.intro hb6 (And.intro hown6 (And.intro (show (cs ++ [(⟨yn, VC0, d, false, true⟩ : PC)]).length = (D ++ [((yn, (none, some yt)) : Pq)]).length by simp [HCS.out]) (prOk_snoc HCS.out HPK.out HPC.out))))
            clear z0 z1 z2 z3 z4 z5 z6 z7 z8 z9 z10 z11 z12 hgrow6 hnil6 hown6 hb6 hrow5
            go_roundg (((xn, xt) :: A1).length + B1.length)
            case measure => have := HG.out; simp at this ⊢; omega
            case rel => exact ⟨((xn, xt) :: A1), B1, D ++ [(yn, (none, some yt))], cs ++ [⟨yn, VC0, d, false, true⟩], (some ⟨b, off, none⟩), ca, (some ⟨b2, off2 + 6, none⟩), (cb - 1), _, rfl, rfl, rfl, HFN, HEND.out.1, by rw [List.length_append]; exact HEND.out.2.1, Lib.hid HEND.out.2.2.1, Lib.hid HEND.out.2.2.2, HPN⟩
end Go.Proofs.Ytinenbgdkchghaa
