/- The contract of the reference's list. -/
import Derived.Test.YtfohhokdcobhjaaDoorZo
namespace Go.Proofs.YtfohhokdcobhjaaDoor
open Go.RowKit Go.Sort Go.Proofs.LawFrame

/-- what list gives: the values in order and the rest of the tokens, or nothing -/
structure RGot (base : Nat) (key : Str) (op : Int) (l : List Str) (o : Option (List Str × List Str)) (e : Ending) (w' : World) : Prop where
  bad : o = none → e = .returned (.agg #[sV [], .int .i64 0, .slice none 0 0, .int .i64 0, .bool true])
  good : ∀ vals rest, o = some (vals, rest) → ∃ (v' : Value) (I : Nat), e = .returned (.agg #[sV key, .int .i64 op, v', .int .i64 (I : Int), .bool false]) ∧ w'.ownsRow base 9 1 v' vals.length (vals.map sV) ∧ l.drop I = rest ∧ I ≤ l.length
theorem row_set {w : World} {base : Nat} {v : Value} {n : Nat} {xs : List Value} (h : w.ownsRow base 9 1 v n xs) {b : Nat} (hb : b < base) (i : Nat) (x : Value) : (w.setCell ⟨b, i, none⟩ x).ownsRow base 9 1 v n xs :=
  h.kept (row := some b) ⟨rfl, rfl, rfl, Nat.le_of_eq (by unfold World.setCell; simp), fun k _ hne => Below.heap_setCell _ _ _ _ (fun e => hne (by rw [e]))⟩ (by
    cases hv : v.ownBlock with
    | none => exact Or.inl rfl
    | some k => exact Or.inr (by have := own_row h k hv; intro e; cases e; omega))
theorem row_weak {w : World} {base base' : Nat} {v : Value} {n : Nat} {xs : List Value} (h : w.ownsRow base 9 1 v n xs) (hb : base' ≤ base) : w.ownsRow base' 9 1 v n xs := by
  refine ⟨h.1, ?_⟩
  rcases h.2 with h | ⟨g, cap, cur, h1, h2, h3⟩
  · exact Or.inl h
  · exact Or.inr ⟨g, cap, cur, h1, Nat.le_trans hb h2, h3⟩

set_option maxHeartbeats 4000000 in
set_option maxRecDepth 4000 in
theorem rlist_any (v : Value) (l : List Str) (i0 : Nat) (key : Str) (op : Int) (w : World) (hv : Strs w v l) (hl : l.length ≤ 20000) (hi : i0 ≤ 20002) :
    Calls Tryd.prog 66 #[v, .int .i64 (i0 : Int), .agg #[sV key, .int .i64 op, .slice none 0 0]] w fun e w' => Below w.heap.size w w' ∧ RGot w.heap.size key op l (pList (l.drop i0)) e w' := by
  obtain ⟨ao, cap, rfl, hlc, hcap, -⟩ := hv.out
  unfold maxLen at hcap
  have hbE : Below w.heap.size w ((w.alloc (.cells #[sV key, .int .i64 op, .slice none 0 0] 43)).alloc (.cells #[sV [], .int .i64 0, .slice none 0 0, .int .i64 0, .bool false] 61)) := ((Below.refl _ _).alloc (Nat.le_refl _) _).alloc (by simp) _
  have oB : Own ((w.alloc (.cells #[sV key, .int .i64 op, .slice none 0 0] 43)).alloc (.cells #[sV [], .int .i64 0, .slice none 0 0, .int .i64 0, .bool false] 61)) w.heap.size [sV key, .int .i64 op, .slice none 0 0] 43 := (Own.new _ _ _).alloc _
  have oR : Own ((w.alloc (.cells #[sV key, .int .i64 op, .slice none 0 0] 43)).alloc (.cells #[sV [], .int .i64 0, .slice none 0 0, .int .i64 0, .bool false] 61)) (w.heap.size + 1) [sV [], .int .i64 0, .slice none 0 0, .int .i64 0, .bool false] 61 := Own.new_at (by rw [size_alloc]) _ _
  have CA0 := Lib.hid (at_any _ l i0 _ (hv.all hbE) (by omega))
  go_enter Tryd.func66, Tryd.ntmps66
  go_wp2_with fail
  generalize ((w.alloc (.cells #[sV key, .int .i64 op, .slice none 0 0] 43)).alloc (.cells #[sV [], .int .i64 0, .slice none 0 0, .int .i64 0, .bool false] 61)) = W at *
  refine CA0.out.mono ?_
  rintro e w' ⟨rfl, rfl⟩
  have HH : Hid (hd (l.drop i0) = tokAt l i0) := Lib.hid (hd_drop l i0)
  generalize tokAt l i0 = t0 at *
  clear CA0
  cases hq0 : (t0 == [40])
  · have HP : Hid (pList (l.drop i0) = none) := Lib.hid (by rw [pList_plB, if_neg (by rw [HH.out]; simpa using hq0)])
    have r0 : W.cell? ⟨w.heap.size + 1, 0, none⟩ = some (sV []) := oR.cell rfl
    have f0 := oR.frozen 0
    have r1 : W.cell? ⟨w.heap.size + 1, 1, none⟩ = some (.int .i64 0) := oR.cell rfl
    have f1 := oR.frozen 1
    have r2 : W.cell? ⟨w.heap.size + 1, 2, none⟩ = some (.slice none 0 0) := oR.cell rfl
    have f2 := oR.frozen 2
    have r3 : W.cell? ⟨w.heap.size + 1, 3, none⟩ = some (.int .i64 0) := oR.cell rfl
    have f3 := oR.frozen 3
    have r4 : W.cell? ⟨w.heap.size + 1, 4, none⟩ = some (.bool false) := oR.cell rfl
    have f4 := oR.frozen 4
    have HO := Lib.hid (And.intro hbE oR)
    clear hbE oR oB
    go_wp2
    have oS := (((((HO.out.2.set 0 (sV [])).set 1 (.int .i64 0)).set 2 (.slice none 0 0)).set 3 (.int .i64 0)).set 4 (.bool true))
    have hbS := (below_set (below_set (below_set (below_set (below_set HO.out.1 (by omega : w.heap.size ≤ w.heap.size + 1) (i := 0) (sV [])) (by omega : w.heap.size ≤ w.heap.size + 1) (i := 1) (.int .i64 0)) (by omega : w.heap.size ≤ w.heap.size + 1) (i := 2) (.slice none 0 0)) (by omega : w.heap.size ≤ w.heap.size + 1) (i := 3) (.int .i64 0)) (by omega : w.heap.size ≤ w.heap.size + 1) (i := 4) (.bool true))
    clear r0 r1 r2 r3 r4 f0 f1 f2 f3 f4
    change bodyPost Tryd.prog Tryd.f66 _ _ _ (((((W.setCell ⟨w.heap.size + 1, 0, none⟩ (sV [])).setCell ⟨w.heap.size + 1, 1, none⟩ (.int .i64 0)).setCell ⟨w.heap.size + 1, 2, none⟩ (.slice none 0 0)).setCell ⟨w.heap.size + 1, 3, none⟩ (.int .i64 0)).setCell ⟨w.heap.size + 1, 4, none⟩ (.bool true))
    generalize (((((W.setCell ⟨w.heap.size + 1, 0, none⟩ (sV [])).setCell ⟨w.heap.size + 1, 1, none⟩ (.int .i64 0)).setCell ⟨w.heap.size + 1, 2, none⟩ (.slice none 0 0)).setCell ⟨w.heap.size + 1, 3, none⟩ (.int .i64 0)).setCell ⟨w.heap.size + 1, 4, none⟩ (.bool true)) = U at *
    have c0 : U.cell? ⟨w.heap.size + 1, 0, none⟩ = some (sV []) := oS.cell rfl
    have c1 : U.cell? ⟨w.heap.size + 1, 1, none⟩ = some (.int .i64 0) := oS.cell rfl
    have c2 : U.cell? ⟨w.heap.size + 1, 2, none⟩ = some (.slice none 0 0) := oS.cell rfl
    have c3 : U.cell? ⟨w.heap.size + 1, 3, none⟩ = some (.int .i64 0) := oS.cell rfl
    have c4 : U.cell? ⟨w.heap.size + 1, 4, none⟩ = some (.bool true) := oS.cell rfl
    exact bodyPost_ret (v := .agg #[sV [], .int .i64 0, .slice none 0 0, .int .i64 0, .bool true]) (by simp [results, Tryd.results66, go_sem, c0, c1, c2, c3, c4]) rfl ⟨hbS, ⟨fun _ => rfl, fun vals rest h => by rw [HP.out] at h; cases h⟩⟩
  · have HTG0 : Hid (plB [] (l.drop i0) = pList (l.drop i0)) := Lib.hid (by rw [pList_plB, if_pos (by rw [HH.out]; simpa using hq0)])
    have hil : i0 < l.length := by
      rcases Nat.lt_or_ge i0 l.length with h | h
      · exact h
      · have := HH.out; rw [List.drop_eq_nil_of_le h] at this; rw [← this] at hq0; exact absurd hq0 (by decide)
    have R0 := Lib.hid (And.intro hbE (And.intro oB oR))
    clear hbE oB oR HH hi
    go_wp2
    go_loopg [1, 7] (l.length + 1 - i0) (fun g s1 s7 wr => ∃ (i : Nat) (A : List Str) (ao2 : Option Addr) (n2 cap2 : Nat), s1 = .int .i64 (i : Int) ∧ i < l.length ∧ g = l.length + 1 - i ∧ A.length ≤ i ∧ Below w.heap.size w wr ∧ Own wr w.heap.size [sV key, .int .i64 op, .slice ao2 n2 cap2] 43 ∧ Own wr (w.heap.size + 1) [sV [], .int .i64 0, .slice none 0 0, .int .i64 0, .bool false] 61 ∧ wr.ownsRow (w.heap.size + 2) 9 1 (.slice ao2 n2 cap2) A.length (A.map sV) ∧ Hid (SS A) ∧ Hid (plB A (l.drop i) = pList (l.drop i0)))
    case atStart => exact ⟨i0, [], none, 0, 0, rfl, hil, rfl, Nat.zero_le _, R0.out.1, R0.out.2.1, R0.out.2.2, own_nil _ _ _ _, Lib.hid trivial, HTG0⟩
    case round =>
      obtain ⟨i, A, ao2, n2, cap2, rfl, hlt, hg, hAl, hb, oB, oR, hA, HSS, HTG⟩ := hrel
      have HG := Lib.hid hg
      clear hg R0 HTG0 hil
      have CW := Lib.hid (at_any _ l (i + 1) wr (hv.all hb) (by omega))
      have kB : wr.cell? ⟨w.heap.size, 2, none⟩ = some (.slice ao2 n2 cap2) := oB.cell rfl
      have hip : (((i + 1 : Nat) : Nat) : Int) = (i : Int) + 1 := by omega
      rw [hip] at CW
      go_wp2_with fail
      refine CW.out.mono ?_
      rintro e w' ⟨rfl, rfl⟩
      have HW1 : Hid (hd (l.drop i).tail = tokAt l (i + 1)) := Lib.hid (by rw [drop_tail, hd_drop])
      have HTK : Hid (isWord (tokAt l (i + 1)) = true → l[i + 1]? = some (tokAt l (i + 1))) := Lib.hid (fun h => by
        rcases Nat.lt_or_ge (i + 1) l.length with h' | h'
        · unfold tokAt; rw [List.getD_eq_getElem?_getD, List.getElem?_eq_getElem h']; rfl
        · rw [tokAt_none (by omega)] at h; exact absurd h (by decide))
      generalize tokAt l (i + 1) = t1 at *
      go_wp2_with fail
      refine (word_any _ _).mono ?_
      rintro e w' ⟨rfl, rfl⟩
      cases hw1 : isWord t1
      · have HWR : Hid (wRest (l.drop i).tail = l.drop (i + 1)) := Lib.hid (by unfold wRest; rw [HW1.out, hw1, drop_tail]; simp)
        have HWV : Hid (wVal (l.drop i).tail = []) := Lib.hid (by unfold wVal; rw [HW1.out, hw1]; simp)
        clear CW
        have HPS : Hid (putS A [] = putR A []) := Lib.hid (putR_eq HSS.out []).symm
        have hAl2 : (putS A []).length ≤ A.length + 1 := putS_len A []
        have CP := Lib.hid (put_any _ A [] wr (strs_own hA) (by omega))
        have HC := Lib.hid (And.intro hb (And.intro oB oR))
        clear hb oB oR hA
        go_wp2_with fail
        refine CP.out.mono ?_
        rintro e w2 ⟨v', rfl, hown, hb2⟩
        rw [← HPS.out] at hown
        obtain ⟨ao3, cap3, hv3, -⟩ := (strs_own hown).out
        have hSS2 := putS_SS HSS.out []
        have HA2 : Hid (putS A [] = putS A []) := Lib.hid rfl
        generalize hA2e : putS A [] = A2 at hown hSS2 hv3 hAl2
        replace HA2 : Hid (putS A [] = A2) := Lib.hid hA2e
        clear hA2e
        obtain ⟨n3, hn3⟩ : ∃ n3, n3 = A2.length := ⟨_, rfl⟩
        rw [← hn3] at hv3
        subst hv3
        have oB2 := HC.out.2.1.all hb2
        have oR2 := HC.out.2.2.all hb2
        have hbE := below_all HC.out.1 hb2
        have hblt := oB2.lt
        have k2 : w2.cell? ⟨w.heap.size, 2, none⟩ = some (.slice ao2 n2 cap2) := oB2.cell rfl
        have g2 := oB2.frozen 2
        have hbT := below_set hbE (Nat.le_refl w.heap.size) (i := 2) (.slice ao3 n3 cap3)
        have oB3 := oB2.set 2 (.slice ao3 n3 cap3)
        have oR3 := oR2.set_ne (b' := w.heap.size) (by omega) 2 (.slice ao3 n3 cap3)
        have hA3 := row_set (row_weak hown (show w.heap.size + 2 ≤ wr.heap.size by have := HC.out.2.2.lt; omega)) (b := w.heap.size) (by omega) 2 (.slice ao3 n3 cap3)
        have HN := Lib.hid hn3
        clear hown oB2 oR2 hbE CP HPS HC hb2 hn3
        have HO := Lib.hid (And.intro hbT (And.intro oB3 (And.intro oR3 (And.intro hA3 hSS2))))
        clear hbT oB3 oR3 hA3 hSS2
        have CA := Lib.hid (fun w0 (h : Strs w0 (.slice ao l.length cap) l) => at_any _ l (i + 1) w0 h (by omega))
        go_wp2_with fail
        generalize w2.setCell ⟨w.heap.size, 2, none⟩ (.slice ao3 n3 cap3) = w3 at *
        refine (CA.out w3 (hv.all HO.out.1)).mono ?_
        rintro e w' ⟨rfl, rfl⟩
        obtain ⟨t2, ht2⟩ : ∃ t2, tokAt l (i + 1) = t2 := ⟨_, rfl⟩
        rw [ht2]
        have HT2 : Hid (hd (l.drop (i + 1)) = t2) := Lib.hid (by rw [hd_drop]; exact ht2)
        clear ht2
        have b0 : w3.cell? ⟨w.heap.size, 0, none⟩ = some (sV key) := HO.out.2.1.cell rfl
        have b1 : w3.cell? ⟨w.heap.size, 1, none⟩ = some (.int .i64 op) := HO.out.2.1.cell rfl
        have b2 : w3.cell? ⟨w.heap.size, 2, none⟩ = some (.slice ao3 n3 cap3) := HO.out.2.1.cell rfl
        have r0 : w3.cell? ⟨w.heap.size + 1, 0, none⟩ = some (sV []) := HO.out.2.2.1.cell rfl
        have f0 := HO.out.2.2.1.frozen 0
        have r1 : w3.cell? ⟨w.heap.size + 1, 1, none⟩ = some (.int .i64 0) := HO.out.2.2.1.cell rfl
        have f1 := HO.out.2.2.1.frozen 1
        have r2 : w3.cell? ⟨w.heap.size + 1, 2, none⟩ = some (.slice none 0 0) := HO.out.2.2.1.cell rfl
        have f2 := HO.out.2.2.1.frozen 2
        have r3 : w3.cell? ⟨w.heap.size + 1, 3, none⟩ = some (.int .i64 0) := HO.out.2.2.1.cell rfl
        have f3 := HO.out.2.2.1.frozen 3
        have r4 : w3.cell? ⟨w.heap.size + 1, 4, none⟩ = some (.bool false) := HO.out.2.2.1.cell rfl
        have f4 := HO.out.2.2.1.frozen 4
        cases hq1 : (t2 == [41])
        · cases hq2 : (t2 == [44])
          · have HPB : Hid (plB A (l.drop i) = none) := Lib.hid (plB_bad (by rw [← HWR.out] at HT2; rw [HT2.out]; simpa using hq1) (by rw [← HWR.out] at HT2; rw [HT2.out]; simpa using hq2))
            clear b0 b1 b2
            go_wp2_with (go_at_call 64; refine (CA.out w3 (hv.all HO.out.1)).mono ?_; rintro e w' ⟨rfl, rfl⟩; rw [show tokAt l (i + 1) = t2 from by rw [← hd_drop]; exact HT2.out])
            have oS := (((((HO.out.2.2.1.set 0 (sV [])).set 1 (.int .i64 0)).set 2 (.slice none 0 0)).set 3 (.int .i64 0)).set 4 (.bool true))
            have hbS := (below_set (below_set (below_set (below_set (below_set HO.out.1 (by omega : w.heap.size ≤ w.heap.size + 1) (i := 0) (sV [])) (by omega : w.heap.size ≤ w.heap.size + 1) (i := 1) (.int .i64 0)) (by omega : w.heap.size ≤ w.heap.size + 1) (i := 2) (.slice none 0 0)) (by omega : w.heap.size ≤ w.heap.size + 1) (i := 3) (.int .i64 0)) (by omega : w.heap.size ≤ w.heap.size + 1) (i := 4) (.bool true))
            clear r0 r1 r2 r3 r4 f0 f1 f2 f3 f4
            change bodyPost Tryd.prog Tryd.f66 _ _ _ (((((w3.setCell ⟨w.heap.size + 1, 0, none⟩ (sV [])).setCell ⟨w.heap.size + 1, 1, none⟩ (.int .i64 0)).setCell ⟨w.heap.size + 1, 2, none⟩ (.slice none 0 0)).setCell ⟨w.heap.size + 1, 3, none⟩ (.int .i64 0)).setCell ⟨w.heap.size + 1, 4, none⟩ (.bool true))
            generalize (((((w3.setCell ⟨w.heap.size + 1, 0, none⟩ (sV [])).setCell ⟨w.heap.size + 1, 1, none⟩ (.int .i64 0)).setCell ⟨w.heap.size + 1, 2, none⟩ (.slice none 0 0)).setCell ⟨w.heap.size + 1, 3, none⟩ (.int .i64 0)).setCell ⟨w.heap.size + 1, 4, none⟩ (.bool true)) = U at *
            have c0 : U.cell? ⟨w.heap.size + 1, 0, none⟩ = some (sV []) := oS.cell rfl
            have c1 : U.cell? ⟨w.heap.size + 1, 1, none⟩ = some (.int .i64 0) := oS.cell rfl
            have c2 : U.cell? ⟨w.heap.size + 1, 2, none⟩ = some (.slice none 0 0) := oS.cell rfl
            have c3 : U.cell? ⟨w.heap.size + 1, 3, none⟩ = some (.int .i64 0) := oS.cell rfl
            have c4 : U.cell? ⟨w.heap.size + 1, 4, none⟩ = some (.bool true) := oS.cell rfl
            exact bodyPost_ret (v := .agg #[sV [], .int .i64 0, .slice none 0 0, .int .i64 0, .bool true]) (by simp [results, Tryd.results66, go_sem, c0, c1, c2, c3, c4]) rfl ⟨hbS, ⟨fun _ => rfl, fun vals rest h => by rw [← HTG.out, HPB.out] at h; cases h⟩⟩
          · have HPB : Hid (plB A (l.drop i) = plB A2 (l.drop (i + 1))) := Lib.hid (by
              have h1 : hd (wRest (l.drop i).tail) = [44] := by rw [HWR.out, HT2.out]; simpa using hq2
              rw [plB_more h1, HWR.out, HWV.out, HA2.out])
            have hlt2 : (i + 1) < l.length := by
              rcases Nat.lt_or_ge (i + 1) l.length with h | h
              · exact h
              · have := HT2.out; rw [List.drop_eq_nil_of_le h] at this; rw [← this] at hq2; exact absurd hq2 (by decide)
            clear b0 b1 b2
            go_wp2_with (go_at_call 64; refine (CA.out w3 (hv.all HO.out.1)).mono ?_; rintro e w' ⟨rfl, rfl⟩; rw [show tokAt l (i + 1) = t2 from by rw [← hd_drop]; exact HT2.out])
            go_roundg (l.length + 1 - (i + 1))
            case measure => have := HG.out; omega
            case rel => exact ⟨i + 1, A2, ao3, n3, cap3, by go_num, by omega, rfl, by omega, HO.out.1, HO.out.2.1, HO.out.2.2.1, HO.out.2.2.2.1, Lib.hid HO.out.2.2.2.2, Lib.hid (by rw [← HTG.out, HPB.out])⟩
        · have HPB : Hid (plB A (l.drop i) = some (A2, l.drop (i + 1 + 1))) := Lib.hid (by
            have h1 : hd (wRest (l.drop i).tail) = [41] := by rw [HWR.out, HT2.out]; simpa using hq1
            rw [plB_close h1, HWR.out, HWV.out, HA2.out, drop_tail])
          have hlt2 : (i + 1) < l.length := by
            rcases Nat.lt_or_ge (i + 1) l.length with h | h
            · exact h
            · have := HT2.out; rw [List.drop_eq_nil_of_le h] at this; rw [← this] at hq1; exact absurd hq1 (by decide)
          go_wp2
          clear b0 b1 b2
          have oS := (((((HO.out.2.2.1.set 0 (sV key)).set 1 (.int .i64 op)).set 2 (.slice ao3 n3 cap3)).set 3 (.int .i64 (((i + 1 : Nat) : Int) + 1))).set 4 (.bool false))
          have hbS := (below_set (below_set (below_set (below_set (below_set HO.out.1 (by omega : w.heap.size ≤ w.heap.size + 1) (i := 0) (sV key)) (by omega : w.heap.size ≤ w.heap.size + 1) (i := 1) (.int .i64 op)) (by omega : w.heap.size ≤ w.heap.size + 1) (i := 2) (.slice ao3 n3 cap3)) (by omega : w.heap.size ≤ w.heap.size + 1) (i := 3) (.int .i64 (((i + 1 : Nat) : Int) + 1))) (by omega : w.heap.size ≤ w.heap.size + 1) (i := 4) (.bool false))
          have hAU := (row_set (row_set (row_set (row_set (row_set HO.out.2.2.2.1 (b := w.heap.size + 1) (by omega) 0 (sV key)) (b := w.heap.size + 1) (by omega) 1 (.int .i64 op)) (b := w.heap.size + 1) (by omega) 2 (.slice ao3 n3 cap3)) (b := w.heap.size + 1) (by omega) 3 (.int .i64 (((i + 1 : Nat) : Int) + 1))) (b := w.heap.size + 1) (by omega) 4 (.bool false))
          clear r0 r1 r2 r3 r4 f0 f1 f2 f3 f4
          change bodyPost Tryd.prog Tryd.f66 _ _ _ (((((w3.setCell ⟨w.heap.size + 1, 0, none⟩ (sV key)).setCell ⟨w.heap.size + 1, 1, none⟩ (.int .i64 op)).setCell ⟨w.heap.size + 1, 2, none⟩ (.slice ao3 n3 cap3)).setCell ⟨w.heap.size + 1, 3, none⟩ (.int .i64 (((i + 1 : Nat) : Int) + 1))).setCell ⟨w.heap.size + 1, 4, none⟩ (.bool false))
          generalize (((((w3.setCell ⟨w.heap.size + 1, 0, none⟩ (sV key)).setCell ⟨w.heap.size + 1, 1, none⟩ (.int .i64 op)).setCell ⟨w.heap.size + 1, 2, none⟩ (.slice ao3 n3 cap3)).setCell ⟨w.heap.size + 1, 3, none⟩ (.int .i64 (((i + 1 : Nat) : Int) + 1))).setCell ⟨w.heap.size + 1, 4, none⟩ (.bool false)) = U at *
          have c0 : U.cell? ⟨w.heap.size + 1, 0, none⟩ = some (sV key) := oS.cell rfl
          have c1 : U.cell? ⟨w.heap.size + 1, 1, none⟩ = some (.int .i64 op) := oS.cell rfl
          have c2 : U.cell? ⟨w.heap.size + 1, 2, none⟩ = some (.slice ao3 n3 cap3) := oS.cell rfl
          have c3 : U.cell? ⟨w.heap.size + 1, 3, none⟩ = some (.int .i64 (((i + 1 : Nat) : Int) + 1)) := oS.cell rfl
          have c4 : U.cell? ⟨w.heap.size + 1, 4, none⟩ = some (.bool false) := oS.cell rfl
          exact bodyPost_ret (v := .agg #[sV key, .int .i64 op, .slice ao3 n3 cap3, .int .i64 (((i + 1 : Nat) : Int) + 1), .bool false]) (by simp [results, Tryd.results66, go_sem, c0, c1, c2, c3, c4]) rfl ⟨hbS, ⟨(fun h => by rw [← HTG.out, HPB.out] at h; cases h), fun vals rest h => by rw [← HTG.out, HPB.out] at h; cases h; exact ⟨_, i + 1 + 1, rfl, by rw [HN.out] at hAU ⊢; exact row_weak hAU (by omega), rfl, by omega⟩⟩⟩
      · have hx := HTK.out hw1
        have hlt1 := (List.getElem?_eq_some_iff.1 hx).1
        obtain ⟨b, off, he, c0⟩ := hv.at hb hx
        cases he
        have HWR : Hid (wRest (l.drop i).tail = l.drop (i + 2)) := Lib.hid (by unfold wRest; rw [HW1.out, hw1, drop_tail, drop_tail]; simp)
        have HWV : Hid (wVal (l.drop i).tail = t1) := Lib.hid (by unfold wVal; rw [HW1.out, hw1]; simp)
        clear CW hx HTK
        have HPS : Hid (putS A t1 = putR A t1) := Lib.hid (putR_eq HSS.out t1).symm
        have hAl2 : (putS A t1).length ≤ A.length + 1 := putS_len A t1
        have CP := Lib.hid (put_any _ A t1 wr (strs_own hA) (by omega))
        have HC := Lib.hid (And.intro hb (And.intro oB oR))
        clear hb oB oR hA
        go_wp2_with fail
        refine CP.out.mono ?_
        rintro e w2 ⟨v', rfl, hown, hb2⟩
        rw [← HPS.out] at hown
        obtain ⟨ao3, cap3, hv3, -⟩ := (strs_own hown).out
        have hSS2 := putS_SS HSS.out t1
        have HA2 : Hid (putS A t1 = putS A t1) := Lib.hid rfl
        generalize hA2e : putS A t1 = A2 at hown hSS2 hv3 hAl2
        replace HA2 : Hid (putS A t1 = A2) := Lib.hid hA2e
        clear hA2e
        obtain ⟨n3, hn3⟩ : ∃ n3, n3 = A2.length := ⟨_, rfl⟩
        rw [← hn3] at hv3
        subst hv3
        have oB2 := HC.out.2.1.all hb2
        have oR2 := HC.out.2.2.all hb2
        have hbE := below_all HC.out.1 hb2
        have hblt := oB2.lt
        have k2 : w2.cell? ⟨w.heap.size, 2, none⟩ = some (.slice ao2 n2 cap2) := oB2.cell rfl
        have g2 := oB2.frozen 2
        have hbT := below_set hbE (Nat.le_refl w.heap.size) (i := 2) (.slice ao3 n3 cap3)
        have oB3 := oB2.set 2 (.slice ao3 n3 cap3)
        have oR3 := oR2.set_ne (b' := w.heap.size) (by omega) 2 (.slice ao3 n3 cap3)
        have hA3 := row_set (row_weak hown (show w.heap.size + 2 ≤ wr.heap.size by have := HC.out.2.2.lt; omega)) (b := w.heap.size) (by omega) 2 (.slice ao3 n3 cap3)
        have HN := Lib.hid hn3
        clear hown oB2 oR2 hbE CP HPS HC hb2 hn3
        have HO := Lib.hid (And.intro hbT (And.intro oB3 (And.intro oR3 (And.intro hA3 hSS2))))
        clear hbT oB3 oR3 hA3 hSS2
        have CA := Lib.hid (fun w0 (h : Strs w0 (.slice (some ⟨b, off, none⟩) l.length cap) l) => at_any _ l (i + 2) w0 h (by omega))
        go_wp2_with fail
        generalize w2.setCell ⟨w.heap.size, 2, none⟩ (.slice ao3 n3 cap3) = w3 at *
        refine (CA.out w3 (hv.all HO.out.1)).mono ?_
        rintro e w' ⟨rfl, rfl⟩
        obtain ⟨t2, ht2⟩ : ∃ t2, tokAt l (i + 2) = t2 := ⟨_, rfl⟩
        rw [ht2]
        have HT2 : Hid (hd (l.drop (i + 2)) = t2) := Lib.hid (by rw [hd_drop]; exact ht2)
        clear ht2
        have b0 : w3.cell? ⟨w.heap.size, 0, none⟩ = some (sV key) := HO.out.2.1.cell rfl
        have b1 : w3.cell? ⟨w.heap.size, 1, none⟩ = some (.int .i64 op) := HO.out.2.1.cell rfl
        have b2 : w3.cell? ⟨w.heap.size, 2, none⟩ = some (.slice ao3 n3 cap3) := HO.out.2.1.cell rfl
        have r0 : w3.cell? ⟨w.heap.size + 1, 0, none⟩ = some (sV []) := HO.out.2.2.1.cell rfl
        have f0 := HO.out.2.2.1.frozen 0
        have r1 : w3.cell? ⟨w.heap.size + 1, 1, none⟩ = some (.int .i64 0) := HO.out.2.2.1.cell rfl
        have f1 := HO.out.2.2.1.frozen 1
        have r2 : w3.cell? ⟨w.heap.size + 1, 2, none⟩ = some (.slice none 0 0) := HO.out.2.2.1.cell rfl
        have f2 := HO.out.2.2.1.frozen 2
        have r3 : w3.cell? ⟨w.heap.size + 1, 3, none⟩ = some (.int .i64 0) := HO.out.2.2.1.cell rfl
        have f3 := HO.out.2.2.1.frozen 3
        have r4 : w3.cell? ⟨w.heap.size + 1, 4, none⟩ = some (.bool false) := HO.out.2.2.1.cell rfl
        have f4 := HO.out.2.2.1.frozen 4
        cases hq1 : (t2 == [41])
        · cases hq2 : (t2 == [44])
          · have HPB : Hid (plB A (l.drop i) = none) := Lib.hid (plB_bad (by rw [← HWR.out] at HT2; rw [HT2.out]; simpa using hq1) (by rw [← HWR.out] at HT2; rw [HT2.out]; simpa using hq2))
            clear b0 b1 b2
            go_wp2_with (go_at_call 64; refine (CA.out w3 (hv.all HO.out.1)).mono ?_; rintro e w' ⟨rfl, rfl⟩; rw [show tokAt l (i + 2) = t2 from by rw [← hd_drop]; exact HT2.out])
            have oS := (((((HO.out.2.2.1.set 0 (sV [])).set 1 (.int .i64 0)).set 2 (.slice none 0 0)).set 3 (.int .i64 0)).set 4 (.bool true))
            have hbS := (below_set (below_set (below_set (below_set (below_set HO.out.1 (by omega : w.heap.size ≤ w.heap.size + 1) (i := 0) (sV [])) (by omega : w.heap.size ≤ w.heap.size + 1) (i := 1) (.int .i64 0)) (by omega : w.heap.size ≤ w.heap.size + 1) (i := 2) (.slice none 0 0)) (by omega : w.heap.size ≤ w.heap.size + 1) (i := 3) (.int .i64 0)) (by omega : w.heap.size ≤ w.heap.size + 1) (i := 4) (.bool true))
            clear r0 r1 r2 r3 r4 f0 f1 f2 f3 f4
            change bodyPost Tryd.prog Tryd.f66 _ _ _ (((((w3.setCell ⟨w.heap.size + 1, 0, none⟩ (sV [])).setCell ⟨w.heap.size + 1, 1, none⟩ (.int .i64 0)).setCell ⟨w.heap.size + 1, 2, none⟩ (.slice none 0 0)).setCell ⟨w.heap.size + 1, 3, none⟩ (.int .i64 0)).setCell ⟨w.heap.size + 1, 4, none⟩ (.bool true))
            generalize (((((w3.setCell ⟨w.heap.size + 1, 0, none⟩ (sV [])).setCell ⟨w.heap.size + 1, 1, none⟩ (.int .i64 0)).setCell ⟨w.heap.size + 1, 2, none⟩ (.slice none 0 0)).setCell ⟨w.heap.size + 1, 3, none⟩ (.int .i64 0)).setCell ⟨w.heap.size + 1, 4, none⟩ (.bool true)) = U at *
            have c0 : U.cell? ⟨w.heap.size + 1, 0, none⟩ = some (sV []) := oS.cell rfl
            have c1 : U.cell? ⟨w.heap.size + 1, 1, none⟩ = some (.int .i64 0) := oS.cell rfl
            have c2 : U.cell? ⟨w.heap.size + 1, 2, none⟩ = some (.slice none 0 0) := oS.cell rfl
            have c3 : U.cell? ⟨w.heap.size + 1, 3, none⟩ = some (.int .i64 0) := oS.cell rfl
            have c4 : U.cell? ⟨w.heap.size + 1, 4, none⟩ = some (.bool true) := oS.cell rfl
            exact bodyPost_ret (v := .agg #[sV [], .int .i64 0, .slice none 0 0, .int .i64 0, .bool true]) (by simp [results, Tryd.results66, go_sem, c0, c1, c2, c3, c4]) rfl ⟨hbS, ⟨fun _ => rfl, fun vals rest h => by rw [← HTG.out, HPB.out] at h; cases h⟩⟩
          · have HPB : Hid (plB A (l.drop i) = plB A2 (l.drop (i + 2))) := Lib.hid (by
              have h1 : hd (wRest (l.drop i).tail) = [44] := by rw [HWR.out, HT2.out]; simpa using hq2
              rw [plB_more h1, HWR.out, HWV.out, HA2.out])
            have hlt2 : (i + 2) < l.length := by
              rcases Nat.lt_or_ge (i + 2) l.length with h | h
              · exact h
              · have := HT2.out; rw [List.drop_eq_nil_of_le h] at this; rw [← this] at hq2; exact absurd hq2 (by decide)
            clear b0 b1 b2
            go_wp2_with (go_at_call 64; refine (CA.out w3 (hv.all HO.out.1)).mono ?_; rintro e w' ⟨rfl, rfl⟩; rw [show tokAt l (i + 2) = t2 from by rw [← hd_drop]; exact HT2.out])
            go_roundg (l.length + 1 - (i + 2))
            case measure => have := HG.out; omega
            case rel => exact ⟨i + 2, A2, ao3, n3, cap3, by go_num, by omega, rfl, by omega, HO.out.1, HO.out.2.1, HO.out.2.2.1, HO.out.2.2.2.1, Lib.hid HO.out.2.2.2.2, Lib.hid (by rw [← HTG.out, HPB.out])⟩
        · have HPB : Hid (plB A (l.drop i) = some (A2, l.drop (i + 2 + 1))) := Lib.hid (by
            have h1 : hd (wRest (l.drop i).tail) = [41] := by rw [HWR.out, HT2.out]; simpa using hq1
            rw [plB_close h1, HWR.out, HWV.out, HA2.out, drop_tail])
          have hlt2 : (i + 2) < l.length := by
            rcases Nat.lt_or_ge (i + 2) l.length with h | h
            · exact h
            · have := HT2.out; rw [List.drop_eq_nil_of_le h] at this; rw [← this] at hq1; exact absurd hq1 (by decide)
          go_wp2
          clear b0 b1 b2
          have oS := (((((HO.out.2.2.1.set 0 (sV key)).set 1 (.int .i64 op)).set 2 (.slice ao3 n3 cap3)).set 3 (.int .i64 (((i + 2 : Nat) : Int) + 1))).set 4 (.bool false))
          have hbS := (below_set (below_set (below_set (below_set (below_set HO.out.1 (by omega : w.heap.size ≤ w.heap.size + 1) (i := 0) (sV key)) (by omega : w.heap.size ≤ w.heap.size + 1) (i := 1) (.int .i64 op)) (by omega : w.heap.size ≤ w.heap.size + 1) (i := 2) (.slice ao3 n3 cap3)) (by omega : w.heap.size ≤ w.heap.size + 1) (i := 3) (.int .i64 (((i + 2 : Nat) : Int) + 1))) (by omega : w.heap.size ≤ w.heap.size + 1) (i := 4) (.bool false))
          have hAU := (row_set (row_set (row_set (row_set (row_set HO.out.2.2.2.1 (b := w.heap.size + 1) (by omega) 0 (sV key)) (b := w.heap.size + 1) (by omega) 1 (.int .i64 op)) (b := w.heap.size + 1) (by omega) 2 (.slice ao3 n3 cap3)) (b := w.heap.size + 1) (by omega) 3 (.int .i64 (((i + 2 : Nat) : Int) + 1))) (b := w.heap.size + 1) (by omega) 4 (.bool false))
          clear r0 r1 r2 r3 r4 f0 f1 f2 f3 f4
          change bodyPost Tryd.prog Tryd.f66 _ _ _ (((((w3.setCell ⟨w.heap.size + 1, 0, none⟩ (sV key)).setCell ⟨w.heap.size + 1, 1, none⟩ (.int .i64 op)).setCell ⟨w.heap.size + 1, 2, none⟩ (.slice ao3 n3 cap3)).setCell ⟨w.heap.size + 1, 3, none⟩ (.int .i64 (((i + 2 : Nat) : Int) + 1))).setCell ⟨w.heap.size + 1, 4, none⟩ (.bool false))
          generalize (((((w3.setCell ⟨w.heap.size + 1, 0, none⟩ (sV key)).setCell ⟨w.heap.size + 1, 1, none⟩ (.int .i64 op)).setCell ⟨w.heap.size + 1, 2, none⟩ (.slice ao3 n3 cap3)).setCell ⟨w.heap.size + 1, 3, none⟩ (.int .i64 (((i + 2 : Nat) : Int) + 1))).setCell ⟨w.heap.size + 1, 4, none⟩ (.bool false)) = U at *
          have c0 : U.cell? ⟨w.heap.size + 1, 0, none⟩ = some (sV key) := oS.cell rfl
          have c1 : U.cell? ⟨w.heap.size + 1, 1, none⟩ = some (.int .i64 op) := oS.cell rfl
          have c2 : U.cell? ⟨w.heap.size + 1, 2, none⟩ = some (.slice ao3 n3 cap3) := oS.cell rfl
          have c3 : U.cell? ⟨w.heap.size + 1, 3, none⟩ = some (.int .i64 (((i + 2 : Nat) : Int) + 1)) := oS.cell rfl
          have c4 : U.cell? ⟨w.heap.size + 1, 4, none⟩ = some (.bool false) := oS.cell rfl
          exact bodyPost_ret (v := .agg #[sV key, .int .i64 op, .slice ao3 n3 cap3, .int .i64 (((i + 2 : Nat) : Int) + 1), .bool false]) (by simp [results, Tryd.results66, go_sem, c0, c1, c2, c3, c4]) rfl ⟨hbS, ⟨(fun h => by rw [← HTG.out, HPB.out] at h; cases h), fun vals rest h => by rw [← HTG.out, HPB.out] at h; cases h; exact ⟨_, i + 2 + 1, rfl, by rw [HN.out] at hAU ⊢; exact row_weak hAU (by omega), rfl, by omega⟩⟩⟩
end Go.Proofs.YtfohhokdcobhjaaDoor
