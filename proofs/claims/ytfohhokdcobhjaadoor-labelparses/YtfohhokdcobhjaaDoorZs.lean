/- The contract of the reference's one. -/
import Derived.Test.YtfohhokdcobhjaaDoorZr
import Derived.Deep.Cut
namespace Go.Proofs.YtfohhokdcobhjaaDoor
open Go.RowKit Go.Sort Go.Proofs.LawFrame

/-- what one gives: a requirement and the rest of the tokens, or nothing -/
structure RGotR (base : Nat) (l : List Str) (o : Option (Req × List Str)) (e : Ending) (w' : World) : Prop where
  bad : o = none → e = .returned (.agg #[sV [], .int .i64 0, .slice none 0 0, .int .i64 0, .bool true])
  good : ∀ r rest, o = some (r, rest) → ∃ (v' : Value) (I : Nat), e = .returned (.agg #[sV r.key, .int .i64 r.op, v', .int .i64 (I : Int), .bool false]) ∧ Strs w' v' r.vals ∧ High base v' ∧ l.drop I = rest ∧ I ≤ l.length
theorem high_nil (lo : Nat) : High lo (.slice none 0 0) := fun b h => by cases h
theorem high_at {lo b n c : Nat} (h : lo ≤ b) : High lo (.slice (some ⟨b, 0, none⟩) n c) := fun k hk => by cases hk; exact h
theorem strs_nil (w : World) : Strs w (.slice none 0 0) [] := Flat.nil w none 0 (Nat.zero_le _) _
theorem tok_get {l : List Str} {i : Nat} (h : ¬ tokAt l i = []) : l[i]? = some (tokAt l i) := by
  rcases Nat.lt_or_ge i l.length with h' | h'
  · unfold tokAt; rw [List.getD_eq_getElem?_getD, List.getElem?_eq_getElem h']; rfl
  · exact absurd (tokAt_none (by omega)) h
theorem word_ne {t : Str} (h : isWord t = true) : ¬ t = [] := by rintro rfl; exact absurd h (by decide)
theorem strs_one {w : World} {b : Nat} {s : Str} (o : Own w b [sV s] 9) : Strs w (.slice (some ⟨b, 0, none⟩) 1 1) [s] :=
  ⟨some ⟨b, 0, none⟩, 1, rfl, Nat.le_refl _, by unfold maxLen; omega, fun _ => ⟨b, 0, rfl, o.lt, fun j x hx => by rw [Nat.zero_add]; exact o.cell hx⟩⟩

set_option maxHeartbeats 4000000 in
set_option maxRecDepth 4000 in
theorem rone_any (v : Value) (l : List Str) (i : Nat) (w : World) (hv : Strs w v l) (hl : l.length ≤ 20000) (hi : i < l.length) :
    Calls Tryd.prog 46 #[v, .int .i64 (i : Int)] w fun e w' => Below w.heap.size w w' ∧ RGotR w.heap.size l (pReq (l.drop i)) e w' := by
  obtain ⟨ao, cap, rfl, hlc, hcap, -⟩ := hv.out
  unfold maxLen at hcap
  have HB0 : Below w.heap.size w (w.alloc (.cells #[sV [], .int .i64 0, .slice none 0 0, .int .i64 0, .bool false] 61)) := (Below.refl _ _).alloc (Nat.le_refl _) _
  have oR : Own (w.alloc (.cells #[sV [], .int .i64 0, .slice none 0 0, .int .i64 0, .bool false] 61)) w.heap.size [sV [], .int .i64 0, .slice none 0 0, .int .i64 0, .bool false] 61 := Own.new _ _ _
  have A0 := Lib.hid (fun w0 (h : Strs w0 (.slice ao l.length cap) l) => at_any _ l i w0 h (by omega))
  have A1 : Hid (∀ w0, Strs w0 (.slice ao l.length cap) l → Calls Tryd.prog 64 #[.slice ao l.length cap, .int .i64 ((i : Int) + 1)] w0 fun e w' => e = .returned (sV (tokAt l (i + 1))) ∧ w0 = w') := Lib.hid (fun w0 h => at_any _ l (i + 1) w0 h (by omega))
  have A2 : Hid (∀ w0, Strs w0 (.slice ao l.length cap) l → Calls Tryd.prog 64 #[.slice ao l.length cap, .int .i64 ((i : Int) + 2)] w0 fun e w' => e = .returned (sV (tokAt l (i + 2))) ∧ w0 = w') := Lib.hid (fun w0 h => at_any _ l (i + 2) w0 h (by omega))
  have X0 : Hid (hd (l.drop i) = tokAt l i) := Lib.hid (hd_drop l i)
  have X1 : Hid (hd (l.drop i).tail = tokAt l (i + 1)) := Lib.hid (by rw [drop_tail, hd_drop])
  have X2 : Hid (hd (l.drop i).tail.tail = tokAt l (i + 2)) := Lib.hid (by rw [drop_tail, drop_tail, hd_drop])
  have G0 := Lib.hid (fun h => tok_get (l := l) (i := i) h)
  have G1 := Lib.hid (fun h => tok_get (l := l) (i := i + 1) h)
  have G2 := Lib.hid (fun h => tok_get (l := l) (i := i + 2) h)
  generalize tokAt l i = t0 at *
  generalize tokAt l (i + 1) = t1 at *
  generalize tokAt l (i + 2) = t2 at *
  go_enter Tryd.func46, Tryd.ntmps46
  go_wp2_with fail
  generalize (w.alloc (.cells #[sV [], .int .i64 0, .slice none 0 0, .int .i64 0, .bool false] 61)) = W at *
  refine (A0.out W (hv.all HB0)).mono ?_
  rintro e w' ⟨rfl, rfl⟩
  cases hq0 : (t0 == [33])
  · have hne : ¬ t0 = [33] := by simpa using hq0
    have HBG : Hid (bang (l.drop i) = l.drop i) := Lib.hid (by unfold bang; rw [X0.out, if_neg hne])
    clear hne
    go_wp2_with fail
    refine (A0.out W (hv.all HB0)).mono ?_
    rintro e w' ⟨rfl, rfl⟩
    go_wp2_with fail
    refine (word_any _ _).mono ?_
    rintro e w' ⟨rfl, rfl⟩
    cases hw0 : isWord t0
    · have HP : Hid (pReq (l.drop i) = none) := Lib.hid (by unfold pReq; rw [HBG.out, X0.out, hw0]; rfl)
      have r0 : W.cell? ⟨w.heap.size, 0, none⟩ = some (sV []) := oR.cell rfl
      have f0 := oR.frozen 0
      have r1 : W.cell? ⟨w.heap.size, 1, none⟩ = some (.int .i64 0) := oR.cell rfl
      have f1 := oR.frozen 1
      have r2 : W.cell? ⟨w.heap.size, 2, none⟩ = some (.slice none 0 0) := oR.cell rfl
      have f2 := oR.frozen 2
      have r3 : W.cell? ⟨w.heap.size, 3, none⟩ = some (.int .i64 0) := oR.cell rfl
      have f3 := oR.frozen 3
      have r4 : W.cell? ⟨w.heap.size, 4, none⟩ = some (.bool false) := oR.cell rfl
      have f4 := oR.frozen 4
      have HO := Lib.hid (And.intro HB0 oR)
      clear oR HB0
      go_wp2
      have oS := (((((HO.out.2.set 0 (sV [])).set 1 (.int .i64 0)).set 2 (.slice none 0 0)).set 3 (.int .i64 0)).set 4 (.bool true))
      have hbS := (below_set (below_set (below_set (below_set (below_set HO.out.1 (Nat.le_refl w.heap.size) (i := 0) (sV [])) (Nat.le_refl w.heap.size) (i := 1) (.int .i64 0)) (Nat.le_refl w.heap.size) (i := 2) (.slice none 0 0)) (Nat.le_refl w.heap.size) (i := 3) (.int .i64 0)) (Nat.le_refl w.heap.size) (i := 4) (.bool true))
      clear r0 r1 r2 r3 r4 f0 f1 f2 f3 f4
      change bodyPost Tryd.prog Tryd.f46 _ _ _ (((((W.setCell ⟨w.heap.size, 0, none⟩ (sV [])).setCell ⟨w.heap.size, 1, none⟩ (.int .i64 0)).setCell ⟨w.heap.size, 2, none⟩ (.slice none 0 0)).setCell ⟨w.heap.size, 3, none⟩ (.int .i64 0)).setCell ⟨w.heap.size, 4, none⟩ (.bool true))
      generalize (((((W.setCell ⟨w.heap.size, 0, none⟩ (sV [])).setCell ⟨w.heap.size, 1, none⟩ (.int .i64 0)).setCell ⟨w.heap.size, 2, none⟩ (.slice none 0 0)).setCell ⟨w.heap.size, 3, none⟩ (.int .i64 0)).setCell ⟨w.heap.size, 4, none⟩ (.bool true)) = U at *
      have c0 : U.cell? ⟨w.heap.size, 0, none⟩ = some (sV []) := oS.cell rfl
      have c1 : U.cell? ⟨w.heap.size, 1, none⟩ = some (.int .i64 0) := oS.cell rfl
      have c2 : U.cell? ⟨w.heap.size, 2, none⟩ = some (.slice none 0 0) := oS.cell rfl
      have c3 : U.cell? ⟨w.heap.size, 3, none⟩ = some (.int .i64 0) := oS.cell rfl
      have c4 : U.cell? ⟨w.heap.size, 4, none⟩ = some (.bool true) := oS.cell rfl
      exact bodyPost_ret (v := .agg #[sV [], .int .i64 0, .slice none 0 0, .int .i64 0, .bool true]) (by simp [results, Tryd.results46, go_sem, c0, c1, c2, c3, c4]) rfl ⟨hbS, ⟨fun _ => rfl, fun r rest h => by rw [HP.out] at h; cases h⟩⟩
    · have g0 := G0.out (word_ne hw0)
      obtain ⟨b, off, he, c0⟩ := hv.at HB0 g0
      cases he
      have oR1 := oR.alloc (.cells #[sV t0, .int .i64 3, .slice none 0 0] 43)
      have oQ : Own (W.alloc (.cells #[sV t0, .int .i64 3, .slice none 0 0] 43)) W.heap.size [sV t0, .int .i64 3, .slice none 0 0] 43 := Own.new _ _ _
      have HB1 := HB0.alloc HB0.size (.cells #[sV t0, .int .i64 3, .slice none 0 0] 43)
      have hWl := oR.lt
      clear HB0 oR g0
      go_wp2_with fail
      clear c0
      generalize W.alloc (.cells #[sV t0, .int .i64 3, .slice none 0 0] 43) = V at *
      refine (A1.out V (hv.all HB1)).mono ?_
      rintro e w' ⟨rfl, rfl⟩
      have HPR : Hid (pReq (l.drop i) = if t1 = [61] then some (⟨t0, 1, [wVal (l.drop i).tail.tail]⟩, wRest (l.drop i).tail.tail) else if t1 = [33, 61] then some (⟨t0, 2, [wVal (l.drop i).tail.tail]⟩, wRest (l.drop i).tail.tail) else if t1 = [105, 110] then (pList (l.drop i).tail.tail).map (fun p => (⟨t0, 1, p.1⟩, p.2)) else if t1 = [110, 111, 116, 105, 110] then (pList (l.drop i).tail.tail).map (fun p => (⟨t0, 2, p.1⟩, p.2)) else some (⟨t0, 3, []⟩, (l.drop i).tail)) := Lib.hid (by
        unfold pReq; rw [HBG.out, X0.out, X1.out, hw0]
        rw [if_neg (by decide), if_neg (by simpa using hq0)])
      cases qin : (t1 == [105, 110])
      · cases qno : (t1 == [110, 111, 116, 105, 110])
        · cases q61 : (t1 == [61])
          · cases q33 : (t1 == [33, 61])
            · have HP : Hid (pReq (l.drop i) = some (⟨t0, 3, []⟩, l.drop (i + 1))) := Lib.hid (by
                rw [HPR.out, drop_tail, if_neg (by simpa using q61), if_neg (by simpa using q33), if_neg (by simpa using qin), if_neg (by simpa using qno)])
              have k0 : V.cell? ⟨W.heap.size, 0, none⟩ = some (sV t0) := oQ.cell rfl
              have k1 : V.cell? ⟨W.heap.size, 1, none⟩ = some (.int .i64 3) := oQ.cell rfl
              have k2 : V.cell? ⟨W.heap.size, 2, none⟩ = some (.slice none 0 0) := oQ.cell rfl
              have g1 := oQ.frozen 1
              have g2 := oQ.frozen 2
              have r0 : V.cell? ⟨w.heap.size, 0, none⟩ = some (sV []) := oR1.cell rfl
              have f0 := oR1.frozen 0
              have r1 : V.cell? ⟨w.heap.size, 1, none⟩ = some (.int .i64 0) := oR1.cell rfl
              have f1 := oR1.frozen 1
              have r2 : V.cell? ⟨w.heap.size, 2, none⟩ = some (.slice none 0 0) := oR1.cell rfl
              have f2 := oR1.frozen 2
              have r3 : V.cell? ⟨w.heap.size, 3, none⟩ = some (.int .i64 0) := oR1.cell rfl
              have f3 := oR1.frozen 3
              have r4 : V.cell? ⟨w.heap.size, 4, none⟩ = some (.bool false) := oR1.cell rfl
              have f4 := oR1.frozen 4
              have HO := Lib.hid (And.intro HB1 oR1)
              clear HB1 oR1 oQ HPR
              go_wp2
              clear k0 k1 k2 g1 g2
              have oS := (((((HO.out.2.set 0 (sV t0)).set 1 (.int .i64 3)).set 2 (.slice none 0 0)).set 3 (.int .i64 ((i : Int) + 1))).set 4 (.bool false))
              have hbS := (below_set (below_set (below_set (below_set (below_set HO.out.1 (Nat.le_refl w.heap.size) (i := 0) (sV t0)) (Nat.le_refl w.heap.size) (i := 1) (.int .i64 3)) (Nat.le_refl w.heap.size) (i := 2) (.slice none 0 0)) (Nat.le_refl w.heap.size) (i := 3) (.int .i64 ((i : Int) + 1))) (Nat.le_refl w.heap.size) (i := 4) (.bool false))
              clear r0 r1 r2 r3 r4 f0 f1 f2 f3 f4
              change bodyPost Tryd.prog Tryd.f46 _ _ _ (((((V.setCell ⟨w.heap.size, 0, none⟩ (sV t0)).setCell ⟨w.heap.size, 1, none⟩ (.int .i64 3)).setCell ⟨w.heap.size, 2, none⟩ (.slice none 0 0)).setCell ⟨w.heap.size, 3, none⟩ (.int .i64 ((i : Int) + 1))).setCell ⟨w.heap.size, 4, none⟩ (.bool false))
              generalize (((((V.setCell ⟨w.heap.size, 0, none⟩ (sV t0)).setCell ⟨w.heap.size, 1, none⟩ (.int .i64 3)).setCell ⟨w.heap.size, 2, none⟩ (.slice none 0 0)).setCell ⟨w.heap.size, 3, none⟩ (.int .i64 ((i : Int) + 1))).setCell ⟨w.heap.size, 4, none⟩ (.bool false)) = U at *
              have c0 : U.cell? ⟨w.heap.size, 0, none⟩ = some (sV t0) := oS.cell rfl
              have c1 : U.cell? ⟨w.heap.size, 1, none⟩ = some (.int .i64 3) := oS.cell rfl
              have c2 : U.cell? ⟨w.heap.size, 2, none⟩ = some (.slice none 0 0) := oS.cell rfl
              have c3 : U.cell? ⟨w.heap.size, 3, none⟩ = some (.int .i64 ((i : Int) + 1)) := oS.cell rfl
              have c4 : U.cell? ⟨w.heap.size, 4, none⟩ = some (.bool false) := oS.cell rfl
              exact bodyPost_ret (v := .agg #[sV t0, .int .i64 3, .slice none 0 0, .int .i64 ((i : Int) + 1), .bool false]) (by simp [results, Tryd.results46, go_sem, c0, c1, c2, c3, c4]) rfl ⟨hbS, ⟨(fun h => by rw [HP.out] at h; cases h), fun r rest h => by rw [HP.out] at h; cases h; exact ⟨_, i + 1, rfl, strs_nil _, high_nil _, rfl, by omega⟩⟩⟩
            · skip
              obtain rfl : t1 = [33, 61] := by simpa using q33
              have k0 : V.cell? ⟨W.heap.size, 0, none⟩ = some (sV t0) := oQ.cell rfl
              have k1 : V.cell? ⟨W.heap.size, 1, none⟩ = some (.int .i64 3) := oQ.cell rfl
              have k2 : V.cell? ⟨W.heap.size, 2, none⟩ = some (.slice none 0 0) := oQ.cell rfl
              have g1 := oQ.frozen 1
              have g2 := oQ.frozen 2
              have hb2 := (below_set (below_set HB1 (i := 1) (show w.heap.size ≤ W.heap.size from by omega) (.int .i64 1)) (i := 1) (show w.heap.size ≤ W.heap.size from by omega) (.int .i64 2))
              have oR2 := ((oR1.set_ne (b' := W.heap.size) (by omega) 1 (.int .i64 1)).set_ne (b' := W.heap.size) (by omega) 1 (.int .i64 2))
              have oQ2 := ((oQ.set 1 (.int .i64 1)).set 1 (.int .i64 2))
              have HPR2 : Hid (pReq (l.drop i) = some (⟨t0, 2, [wVal (l.drop i).tail.tail]⟩, wRest (l.drop i).tail.tail)) := Lib.hid (by rw [HPR.out]; simp)
              clear HPR HB1 oR1 oQ
              have HO := Lib.hid (And.intro hb2 (And.intro oR2 oQ2))
              clear hb2 oR2 oQ2
              go_wp2_with fail
              generalize ((V.setCell ⟨W.heap.size, 1, none⟩ (.int .i64 1)).setCell ⟨W.heap.size, 1, none⟩ (.int .i64 2)) = V2 at *
              clear k0 k1 k2 g1 g2
              have hV2 := HO.out.2.2.lt
              refine (A2.out V2 (hv.all HO.out.1)).mono ?_
              rintro e w' ⟨rfl, rfl⟩
              go_wp2_with fail
              refine (word_any _ _).mono ?_
              rintro e w' ⟨rfl, rfl⟩
              cases hw2 : isWord t2
              · skip
                have hi1l := (List.getElem?_eq_some_iff.1 (G1.out (by decide))).1
                have HP : Hid (pReq (l.drop i) = some (⟨t0, 2, [[]]⟩, l.drop (i + 2))) := Lib.hid (by rw [HPR2.out]; unfold wVal wRest; rw [X2.out, hw2, drop_tail, drop_tail]; simp)
                have oR3 := (HO.out.2.1.set_ne (b' := W.heap.size) (by omega) 2 (.slice (some ⟨V2.heap.size, 0, none⟩) 1 1)).alloc (.cells #[sV []] 9)
                have hb3 := below_all (below_set HO.out.1 (i := 2) (show w.heap.size ≤ W.heap.size from by omega) (.slice (some ⟨V2.heap.size, 0, none⟩) 1 1)) (below_alloc _ (.cells #[sV []] 9))
                have m0 : V2.cell? ⟨W.heap.size, 0, none⟩ = some (sV t0) := HO.out.2.2.cell rfl
                have m1 : V2.cell? ⟨W.heap.size, 1, none⟩ = some (.int .i64 2) := HO.out.2.2.cell rfl
                have m2 : V2.cell? ⟨W.heap.size, 2, none⟩ = some (.slice none 0 0) := HO.out.2.2.cell rfl
                have mg2 := HO.out.2.2.frozen 2
                have oQ3 := (HO.out.2.2.set 2 (.slice (some ⟨V2.heap.size, 0, none⟩) 1 1)).alloc (.cells #[sV []] 9)
                have oV3 : Own ((V2.setCell ⟨W.heap.size, 2, none⟩ (.slice (some ⟨V2.heap.size, 0, none⟩) 1 1)).alloc (.cells #[sV []] 9)) V2.heap.size [sV []] 9 := Own.new_at (by unfold World.setCell; simp) _ _
                have HO3 := Lib.hid (And.intro hb3 (And.intro oR3 (And.intro oV3 oQ3)))
                clear hb3 oR3 oV3 oQ3
                go_upto_region 22 with fail
                generalize ((V2.setCell ⟨W.heap.size, 2, none⟩ (.slice (some ⟨V2.heap.size, 0, none⟩) 1 1)).alloc (.cells #[sV []] 9)) = V3 at *
                clear m0 m1 m2 mg2
                have m0 : V3.cell? ⟨W.heap.size, 0, none⟩ = some (sV t0) := HO3.out.2.2.2.cell rfl
                have m1 : V3.cell? ⟨W.heap.size, 1, none⟩ = some (.int .i64 2) := HO3.out.2.2.2.cell rfl
                have m2 : V3.cell? ⟨W.heap.size, 2, none⟩ = some (.slice (some ⟨V2.heap.size, 0, none⟩) 1 1) := HO3.out.2.2.2.cell rfl
                have r0 : V3.cell? ⟨w.heap.size, 0, none⟩ = some (sV []) := HO3.out.2.1.cell rfl
                have f0 := HO3.out.2.1.frozen 0
                have r1 : V3.cell? ⟨w.heap.size, 1, none⟩ = some (.int .i64 0) := HO3.out.2.1.cell rfl
                have f1 := HO3.out.2.1.frozen 1
                have r2 : V3.cell? ⟨w.heap.size, 2, none⟩ = some (.slice none 0 0) := HO3.out.2.1.cell rfl
                have f2 := HO3.out.2.1.frozen 2
                have r3 : V3.cell? ⟨w.heap.size, 3, none⟩ = some (.int .i64 0) := HO3.out.2.1.cell rfl
                have f3 := HO3.out.2.1.frozen 3
                have r4 : V3.cell? ⟨w.heap.size, 4, none⟩ = some (.bool false) := HO3.out.2.1.cell rfl
                have f4 := HO3.out.2.1.frozen 4
                go_wp2
                have oS := (((((HO3.out.2.1.set 0 (sV t0)).set 1 (.int .i64 2)).set 2 (.slice (some ⟨V2.heap.size, 0, none⟩) 1 1)).set 3 (.int .i64 ((i : Int) + 2))).set 4 (.bool false))
                have hbS := (below_set (below_set (below_set (below_set (below_set HO3.out.1 (Nat.le_refl w.heap.size) (i := 0) (sV t0)) (Nat.le_refl w.heap.size) (i := 1) (.int .i64 2)) (Nat.le_refl w.heap.size) (i := 2) (.slice (some ⟨V2.heap.size, 0, none⟩) 1 1)) (Nat.le_refl w.heap.size) (i := 3) (.int .i64 ((i : Int) + 2))) (Nat.le_refl w.heap.size) (i := 4) (.bool false))
                have hAU := (((((HO3.out.2.2.1.set_ne (b' := w.heap.size) (by omega) 0 (sV t0)).set_ne (b' := w.heap.size) (by omega) 1 (.int .i64 2)).set_ne (b' := w.heap.size) (by omega) 2 (.slice (some ⟨V2.heap.size, 0, none⟩) 1 1)).set_ne (b' := w.heap.size) (by omega) 3 (.int .i64 ((i : Int) + 2))).set_ne (b' := w.heap.size) (by omega) 4 (.bool false))
                clear r0 r1 r2 r3 r4 f0 f1 f2 f3 f4
                change bodyPost Tryd.prog Tryd.f46 _ _ _ (((((V3.setCell ⟨w.heap.size, 0, none⟩ (sV t0)).setCell ⟨w.heap.size, 1, none⟩ (.int .i64 2)).setCell ⟨w.heap.size, 2, none⟩ (.slice (some ⟨V2.heap.size, 0, none⟩) 1 1)).setCell ⟨w.heap.size, 3, none⟩ (.int .i64 ((i : Int) + 2))).setCell ⟨w.heap.size, 4, none⟩ (.bool false))
                generalize (((((V3.setCell ⟨w.heap.size, 0, none⟩ (sV t0)).setCell ⟨w.heap.size, 1, none⟩ (.int .i64 2)).setCell ⟨w.heap.size, 2, none⟩ (.slice (some ⟨V2.heap.size, 0, none⟩) 1 1)).setCell ⟨w.heap.size, 3, none⟩ (.int .i64 ((i : Int) + 2))).setCell ⟨w.heap.size, 4, none⟩ (.bool false)) = U at *
                have c0 : U.cell? ⟨w.heap.size, 0, none⟩ = some (sV t0) := oS.cell rfl
                have c1 : U.cell? ⟨w.heap.size, 1, none⟩ = some (.int .i64 2) := oS.cell rfl
                have c2 : U.cell? ⟨w.heap.size, 2, none⟩ = some (.slice (some ⟨V2.heap.size, 0, none⟩) 1 1) := oS.cell rfl
                have c3 : U.cell? ⟨w.heap.size, 3, none⟩ = some (.int .i64 ((i : Int) + 2)) := oS.cell rfl
                have c4 : U.cell? ⟨w.heap.size, 4, none⟩ = some (.bool false) := oS.cell rfl
                exact bodyPost_ret (v := .agg #[sV t0, .int .i64 2, .slice (some ⟨V2.heap.size, 0, none⟩) 1 1, .int .i64 ((i : Int) + 2), .bool false]) (by simp [results, Tryd.results46, go_sem, c0, c1, c2, c3, c4]) rfl ⟨hbS, ⟨(fun h => by rw [HP.out] at h; cases h), fun r rest h => by rw [HP.out] at h; cases h; exact ⟨_, i + 2, rfl, by exact strs_one hAU, high_at (by omega), rfl, by omega⟩⟩⟩
              · skip
                have g2w := G2.out (word_ne hw2)
                have hi2l := (List.getElem?_eq_some_iff.1 g2w).1
                obtain ⟨b4, off4, he4, c4'⟩ := hv.at HO.out.1 g2w
                cases he4
                have HP : Hid (pReq (l.drop i) = some (⟨t0, 2, [t2]⟩, l.drop (i + 3))) := Lib.hid (by rw [HPR2.out]; unfold wVal wRest; rw [X2.out, hw2, drop_tail, drop_tail, drop_tail]; simp)
                have oR3 := (HO.out.2.1.set_ne (b' := W.heap.size) (by omega) 2 (.slice (some ⟨V2.heap.size, 0, none⟩) 1 1)).alloc (.cells #[sV t2] 9)
                have hb3 := below_all (below_set HO.out.1 (i := 2) (show w.heap.size ≤ W.heap.size from by omega) (.slice (some ⟨V2.heap.size, 0, none⟩) 1 1)) (below_alloc _ (.cells #[sV t2] 9))
                have m0 : V2.cell? ⟨W.heap.size, 0, none⟩ = some (sV t0) := HO.out.2.2.cell rfl
                have m1 : V2.cell? ⟨W.heap.size, 1, none⟩ = some (.int .i64 2) := HO.out.2.2.cell rfl
                have m2 : V2.cell? ⟨W.heap.size, 2, none⟩ = some (.slice none 0 0) := HO.out.2.2.cell rfl
                have mg2 := HO.out.2.2.frozen 2
                have oQ3 := (HO.out.2.2.set 2 (.slice (some ⟨V2.heap.size, 0, none⟩) 1 1)).alloc (.cells #[sV t2] 9)
                have oV3 : Own ((V2.setCell ⟨W.heap.size, 2, none⟩ (.slice (some ⟨V2.heap.size, 0, none⟩) 1 1)).alloc (.cells #[sV t2] 9)) V2.heap.size [sV t2] 9 := Own.new_at (by unfold World.setCell; simp) _ _
                have HO3 := Lib.hid (And.intro hb3 (And.intro oR3 (And.intro oV3 oQ3)))
                clear hb3 oR3 oV3 oQ3
                go_upto_region 20 with fail
                generalize ((V2.setCell ⟨W.heap.size, 2, none⟩ (.slice (some ⟨V2.heap.size, 0, none⟩) 1 1)).alloc (.cells #[sV t2] 9)) = V3 at *
                clear m0 m1 m2 mg2
                have m0 : V3.cell? ⟨W.heap.size, 0, none⟩ = some (sV t0) := HO3.out.2.2.2.cell rfl
                have m1 : V3.cell? ⟨W.heap.size, 1, none⟩ = some (.int .i64 2) := HO3.out.2.2.2.cell rfl
                have m2 : V3.cell? ⟨W.heap.size, 2, none⟩ = some (.slice (some ⟨V2.heap.size, 0, none⟩) 1 1) := HO3.out.2.2.2.cell rfl
                have r0 : V3.cell? ⟨w.heap.size, 0, none⟩ = some (sV []) := HO3.out.2.1.cell rfl
                have f0 := HO3.out.2.1.frozen 0
                have r1 : V3.cell? ⟨w.heap.size, 1, none⟩ = some (.int .i64 0) := HO3.out.2.1.cell rfl
                have f1 := HO3.out.2.1.frozen 1
                have r2 : V3.cell? ⟨w.heap.size, 2, none⟩ = some (.slice none 0 0) := HO3.out.2.1.cell rfl
                have f2 := HO3.out.2.1.frozen 2
                have r3 : V3.cell? ⟨w.heap.size, 3, none⟩ = some (.int .i64 0) := HO3.out.2.1.cell rfl
                have f3 := HO3.out.2.1.frozen 3
                have r4 : V3.cell? ⟨w.heap.size, 4, none⟩ = some (.bool false) := HO3.out.2.1.cell rfl
                have f4 := HO3.out.2.1.frozen 4
                go_wp2
                have oS := (((((HO3.out.2.1.set 0 (sV t0)).set 1 (.int .i64 2)).set 2 (.slice (some ⟨V2.heap.size, 0, none⟩) 1 1)).set 3 (.int .i64 ((i : Int) + 3))).set 4 (.bool false))
                have hbS := (below_set (below_set (below_set (below_set (below_set HO3.out.1 (Nat.le_refl w.heap.size) (i := 0) (sV t0)) (Nat.le_refl w.heap.size) (i := 1) (.int .i64 2)) (Nat.le_refl w.heap.size) (i := 2) (.slice (some ⟨V2.heap.size, 0, none⟩) 1 1)) (Nat.le_refl w.heap.size) (i := 3) (.int .i64 ((i : Int) + 3))) (Nat.le_refl w.heap.size) (i := 4) (.bool false))
                have hAU := (((((HO3.out.2.2.1.set_ne (b' := w.heap.size) (by omega) 0 (sV t0)).set_ne (b' := w.heap.size) (by omega) 1 (.int .i64 2)).set_ne (b' := w.heap.size) (by omega) 2 (.slice (some ⟨V2.heap.size, 0, none⟩) 1 1)).set_ne (b' := w.heap.size) (by omega) 3 (.int .i64 ((i : Int) + 3))).set_ne (b' := w.heap.size) (by omega) 4 (.bool false))
                clear r0 r1 r2 r3 r4 f0 f1 f2 f3 f4
                change bodyPost Tryd.prog Tryd.f46 _ _ _ (((((V3.setCell ⟨w.heap.size, 0, none⟩ (sV t0)).setCell ⟨w.heap.size, 1, none⟩ (.int .i64 2)).setCell ⟨w.heap.size, 2, none⟩ (.slice (some ⟨V2.heap.size, 0, none⟩) 1 1)).setCell ⟨w.heap.size, 3, none⟩ (.int .i64 ((i : Int) + 3))).setCell ⟨w.heap.size, 4, none⟩ (.bool false))
                generalize (((((V3.setCell ⟨w.heap.size, 0, none⟩ (sV t0)).setCell ⟨w.heap.size, 1, none⟩ (.int .i64 2)).setCell ⟨w.heap.size, 2, none⟩ (.slice (some ⟨V2.heap.size, 0, none⟩) 1 1)).setCell ⟨w.heap.size, 3, none⟩ (.int .i64 ((i : Int) + 3))).setCell ⟨w.heap.size, 4, none⟩ (.bool false)) = U at *
                have c0 : U.cell? ⟨w.heap.size, 0, none⟩ = some (sV t0) := oS.cell rfl
                have c1 : U.cell? ⟨w.heap.size, 1, none⟩ = some (.int .i64 2) := oS.cell rfl
                have c2 : U.cell? ⟨w.heap.size, 2, none⟩ = some (.slice (some ⟨V2.heap.size, 0, none⟩) 1 1) := oS.cell rfl
                have c3 : U.cell? ⟨w.heap.size, 3, none⟩ = some (.int .i64 ((i : Int) + 3)) := oS.cell rfl
                have c4 : U.cell? ⟨w.heap.size, 4, none⟩ = some (.bool false) := oS.cell rfl
                exact bodyPost_ret (v := .agg #[sV t0, .int .i64 2, .slice (some ⟨V2.heap.size, 0, none⟩) 1 1, .int .i64 ((i : Int) + 3), .bool false]) (by simp [results, Tryd.results46, go_sem, c0, c1, c2, c3, c4]) rfl ⟨hbS, ⟨(fun h => by rw [HP.out] at h; cases h), fun r rest h => by rw [HP.out] at h; cases h; exact ⟨_, i + 3, rfl, by exact strs_one hAU, high_at (by omega), rfl, by omega⟩⟩⟩
          · skip
            obtain rfl : t1 = [61] := by simpa using q61
            have k0 : V.cell? ⟨W.heap.size, 0, none⟩ = some (sV t0) := oQ.cell rfl
            have k1 : V.cell? ⟨W.heap.size, 1, none⟩ = some (.int .i64 3) := oQ.cell rfl
            have k2 : V.cell? ⟨W.heap.size, 2, none⟩ = some (.slice none 0 0) := oQ.cell rfl
            have g1 := oQ.frozen 1
            have g2 := oQ.frozen 2
            have hb2 := (below_set HB1 (i := 1) (show w.heap.size ≤ W.heap.size from by omega) (.int .i64 1))
            have oR2 := (oR1.set_ne (b' := W.heap.size) (by omega) 1 (.int .i64 1))
            have oQ2 := (oQ.set 1 (.int .i64 1))
            have HPR2 : Hid (pReq (l.drop i) = some (⟨t0, 1, [wVal (l.drop i).tail.tail]⟩, wRest (l.drop i).tail.tail)) := Lib.hid (by rw [HPR.out]; simp)
            clear HPR HB1 oR1 oQ
            have HO := Lib.hid (And.intro hb2 (And.intro oR2 oQ2))
            clear hb2 oR2 oQ2
            go_wp2_with fail
            generalize (V.setCell ⟨W.heap.size, 1, none⟩ (.int .i64 1)) = V2 at *
            clear k0 k1 k2 g1 g2
            have hV2 := HO.out.2.2.lt
            refine (A2.out V2 (hv.all HO.out.1)).mono ?_
            rintro e w' ⟨rfl, rfl⟩
            go_wp2_with fail
            refine (word_any _ _).mono ?_
            rintro e w' ⟨rfl, rfl⟩
            cases hw2 : isWord t2
            · skip
              have hi1l := (List.getElem?_eq_some_iff.1 (G1.out (by decide))).1
              have HP : Hid (pReq (l.drop i) = some (⟨t0, 1, [[]]⟩, l.drop (i + 2))) := Lib.hid (by rw [HPR2.out]; unfold wVal wRest; rw [X2.out, hw2, drop_tail, drop_tail]; simp)
              have oR3 := (HO.out.2.1.set_ne (b' := W.heap.size) (by omega) 2 (.slice (some ⟨V2.heap.size, 0, none⟩) 1 1)).alloc (.cells #[sV []] 9)
              have hb3 := below_all (below_set HO.out.1 (i := 2) (show w.heap.size ≤ W.heap.size from by omega) (.slice (some ⟨V2.heap.size, 0, none⟩) 1 1)) (below_alloc _ (.cells #[sV []] 9))
              have m0 : V2.cell? ⟨W.heap.size, 0, none⟩ = some (sV t0) := HO.out.2.2.cell rfl
              have m1 : V2.cell? ⟨W.heap.size, 1, none⟩ = some (.int .i64 1) := HO.out.2.2.cell rfl
              have m2 : V2.cell? ⟨W.heap.size, 2, none⟩ = some (.slice none 0 0) := HO.out.2.2.cell rfl
              have mg2 := HO.out.2.2.frozen 2
              have oQ3 := (HO.out.2.2.set 2 (.slice (some ⟨V2.heap.size, 0, none⟩) 1 1)).alloc (.cells #[sV []] 9)
              have oV3 : Own ((V2.setCell ⟨W.heap.size, 2, none⟩ (.slice (some ⟨V2.heap.size, 0, none⟩) 1 1)).alloc (.cells #[sV []] 9)) V2.heap.size [sV []] 9 := Own.new_at (by unfold World.setCell; simp) _ _
              have HO3 := Lib.hid (And.intro hb3 (And.intro oR3 (And.intro oV3 oQ3)))
              clear hb3 oR3 oV3 oQ3
              go_upto_region 22 with fail
              generalize ((V2.setCell ⟨W.heap.size, 2, none⟩ (.slice (some ⟨V2.heap.size, 0, none⟩) 1 1)).alloc (.cells #[sV []] 9)) = V3 at *
              clear m0 m1 m2 mg2
              have m0 : V3.cell? ⟨W.heap.size, 0, none⟩ = some (sV t0) := HO3.out.2.2.2.cell rfl
              have m1 : V3.cell? ⟨W.heap.size, 1, none⟩ = some (.int .i64 1) := HO3.out.2.2.2.cell rfl
              have m2 : V3.cell? ⟨W.heap.size, 2, none⟩ = some (.slice (some ⟨V2.heap.size, 0, none⟩) 1 1) := HO3.out.2.2.2.cell rfl
              have r0 : V3.cell? ⟨w.heap.size, 0, none⟩ = some (sV []) := HO3.out.2.1.cell rfl
              have f0 := HO3.out.2.1.frozen 0
              have r1 : V3.cell? ⟨w.heap.size, 1, none⟩ = some (.int .i64 0) := HO3.out.2.1.cell rfl
              have f1 := HO3.out.2.1.frozen 1
              have r2 : V3.cell? ⟨w.heap.size, 2, none⟩ = some (.slice none 0 0) := HO3.out.2.1.cell rfl
              have f2 := HO3.out.2.1.frozen 2
              have r3 : V3.cell? ⟨w.heap.size, 3, none⟩ = some (.int .i64 0) := HO3.out.2.1.cell rfl
              have f3 := HO3.out.2.1.frozen 3
              have r4 : V3.cell? ⟨w.heap.size, 4, none⟩ = some (.bool false) := HO3.out.2.1.cell rfl
              have f4 := HO3.out.2.1.frozen 4
              go_wp2
              have oS := (((((HO3.out.2.1.set 0 (sV t0)).set 1 (.int .i64 1)).set 2 (.slice (some ⟨V2.heap.size, 0, none⟩) 1 1)).set 3 (.int .i64 ((i : Int) + 2))).set 4 (.bool false))
              have hbS := (below_set (below_set (below_set (below_set (below_set HO3.out.1 (Nat.le_refl w.heap.size) (i := 0) (sV t0)) (Nat.le_refl w.heap.size) (i := 1) (.int .i64 1)) (Nat.le_refl w.heap.size) (i := 2) (.slice (some ⟨V2.heap.size, 0, none⟩) 1 1)) (Nat.le_refl w.heap.size) (i := 3) (.int .i64 ((i : Int) + 2))) (Nat.le_refl w.heap.size) (i := 4) (.bool false))
              have hAU := (((((HO3.out.2.2.1.set_ne (b' := w.heap.size) (by omega) 0 (sV t0)).set_ne (b' := w.heap.size) (by omega) 1 (.int .i64 1)).set_ne (b' := w.heap.size) (by omega) 2 (.slice (some ⟨V2.heap.size, 0, none⟩) 1 1)).set_ne (b' := w.heap.size) (by omega) 3 (.int .i64 ((i : Int) + 2))).set_ne (b' := w.heap.size) (by omega) 4 (.bool false))
              clear r0 r1 r2 r3 r4 f0 f1 f2 f3 f4
              change bodyPost Tryd.prog Tryd.f46 _ _ _ (((((V3.setCell ⟨w.heap.size, 0, none⟩ (sV t0)).setCell ⟨w.heap.size, 1, none⟩ (.int .i64 1)).setCell ⟨w.heap.size, 2, none⟩ (.slice (some ⟨V2.heap.size, 0, none⟩) 1 1)).setCell ⟨w.heap.size, 3, none⟩ (.int .i64 ((i : Int) + 2))).setCell ⟨w.heap.size, 4, none⟩ (.bool false))
              generalize (((((V3.setCell ⟨w.heap.size, 0, none⟩ (sV t0)).setCell ⟨w.heap.size, 1, none⟩ (.int .i64 1)).setCell ⟨w.heap.size, 2, none⟩ (.slice (some ⟨V2.heap.size, 0, none⟩) 1 1)).setCell ⟨w.heap.size, 3, none⟩ (.int .i64 ((i : Int) + 2))).setCell ⟨w.heap.size, 4, none⟩ (.bool false)) = U at *
              have c0 : U.cell? ⟨w.heap.size, 0, none⟩ = some (sV t0) := oS.cell rfl
              have c1 : U.cell? ⟨w.heap.size, 1, none⟩ = some (.int .i64 1) := oS.cell rfl
              have c2 : U.cell? ⟨w.heap.size, 2, none⟩ = some (.slice (some ⟨V2.heap.size, 0, none⟩) 1 1) := oS.cell rfl
              have c3 : U.cell? ⟨w.heap.size, 3, none⟩ = some (.int .i64 ((i : Int) + 2)) := oS.cell rfl
              have c4 : U.cell? ⟨w.heap.size, 4, none⟩ = some (.bool false) := oS.cell rfl
              exact bodyPost_ret (v := .agg #[sV t0, .int .i64 1, .slice (some ⟨V2.heap.size, 0, none⟩) 1 1, .int .i64 ((i : Int) + 2), .bool false]) (by simp [results, Tryd.results46, go_sem, c0, c1, c2, c3, c4]) rfl ⟨hbS, ⟨(fun h => by rw [HP.out] at h; cases h), fun r rest h => by rw [HP.out] at h; cases h; exact ⟨_, i + 2, rfl, by exact strs_one hAU, high_at (by omega), rfl, by omega⟩⟩⟩
            · skip
              have g2w := G2.out (word_ne hw2)
              have hi2l := (List.getElem?_eq_some_iff.1 g2w).1
              obtain ⟨b4, off4, he4, c4'⟩ := hv.at HO.out.1 g2w
              cases he4
              have HP : Hid (pReq (l.drop i) = some (⟨t0, 1, [t2]⟩, l.drop (i + 3))) := Lib.hid (by rw [HPR2.out]; unfold wVal wRest; rw [X2.out, hw2, drop_tail, drop_tail, drop_tail]; simp)
              have oR3 := (HO.out.2.1.set_ne (b' := W.heap.size) (by omega) 2 (.slice (some ⟨V2.heap.size, 0, none⟩) 1 1)).alloc (.cells #[sV t2] 9)
              have hb3 := below_all (below_set HO.out.1 (i := 2) (show w.heap.size ≤ W.heap.size from by omega) (.slice (some ⟨V2.heap.size, 0, none⟩) 1 1)) (below_alloc _ (.cells #[sV t2] 9))
              have m0 : V2.cell? ⟨W.heap.size, 0, none⟩ = some (sV t0) := HO.out.2.2.cell rfl
              have m1 : V2.cell? ⟨W.heap.size, 1, none⟩ = some (.int .i64 1) := HO.out.2.2.cell rfl
              have m2 : V2.cell? ⟨W.heap.size, 2, none⟩ = some (.slice none 0 0) := HO.out.2.2.cell rfl
              have mg2 := HO.out.2.2.frozen 2
              have oQ3 := (HO.out.2.2.set 2 (.slice (some ⟨V2.heap.size, 0, none⟩) 1 1)).alloc (.cells #[sV t2] 9)
              have oV3 : Own ((V2.setCell ⟨W.heap.size, 2, none⟩ (.slice (some ⟨V2.heap.size, 0, none⟩) 1 1)).alloc (.cells #[sV t2] 9)) V2.heap.size [sV t2] 9 := Own.new_at (by unfold World.setCell; simp) _ _
              have HO3 := Lib.hid (And.intro hb3 (And.intro oR3 (And.intro oV3 oQ3)))
              clear hb3 oR3 oV3 oQ3
              go_upto_region 20 with fail
              generalize ((V2.setCell ⟨W.heap.size, 2, none⟩ (.slice (some ⟨V2.heap.size, 0, none⟩) 1 1)).alloc (.cells #[sV t2] 9)) = V3 at *
              clear m0 m1 m2 mg2
              have m0 : V3.cell? ⟨W.heap.size, 0, none⟩ = some (sV t0) := HO3.out.2.2.2.cell rfl
              have m1 : V3.cell? ⟨W.heap.size, 1, none⟩ = some (.int .i64 1) := HO3.out.2.2.2.cell rfl
              have m2 : V3.cell? ⟨W.heap.size, 2, none⟩ = some (.slice (some ⟨V2.heap.size, 0, none⟩) 1 1) := HO3.out.2.2.2.cell rfl
              have r0 : V3.cell? ⟨w.heap.size, 0, none⟩ = some (sV []) := HO3.out.2.1.cell rfl
              have f0 := HO3.out.2.1.frozen 0
              have r1 : V3.cell? ⟨w.heap.size, 1, none⟩ = some (.int .i64 0) := HO3.out.2.1.cell rfl
              have f1 := HO3.out.2.1.frozen 1
              have r2 : V3.cell? ⟨w.heap.size, 2, none⟩ = some (.slice none 0 0) := HO3.out.2.1.cell rfl
              have f2 := HO3.out.2.1.frozen 2
              have r3 : V3.cell? ⟨w.heap.size, 3, none⟩ = some (.int .i64 0) := HO3.out.2.1.cell rfl
              have f3 := HO3.out.2.1.frozen 3
              have r4 : V3.cell? ⟨w.heap.size, 4, none⟩ = some (.bool false) := HO3.out.2.1.cell rfl
              have f4 := HO3.out.2.1.frozen 4
              go_wp2
              have oS := (((((HO3.out.2.1.set 0 (sV t0)).set 1 (.int .i64 1)).set 2 (.slice (some ⟨V2.heap.size, 0, none⟩) 1 1)).set 3 (.int .i64 ((i : Int) + 3))).set 4 (.bool false))
              have hbS := (below_set (below_set (below_set (below_set (below_set HO3.out.1 (Nat.le_refl w.heap.size) (i := 0) (sV t0)) (Nat.le_refl w.heap.size) (i := 1) (.int .i64 1)) (Nat.le_refl w.heap.size) (i := 2) (.slice (some ⟨V2.heap.size, 0, none⟩) 1 1)) (Nat.le_refl w.heap.size) (i := 3) (.int .i64 ((i : Int) + 3))) (Nat.le_refl w.heap.size) (i := 4) (.bool false))
              have hAU := (((((HO3.out.2.2.1.set_ne (b' := w.heap.size) (by omega) 0 (sV t0)).set_ne (b' := w.heap.size) (by omega) 1 (.int .i64 1)).set_ne (b' := w.heap.size) (by omega) 2 (.slice (some ⟨V2.heap.size, 0, none⟩) 1 1)).set_ne (b' := w.heap.size) (by omega) 3 (.int .i64 ((i : Int) + 3))).set_ne (b' := w.heap.size) (by omega) 4 (.bool false))
              clear r0 r1 r2 r3 r4 f0 f1 f2 f3 f4
              change bodyPost Tryd.prog Tryd.f46 _ _ _ (((((V3.setCell ⟨w.heap.size, 0, none⟩ (sV t0)).setCell ⟨w.heap.size, 1, none⟩ (.int .i64 1)).setCell ⟨w.heap.size, 2, none⟩ (.slice (some ⟨V2.heap.size, 0, none⟩) 1 1)).setCell ⟨w.heap.size, 3, none⟩ (.int .i64 ((i : Int) + 3))).setCell ⟨w.heap.size, 4, none⟩ (.bool false))
              generalize (((((V3.setCell ⟨w.heap.size, 0, none⟩ (sV t0)).setCell ⟨w.heap.size, 1, none⟩ (.int .i64 1)).setCell ⟨w.heap.size, 2, none⟩ (.slice (some ⟨V2.heap.size, 0, none⟩) 1 1)).setCell ⟨w.heap.size, 3, none⟩ (.int .i64 ((i : Int) + 3))).setCell ⟨w.heap.size, 4, none⟩ (.bool false)) = U at *
              have c0 : U.cell? ⟨w.heap.size, 0, none⟩ = some (sV t0) := oS.cell rfl
              have c1 : U.cell? ⟨w.heap.size, 1, none⟩ = some (.int .i64 1) := oS.cell rfl
              have c2 : U.cell? ⟨w.heap.size, 2, none⟩ = some (.slice (some ⟨V2.heap.size, 0, none⟩) 1 1) := oS.cell rfl
              have c3 : U.cell? ⟨w.heap.size, 3, none⟩ = some (.int .i64 ((i : Int) + 3)) := oS.cell rfl
              have c4 : U.cell? ⟨w.heap.size, 4, none⟩ = some (.bool false) := oS.cell rfl
              exact bodyPost_ret (v := .agg #[sV t0, .int .i64 1, .slice (some ⟨V2.heap.size, 0, none⟩) 1 1, .int .i64 ((i : Int) + 3), .bool false]) (by simp [results, Tryd.results46, go_sem, c0, c1, c2, c3, c4]) rfl ⟨hbS, ⟨(fun h => by rw [HP.out] at h; cases h), fun r rest h => by rw [HP.out] at h; cases h; exact ⟨_, i + 3, rfl, by exact strs_one hAU, high_at (by omega), rfl, by omega⟩⟩⟩
        · skip
          obtain rfl : t1 = [110, 111, 116, 105, 110] := by simpa using qno
          have k0 : V.cell? ⟨W.heap.size, 0, none⟩ = some (sV t0) := oQ.cell rfl
          have k1 : V.cell? ⟨W.heap.size, 1, none⟩ = some (.int .i64 3) := oQ.cell rfl
          have k2 : V.cell? ⟨W.heap.size, 2, none⟩ = some (.slice none 0 0) := oQ.cell rfl
          have g1 := oQ.frozen 1
          have g2 := oQ.frozen 2
          have hb2 := (below_set (below_set HB1 (i := 1) (show w.heap.size ≤ W.heap.size from by omega) (.int .i64 1)) (i := 1) (show w.heap.size ≤ W.heap.size from by omega) (.int .i64 2))
          have oR2 := ((oR1.set_ne (b' := W.heap.size) (by omega) 1 (.int .i64 1)).set_ne (b' := W.heap.size) (by omega) 1 (.int .i64 2))
          have HPR2 : Hid (pReq (l.drop i) = (pList (l.drop (i + 2))).map (fun p => (⟨t0, 2, p.1⟩, p.2))) := Lib.hid (by rw [HPR.out, drop_tail, drop_tail]; simp)
          clear HPR HB1 oR1 oQ
          have CL := Lib.hid (rlist_any _ l (i + 2) t0 2 ((V.setCell ⟨W.heap.size, 1, none⟩ (.int .i64 1)).setCell ⟨W.heap.size, 1, none⟩ (.int .i64 2)) (hv.all hb2) hl (by omega))
          have hi2 : (((i + 2 : Nat) : Nat) : Int) = (i : Int) + 2 := by omega
          rw [hi2] at CL
          have HO := Lib.hid (And.intro hb2 oR2)
          clear hb2 oR2
          go_wp2_with fail
          generalize ((V.setCell ⟨W.heap.size, 1, none⟩ (.int .i64 1)).setCell ⟨W.heap.size, 1, none⟩ (.int .i64 2)) = V2 at *
          refine CL.out.mono ?_
          rintro e w3 ⟨hb3, hG⟩
          have hb4 := below_all HO.out.1 hb3
          have oR4 := HO.out.2.all hb3
          cases hpl : pList (l.drop (i + 2)) with
          | none =>
            have HP : Hid (pReq (l.drop i) = none) := Lib.hid (by rw [HPR2.out, hpl]; rfl)
            obtain rfl := hG.bad hpl
            clear hG k0 k1 k2 g1 g2
            have r0 : w3.cell? ⟨w.heap.size, 0, none⟩ = some (sV []) := oR4.cell rfl
            have f0 := oR4.frozen 0
            have r1 : w3.cell? ⟨w.heap.size, 1, none⟩ = some (.int .i64 0) := oR4.cell rfl
            have f1 := oR4.frozen 1
            have r2 : w3.cell? ⟨w.heap.size, 2, none⟩ = some (.slice none 0 0) := oR4.cell rfl
            have f2 := oR4.frozen 2
            have r3 : w3.cell? ⟨w.heap.size, 3, none⟩ = some (.int .i64 0) := oR4.cell rfl
            have f3 := oR4.frozen 3
            have r4 : w3.cell? ⟨w.heap.size, 4, none⟩ = some (.bool false) := oR4.cell rfl
            have f4 := oR4.frozen 4
            have HO4 := Lib.hid (And.intro hb4 oR4)
            clear hb4 oR4 CL
            go_wp2
            have oS := (((((HO4.out.2.set 0 (sV [])).set 1 (.int .i64 0)).set 2 (.slice none 0 0)).set 3 (.int .i64 0)).set 4 (.bool true))
            have hbS := (below_set (below_set (below_set (below_set (below_set HO4.out.1 (Nat.le_refl w.heap.size) (i := 0) (sV [])) (Nat.le_refl w.heap.size) (i := 1) (.int .i64 0)) (Nat.le_refl w.heap.size) (i := 2) (.slice none 0 0)) (Nat.le_refl w.heap.size) (i := 3) (.int .i64 0)) (Nat.le_refl w.heap.size) (i := 4) (.bool true))
            clear r0 r1 r2 r3 r4 f0 f1 f2 f3 f4
            change bodyPost Tryd.prog Tryd.f46 _ _ _ (((((w3.setCell ⟨w.heap.size, 0, none⟩ (sV [])).setCell ⟨w.heap.size, 1, none⟩ (.int .i64 0)).setCell ⟨w.heap.size, 2, none⟩ (.slice none 0 0)).setCell ⟨w.heap.size, 3, none⟩ (.int .i64 0)).setCell ⟨w.heap.size, 4, none⟩ (.bool true))
            generalize (((((w3.setCell ⟨w.heap.size, 0, none⟩ (sV [])).setCell ⟨w.heap.size, 1, none⟩ (.int .i64 0)).setCell ⟨w.heap.size, 2, none⟩ (.slice none 0 0)).setCell ⟨w.heap.size, 3, none⟩ (.int .i64 0)).setCell ⟨w.heap.size, 4, none⟩ (.bool true)) = U at *
            have c0 : U.cell? ⟨w.heap.size, 0, none⟩ = some (sV []) := oS.cell rfl
            have c1 : U.cell? ⟨w.heap.size, 1, none⟩ = some (.int .i64 0) := oS.cell rfl
            have c2 : U.cell? ⟨w.heap.size, 2, none⟩ = some (.slice none 0 0) := oS.cell rfl
            have c3 : U.cell? ⟨w.heap.size, 3, none⟩ = some (.int .i64 0) := oS.cell rfl
            have c4 : U.cell? ⟨w.heap.size, 4, none⟩ = some (.bool true) := oS.cell rfl
            exact bodyPost_ret (v := .agg #[sV [], .int .i64 0, .slice none 0 0, .int .i64 0, .bool true]) (by simp [results, Tryd.results46, go_sem, c0, c1, c2, c3, c4]) rfl ⟨hbS, ⟨fun _ => rfl, fun r rest h => by rw [HP.out] at h; cases h⟩⟩
          | some p =>
            obtain ⟨vals, rest⟩ := p
            have HP : Hid (pReq (l.drop i) = some (⟨t0, 2, vals⟩, rest)) := Lib.hid (by rw [HPR2.out, hpl]; rfl)
            obtain ⟨v3, I, rfl, hs3, hrest, hIl⟩ := hG.good vals rest hpl
            obtain ⟨ao3, cap3, hv3, -⟩ := (strs_own hs3).out
            generalize hn3 : vals.length = n3 at hv3
            subst hv3
            subst hrest
            clear hG k0 k1 k2 g1 g2
            have r0 : w3.cell? ⟨w.heap.size, 0, none⟩ = some (sV []) := oR4.cell rfl
            have f0 := oR4.frozen 0
            have r1 : w3.cell? ⟨w.heap.size, 1, none⟩ = some (.int .i64 0) := oR4.cell rfl
            have f1 := oR4.frozen 1
            have r2 : w3.cell? ⟨w.heap.size, 2, none⟩ = some (.slice none 0 0) := oR4.cell rfl
            have f2 := oR4.frozen 2
            have r3 : w3.cell? ⟨w.heap.size, 3, none⟩ = some (.int .i64 0) := oR4.cell rfl
            have f3 := oR4.frozen 3
            have r4 : w3.cell? ⟨w.heap.size, 4, none⟩ = some (.bool false) := oR4.cell rfl
            have f4 := oR4.frozen 4
            have HO4 := Lib.hid (And.intro hb4 (And.intro oR4 hs3))
            clear hb4 oR4 CL
            go_wp2
            have oS := (((((HO4.out.2.1.set 0 (sV t0)).set 1 (.int .i64 2)).set 2 (.slice ao3 n3 cap3)).set 3 (.int .i64 (I : Int))).set 4 (.bool false))
            have hbS := (below_set (below_set (below_set (below_set (below_set HO4.out.1 (Nat.le_refl w.heap.size) (i := 0) (sV t0)) (Nat.le_refl w.heap.size) (i := 1) (.int .i64 2)) (Nat.le_refl w.heap.size) (i := 2) (.slice ao3 n3 cap3)) (Nat.le_refl w.heap.size) (i := 3) (.int .i64 (I : Int))) (Nat.le_refl w.heap.size) (i := 4) (.bool false))
            have hAU := (row_set (row_set (row_set (row_set (row_set HO4.out.2.2 (b := w.heap.size) (by have := HO.out.2.lt; omega) 0 (sV t0)) (b := w.heap.size) (by have := HO.out.2.lt; omega) 1 (.int .i64 2)) (b := w.heap.size) (by have := HO.out.2.lt; omega) 2 (.slice ao3 n3 cap3)) (b := w.heap.size) (by have := HO.out.2.lt; omega) 3 (.int .i64 (I : Int))) (b := w.heap.size) (by have := HO.out.2.lt; omega) 4 (.bool false))
            clear r0 r1 r2 r3 r4 f0 f1 f2 f3 f4
            change bodyPost Tryd.prog Tryd.f46 _ _ _ (((((w3.setCell ⟨w.heap.size, 0, none⟩ (sV t0)).setCell ⟨w.heap.size, 1, none⟩ (.int .i64 2)).setCell ⟨w.heap.size, 2, none⟩ (.slice ao3 n3 cap3)).setCell ⟨w.heap.size, 3, none⟩ (.int .i64 (I : Int))).setCell ⟨w.heap.size, 4, none⟩ (.bool false))
            generalize (((((w3.setCell ⟨w.heap.size, 0, none⟩ (sV t0)).setCell ⟨w.heap.size, 1, none⟩ (.int .i64 2)).setCell ⟨w.heap.size, 2, none⟩ (.slice ao3 n3 cap3)).setCell ⟨w.heap.size, 3, none⟩ (.int .i64 (I : Int))).setCell ⟨w.heap.size, 4, none⟩ (.bool false)) = U at *
            have c0 : U.cell? ⟨w.heap.size, 0, none⟩ = some (sV t0) := oS.cell rfl
            have c1 : U.cell? ⟨w.heap.size, 1, none⟩ = some (.int .i64 2) := oS.cell rfl
            have c2 : U.cell? ⟨w.heap.size, 2, none⟩ = some (.slice ao3 n3 cap3) := oS.cell rfl
            have c3 : U.cell? ⟨w.heap.size, 3, none⟩ = some (.int .i64 (I : Int)) := oS.cell rfl
            have c4 : U.cell? ⟨w.heap.size, 4, none⟩ = some (.bool false) := oS.cell rfl
            exact bodyPost_ret (v := .agg #[sV t0, .int .i64 2, .slice ao3 n3 cap3, .int .i64 (I : Int), .bool false]) (by simp [results, Tryd.results46, go_sem, c0, c1, c2, c3, c4]) rfl ⟨hbS, ⟨(fun h => by rw [HP.out] at h; cases h), fun r rest h => by rw [HP.out] at h; cases h; exact ⟨_, I, rfl, strs_own hAU, fun k hk => Nat.le_trans HO.out.1.size (own_row hAU k hk), rfl, by omega⟩⟩⟩
      · skip
        obtain rfl : t1 = [105, 110] := by simpa using qin
        have k0 : V.cell? ⟨W.heap.size, 0, none⟩ = some (sV t0) := oQ.cell rfl
        have k1 : V.cell? ⟨W.heap.size, 1, none⟩ = some (.int .i64 3) := oQ.cell rfl
        have k2 : V.cell? ⟨W.heap.size, 2, none⟩ = some (.slice none 0 0) := oQ.cell rfl
        have g1 := oQ.frozen 1
        have g2 := oQ.frozen 2
        have hb2 := (below_set HB1 (i := 1) (show w.heap.size ≤ W.heap.size from by omega) (.int .i64 1))
        have oR2 := (oR1.set_ne (b' := W.heap.size) (by omega) 1 (.int .i64 1))
        have HPR2 : Hid (pReq (l.drop i) = (pList (l.drop (i + 2))).map (fun p => (⟨t0, 1, p.1⟩, p.2))) := Lib.hid (by rw [HPR.out, drop_tail, drop_tail]; simp)
        clear HPR HB1 oR1 oQ
        have CL := Lib.hid (rlist_any _ l (i + 2) t0 1 (V.setCell ⟨W.heap.size, 1, none⟩ (.int .i64 1)) (hv.all hb2) hl (by omega))
        have hi2 : (((i + 2 : Nat) : Nat) : Int) = (i : Int) + 2 := by omega
        rw [hi2] at CL
        have HO := Lib.hid (And.intro hb2 oR2)
        clear hb2 oR2
        go_wp2_with fail
        generalize (V.setCell ⟨W.heap.size, 1, none⟩ (.int .i64 1)) = V2 at *
        refine CL.out.mono ?_
        rintro e w3 ⟨hb3, hG⟩
        have hb4 := below_all HO.out.1 hb3
        have oR4 := HO.out.2.all hb3
        cases hpl : pList (l.drop (i + 2)) with
        | none =>
          have HP : Hid (pReq (l.drop i) = none) := Lib.hid (by rw [HPR2.out, hpl]; rfl)
          obtain rfl := hG.bad hpl
          clear hG k0 k1 k2 g1 g2
          have r0 : w3.cell? ⟨w.heap.size, 0, none⟩ = some (sV []) := oR4.cell rfl
          have f0 := oR4.frozen 0
          have r1 : w3.cell? ⟨w.heap.size, 1, none⟩ = some (.int .i64 0) := oR4.cell rfl
          have f1 := oR4.frozen 1
          have r2 : w3.cell? ⟨w.heap.size, 2, none⟩ = some (.slice none 0 0) := oR4.cell rfl
          have f2 := oR4.frozen 2
          have r3 : w3.cell? ⟨w.heap.size, 3, none⟩ = some (.int .i64 0) := oR4.cell rfl
          have f3 := oR4.frozen 3
          have r4 : w3.cell? ⟨w.heap.size, 4, none⟩ = some (.bool false) := oR4.cell rfl
          have f4 := oR4.frozen 4
          have HO4 := Lib.hid (And.intro hb4 oR4)
          clear hb4 oR4 CL
          go_wp2
          have oS := (((((HO4.out.2.set 0 (sV [])).set 1 (.int .i64 0)).set 2 (.slice none 0 0)).set 3 (.int .i64 0)).set 4 (.bool true))
          have hbS := (below_set (below_set (below_set (below_set (below_set HO4.out.1 (Nat.le_refl w.heap.size) (i := 0) (sV [])) (Nat.le_refl w.heap.size) (i := 1) (.int .i64 0)) (Nat.le_refl w.heap.size) (i := 2) (.slice none 0 0)) (Nat.le_refl w.heap.size) (i := 3) (.int .i64 0)) (Nat.le_refl w.heap.size) (i := 4) (.bool true))
          clear r0 r1 r2 r3 r4 f0 f1 f2 f3 f4
          change bodyPost Tryd.prog Tryd.f46 _ _ _ (((((w3.setCell ⟨w.heap.size, 0, none⟩ (sV [])).setCell ⟨w.heap.size, 1, none⟩ (.int .i64 0)).setCell ⟨w.heap.size, 2, none⟩ (.slice none 0 0)).setCell ⟨w.heap.size, 3, none⟩ (.int .i64 0)).setCell ⟨w.heap.size, 4, none⟩ (.bool true))
          generalize (((((w3.setCell ⟨w.heap.size, 0, none⟩ (sV [])).setCell ⟨w.heap.size, 1, none⟩ (.int .i64 0)).setCell ⟨w.heap.size, 2, none⟩ (.slice none 0 0)).setCell ⟨w.heap.size, 3, none⟩ (.int .i64 0)).setCell ⟨w.heap.size, 4, none⟩ (.bool true)) = U at *
          have c0 : U.cell? ⟨w.heap.size, 0, none⟩ = some (sV []) := oS.cell rfl
          have c1 : U.cell? ⟨w.heap.size, 1, none⟩ = some (.int .i64 0) := oS.cell rfl
          have c2 : U.cell? ⟨w.heap.size, 2, none⟩ = some (.slice none 0 0) := oS.cell rfl
          have c3 : U.cell? ⟨w.heap.size, 3, none⟩ = some (.int .i64 0) := oS.cell rfl
          have c4 : U.cell? ⟨w.heap.size, 4, none⟩ = some (.bool true) := oS.cell rfl
          exact bodyPost_ret (v := .agg #[sV [], .int .i64 0, .slice none 0 0, .int .i64 0, .bool true]) (by simp [results, Tryd.results46, go_sem, c0, c1, c2, c3, c4]) rfl ⟨hbS, ⟨fun _ => rfl, fun r rest h => by rw [HP.out] at h; cases h⟩⟩
        | some p =>
          obtain ⟨vals, rest⟩ := p
          have HP : Hid (pReq (l.drop i) = some (⟨t0, 1, vals⟩, rest)) := Lib.hid (by rw [HPR2.out, hpl]; rfl)
          obtain ⟨v3, I, rfl, hs3, hrest, hIl⟩ := hG.good vals rest hpl
          obtain ⟨ao3, cap3, hv3, -⟩ := (strs_own hs3).out
          generalize hn3 : vals.length = n3 at hv3
          subst hv3
          subst hrest
          clear hG k0 k1 k2 g1 g2
          have r0 : w3.cell? ⟨w.heap.size, 0, none⟩ = some (sV []) := oR4.cell rfl
          have f0 := oR4.frozen 0
          have r1 : w3.cell? ⟨w.heap.size, 1, none⟩ = some (.int .i64 0) := oR4.cell rfl
          have f1 := oR4.frozen 1
          have r2 : w3.cell? ⟨w.heap.size, 2, none⟩ = some (.slice none 0 0) := oR4.cell rfl
          have f2 := oR4.frozen 2
          have r3 : w3.cell? ⟨w.heap.size, 3, none⟩ = some (.int .i64 0) := oR4.cell rfl
          have f3 := oR4.frozen 3
          have r4 : w3.cell? ⟨w.heap.size, 4, none⟩ = some (.bool false) := oR4.cell rfl
          have f4 := oR4.frozen 4
          have HO4 := Lib.hid (And.intro hb4 (And.intro oR4 hs3))
          clear hb4 oR4 CL
          go_wp2
          have oS := (((((HO4.out.2.1.set 0 (sV t0)).set 1 (.int .i64 1)).set 2 (.slice ao3 n3 cap3)).set 3 (.int .i64 (I : Int))).set 4 (.bool false))
          have hbS := (below_set (below_set (below_set (below_set (below_set HO4.out.1 (Nat.le_refl w.heap.size) (i := 0) (sV t0)) (Nat.le_refl w.heap.size) (i := 1) (.int .i64 1)) (Nat.le_refl w.heap.size) (i := 2) (.slice ao3 n3 cap3)) (Nat.le_refl w.heap.size) (i := 3) (.int .i64 (I : Int))) (Nat.le_refl w.heap.size) (i := 4) (.bool false))
          have hAU := (row_set (row_set (row_set (row_set (row_set HO4.out.2.2 (b := w.heap.size) (by have := HO.out.2.lt; omega) 0 (sV t0)) (b := w.heap.size) (by have := HO.out.2.lt; omega) 1 (.int .i64 1)) (b := w.heap.size) (by have := HO.out.2.lt; omega) 2 (.slice ao3 n3 cap3)) (b := w.heap.size) (by have := HO.out.2.lt; omega) 3 (.int .i64 (I : Int))) (b := w.heap.size) (by have := HO.out.2.lt; omega) 4 (.bool false))
          clear r0 r1 r2 r3 r4 f0 f1 f2 f3 f4
          change bodyPost Tryd.prog Tryd.f46 _ _ _ (((((w3.setCell ⟨w.heap.size, 0, none⟩ (sV t0)).setCell ⟨w.heap.size, 1, none⟩ (.int .i64 1)).setCell ⟨w.heap.size, 2, none⟩ (.slice ao3 n3 cap3)).setCell ⟨w.heap.size, 3, none⟩ (.int .i64 (I : Int))).setCell ⟨w.heap.size, 4, none⟩ (.bool false))
          generalize (((((w3.setCell ⟨w.heap.size, 0, none⟩ (sV t0)).setCell ⟨w.heap.size, 1, none⟩ (.int .i64 1)).setCell ⟨w.heap.size, 2, none⟩ (.slice ao3 n3 cap3)).setCell ⟨w.heap.size, 3, none⟩ (.int .i64 (I : Int))).setCell ⟨w.heap.size, 4, none⟩ (.bool false)) = U at *
          have c0 : U.cell? ⟨w.heap.size, 0, none⟩ = some (sV t0) := oS.cell rfl
          have c1 : U.cell? ⟨w.heap.size, 1, none⟩ = some (.int .i64 1) := oS.cell rfl
          have c2 : U.cell? ⟨w.heap.size, 2, none⟩ = some (.slice ao3 n3 cap3) := oS.cell rfl
          have c3 : U.cell? ⟨w.heap.size, 3, none⟩ = some (.int .i64 (I : Int)) := oS.cell rfl
          have c4 : U.cell? ⟨w.heap.size, 4, none⟩ = some (.bool false) := oS.cell rfl
          exact bodyPost_ret (v := .agg #[sV t0, .int .i64 1, .slice ao3 n3 cap3, .int .i64 (I : Int), .bool false]) (by simp [results, Tryd.results46, go_sem, c0, c1, c2, c3, c4]) rfl ⟨hbS, ⟨(fun h => by rw [HP.out] at h; cases h), fun r rest h => by rw [HP.out] at h; cases h; exact ⟨_, I, rfl, strs_own hAU, fun k hk => Nat.le_trans HO.out.1.size (own_row hAU k hk), rfl, by omega⟩⟩⟩
  · obtain rfl : t0 = [33] := by simpa using hq0
    have HBG : Hid (bang (l.drop i) = (l.drop i).tail) := Lib.hid (by unfold bang; rw [X0.out]; rfl)
    go_wp2_with fail
    refine (A1.out W (hv.all HB0)).mono ?_
    rintro e w' ⟨rfl, rfl⟩
    go_wp2_with fail
    refine (word_any _ _).mono ?_
    rintro e w' ⟨rfl, rfl⟩
    cases hw1 : isWord t1
    · have HP : Hid (pReq (l.drop i) = none) := Lib.hid (by unfold pReq; rw [HBG.out, X1.out, hw1]; rfl)
      have r0 : W.cell? ⟨w.heap.size, 0, none⟩ = some (sV []) := oR.cell rfl
      have f0 := oR.frozen 0
      have r1 : W.cell? ⟨w.heap.size, 1, none⟩ = some (.int .i64 0) := oR.cell rfl
      have f1 := oR.frozen 1
      have r2 : W.cell? ⟨w.heap.size, 2, none⟩ = some (.slice none 0 0) := oR.cell rfl
      have f2 := oR.frozen 2
      have r3 : W.cell? ⟨w.heap.size, 3, none⟩ = some (.int .i64 0) := oR.cell rfl
      have f3 := oR.frozen 3
      have r4 : W.cell? ⟨w.heap.size, 4, none⟩ = some (.bool false) := oR.cell rfl
      have f4 := oR.frozen 4
      have HO := Lib.hid (And.intro HB0 oR)
      clear oR HB0
      go_wp2
      have oS := (((((HO.out.2.set 0 (sV [])).set 1 (.int .i64 0)).set 2 (.slice none 0 0)).set 3 (.int .i64 0)).set 4 (.bool true))
      have hbS := (below_set (below_set (below_set (below_set (below_set HO.out.1 (Nat.le_refl w.heap.size) (i := 0) (sV [])) (Nat.le_refl w.heap.size) (i := 1) (.int .i64 0)) (Nat.le_refl w.heap.size) (i := 2) (.slice none 0 0)) (Nat.le_refl w.heap.size) (i := 3) (.int .i64 0)) (Nat.le_refl w.heap.size) (i := 4) (.bool true))
      clear r0 r1 r2 r3 r4 f0 f1 f2 f3 f4
      change bodyPost Tryd.prog Tryd.f46 _ _ _ (((((W.setCell ⟨w.heap.size, 0, none⟩ (sV [])).setCell ⟨w.heap.size, 1, none⟩ (.int .i64 0)).setCell ⟨w.heap.size, 2, none⟩ (.slice none 0 0)).setCell ⟨w.heap.size, 3, none⟩ (.int .i64 0)).setCell ⟨w.heap.size, 4, none⟩ (.bool true))
      generalize (((((W.setCell ⟨w.heap.size, 0, none⟩ (sV [])).setCell ⟨w.heap.size, 1, none⟩ (.int .i64 0)).setCell ⟨w.heap.size, 2, none⟩ (.slice none 0 0)).setCell ⟨w.heap.size, 3, none⟩ (.int .i64 0)).setCell ⟨w.heap.size, 4, none⟩ (.bool true)) = U at *
      have c0 : U.cell? ⟨w.heap.size, 0, none⟩ = some (sV []) := oS.cell rfl
      have c1 : U.cell? ⟨w.heap.size, 1, none⟩ = some (.int .i64 0) := oS.cell rfl
      have c2 : U.cell? ⟨w.heap.size, 2, none⟩ = some (.slice none 0 0) := oS.cell rfl
      have c3 : U.cell? ⟨w.heap.size, 3, none⟩ = some (.int .i64 0) := oS.cell rfl
      have c4 : U.cell? ⟨w.heap.size, 4, none⟩ = some (.bool true) := oS.cell rfl
      exact bodyPost_ret (v := .agg #[sV [], .int .i64 0, .slice none 0 0, .int .i64 0, .bool true]) (by simp [results, Tryd.results46, go_sem, c0, c1, c2, c3, c4]) rfl ⟨hbS, ⟨fun _ => rfl, fun r rest h => by rw [HP.out] at h; cases h⟩⟩
    · have g1 := G1.out (word_ne hw1)
      have hi1 := (List.getElem?_eq_some_iff.1 g1).1
      obtain ⟨b, off, he, c0⟩ := hv.at HB0 g1
      cases he
      have HP : Hid (pReq (l.drop i) = some (⟨t1, 4, []⟩, l.drop (i + 2))) := Lib.hid (by unfold pReq; rw [HBG.out, X1.out, X0.out, hw1, drop_tail, drop_tail]; rfl)
      have r0 : W.cell? ⟨w.heap.size, 0, none⟩ = some (sV []) := oR.cell rfl
      have f0 := oR.frozen 0
      have r1 : W.cell? ⟨w.heap.size, 1, none⟩ = some (.int .i64 0) := oR.cell rfl
      have f1 := oR.frozen 1
      have r2 : W.cell? ⟨w.heap.size, 2, none⟩ = some (.slice none 0 0) := oR.cell rfl
      have f2 := oR.frozen 2
      have r3 : W.cell? ⟨w.heap.size, 3, none⟩ = some (.int .i64 0) := oR.cell rfl
      have f3 := oR.frozen 3
      have r4 : W.cell? ⟨w.heap.size, 4, none⟩ = some (.bool false) := oR.cell rfl
      have f4 := oR.frozen 4
      have HO := Lib.hid (And.intro HB0 oR)
      clear oR HB0
      go_wp2
      clear c0
      have oS := (((((HO.out.2.set 0 (sV t1)).set 1 (.int .i64 4)).set 2 (.slice none 0 0)).set 3 (.int .i64 ((i : Int) + 2))).set 4 (.bool false))
      have hbS := (below_set (below_set (below_set (below_set (below_set HO.out.1 (Nat.le_refl w.heap.size) (i := 0) (sV t1)) (Nat.le_refl w.heap.size) (i := 1) (.int .i64 4)) (Nat.le_refl w.heap.size) (i := 2) (.slice none 0 0)) (Nat.le_refl w.heap.size) (i := 3) (.int .i64 ((i : Int) + 2))) (Nat.le_refl w.heap.size) (i := 4) (.bool false))
      clear r0 r1 r2 r3 r4 f0 f1 f2 f3 f4
      change bodyPost Tryd.prog Tryd.f46 _ _ _ (((((W.setCell ⟨w.heap.size, 0, none⟩ (sV t1)).setCell ⟨w.heap.size, 1, none⟩ (.int .i64 4)).setCell ⟨w.heap.size, 2, none⟩ (.slice none 0 0)).setCell ⟨w.heap.size, 3, none⟩ (.int .i64 ((i : Int) + 2))).setCell ⟨w.heap.size, 4, none⟩ (.bool false))
      generalize (((((W.setCell ⟨w.heap.size, 0, none⟩ (sV t1)).setCell ⟨w.heap.size, 1, none⟩ (.int .i64 4)).setCell ⟨w.heap.size, 2, none⟩ (.slice none 0 0)).setCell ⟨w.heap.size, 3, none⟩ (.int .i64 ((i : Int) + 2))).setCell ⟨w.heap.size, 4, none⟩ (.bool false)) = U at *
      have c0 : U.cell? ⟨w.heap.size, 0, none⟩ = some (sV t1) := oS.cell rfl
      have c1 : U.cell? ⟨w.heap.size, 1, none⟩ = some (.int .i64 4) := oS.cell rfl
      have c2 : U.cell? ⟨w.heap.size, 2, none⟩ = some (.slice none 0 0) := oS.cell rfl
      have c3 : U.cell? ⟨w.heap.size, 3, none⟩ = some (.int .i64 ((i : Int) + 2)) := oS.cell rfl
      have c4 : U.cell? ⟨w.heap.size, 4, none⟩ = some (.bool false) := oS.cell rfl
      exact bodyPost_ret (v := .agg #[sV t1, .int .i64 4, .slice none 0 0, .int .i64 ((i : Int) + 2), .bool false]) (by simp [results, Tryd.results46, go_sem, c0, c1, c2, c3, c4]) rfl ⟨hbS, ⟨(fun h => by rw [HP.out] at h; cases h), fun r rest h => by rw [HP.out] at h; cases h; exact ⟨_, i + 2, rfl, strs_nil _, high_nil _, rfl, by omega⟩⟩⟩
end Go.Proofs.YtfohhokdcobhjaaDoor
