/- The contract of the reader's requirement. -/
import Derived.Test.YtfohhokdcobhjaaDoorXd
namespace Go.Proofs.YtfohhokdcobhjaaDoor
open Go.RowKit Go.Sort Go.Proofs.LawFrame

theorem own_kept {w w' : World} {b rb : Nat} {cs : List Value} {t : TypeId} (h : Own w b cs t) (hg : w.grownBy w' (some rb)) (hne : b ≠ rb) : Own w' b cs t := by
  unfold Own; rw [hg.block b h.lt (fun e => hne (by cases e; rfl))]; exact h
theorem pReq_w {S : List Str} (h : isWord (hd (bang S)) = false) : pReq S = none := by unfold pReq; rw [if_pos h]
theorem pReq_a {S : List Str} (h : isWord (hd (bang S)) = true) (h2 : hd S = [33]) : pReq S = some (⟨hd (bang S), 4, []⟩, (bang S).tail) := by
  unfold pReq; rw [if_neg (by simp [h]), if_pos h2]
theorem pReq_b {S : List Str} (h : isWord (hd (bang S)) = true) (h2 : ¬ hd S = [33]) : pReq S =
  if hd (bang S).tail = [61] then some (⟨hd (bang S), 1, [wVal (bang S).tail.tail]⟩, wRest (bang S).tail.tail)
  else if hd (bang S).tail = [33, 61] then some (⟨hd (bang S), 2, [wVal (bang S).tail.tail]⟩, wRest (bang S).tail.tail)
  else if hd (bang S).tail = [105, 110] then (pList (bang S).tail.tail).map fun p => (⟨hd (bang S), 1, p.1⟩, p.2)
  else if hd (bang S).tail = [110, 111, 116, 105, 110] then (pList (bang S).tail.tail).map fun p => (⟨hd (bang S), 2, p.1⟩, p.2)
  else some (⟨hd (bang S), 3, []⟩, (bang S).tail) := by
  unfold pReq; rw [if_neg (by simp [h]), if_neg h2]
theorem isWord_ne {t : Str} (h : isWord t = true) : (t == []) = false := by
  cases t with
  | nil => cases h
  | cons a t => rfl
theorem pList_parts {S : List Str} {p : List Str × List Str} (h : pList S = some p) : p.1 = listV S ∧ p.2 = listR S := by unfold listV listR; rw [h]; exact ⟨rfl, rfl⟩

/-- what requirement returns -/
def ReqPost (S : List Str) (rb : Nat) (w : World) (e : Ending) (w' : World) : Prop :=
  ∃ c : RC, e = .returned (.tuple #[.agg #[sV c.key, .int .i64 c.op, .slice c.ao c.n c.cap], .bool (pReq S).isSome]) ∧ (∀ p, pReq S = some p → RIs w' c p.1 ∧ High w.heap.size (.slice c.ao c.n c.cap) ∧ Rd w' rb p.2) ∧ w.grownBy w' (some rb)


set_option maxRecDepth 4000 in
set_option maxHeartbeats 8000000 in
theorem requirement_any (S : List Str) (rb : Nat) (w : World) (hr : Rd w rb S) (hS : S.length ≤ 20000) :
    Calls Tryd.prog 62 #[.pointer (some ⟨rb, 0, none⟩)] w (ReqPost S rb w) := by
  have hlt := hr.lt
  have hne : w.heap.size ≠ rb := by omega
  have hb0 := below_alloc w (.cells #[sV [], .int .i64 0, .slice none 0 0] 43)
  have oR := Own.new w [sV [], .int .i64 0, .slice none 0 0] 43
  have r0 := hr.below hb0
  have g0 : w.grownBy (w.alloc (.cells #[sV [], .int .i64 0, .slice none 0 0] 43)) (some rb) := World.grownBy_alloc _ _ _
  have CA := Lib.hid (accept_any [33] S rb _ r0)
  rw [show accRest S [33] = bang S from rfl] at CA
  have hbl := bang_len S
  go_enter Tryd.func62, Tryd.ntmps62
  go_wp2_with fail
  refine CA.out.mono ?_
  rintro e W1 ⟨rfl, r1, g1⟩
  replace oR := own_kept oR g1 hne
  replace g0 := g0.trans g1
  have CW := Lib.hid (rword_any (bang S) rb W1 r1)
  clear CA g1 r1 r0 hb0
  cases hw : isWord (hd (bang S))
  · have HP := Lib.hid (pReq_w hw)
    rw [show wVal (bang S) = [] from by unfold wVal; rw [hw]; rfl] at CW
    clear hw
    go_wp2_with fail
    refine CW.out.mono ?_
    rintro e W2 ⟨rfl, r2, g2⟩
    replace oR := own_kept oR g2 hne
    replace g0 := g0.trans g2
    obtain ⟨c0, c1, c2⟩ := Own.three oR
    have f0 := oR.frozen 0
    have f1 := oR.frozen 1
    have f2 := oR.frozen 2
    go_wp2
    have oF := ((oR.set 0 (sV [])).set 1 (.int .i64 0)).set 2 (.slice none 0 0)
    have hgU : W2.grownBy (((W2.setCell ⟨w.heap.size, 0, none⟩ (sV [])).setCell ⟨w.heap.size, 1, none⟩ (.int .i64 0)).setCell ⟨w.heap.size, 2, none⟩ (.slice none 0 0)) (some w.heap.size) := ((grown_set _).trans (grown_set _)).trans (grown_set _)
    clear c0 c1 c2 f0 f1 f2 oR
    generalize ((W2.setCell ⟨w.heap.size, 0, none⟩ (sV [])).setCell ⟨w.heap.size, 1, none⟩ (.int .i64 0)).setCell ⟨w.heap.size, 2, none⟩ (.slice none 0 0) = U at *
    have gF : w.grownBy U (some rb) := g0.andThen hgU (fun j h => Or.inl (by cases h; exact Nat.le_refl _))
    obtain ⟨d0, d1, d2⟩ := Own.three oF
    exact bodyPost_ret (v := .tuple #[.agg #[sV [], .int .i64 0, .slice none 0 0], .bool false]) (by simp [results, Tryd.results62, go_sem, d0, d1, d2]) rfl ⟨⟨[], 0, none, 0, 0⟩, by rw [HP.out]; rfl, (fun p hp => by rw [HP.out] at hp; cases hp), gF⟩
  · have HA := Lib.hid (fun h => pReq_a hw h)
    have HB := Lib.hid (fun h => pReq_b hw h)
    rw [show wVal (bang S) = hd (bang S) from by unfold wVal; rw [hw]; rfl, show wRest (bang S) = (bang S).tail from by unfold wRest; rw [hw]; rfl] at CW
    have hke := isWord_ne hw
    have htl := tail_lt hw
    clear hw
    generalize hd (bang S) = K at *
    generalize (bang S).tail = S2 at *
    have htl2 := tail_le S2
    go_wp2_with fail
    refine CW.out.mono ?_
    rintro e W2 ⟨rfl, r2, g2⟩
    replace oR := own_kept oR g2 hne
    replace g0 := g0.trans g2
    clear CW g2
    by_cases h33 : hd S = [33]
    · have HP := Lib.hid (HA.out h33)
      have hq : decide (hd S = [33]) = true := decide_eq_true h33
      clear h33 HA HB
      obtain ⟨c0, c1, c2⟩ := Own.three oR
      have f0 := oR.frozen 0
      have f1 := oR.frozen 1
      have f2 := oR.frozen 2
      go_wp2
      have oF := ((oR.set 0 (sV K)).set 1 (.int .i64 4)).set 2 (.slice none 0 0)
      have hgU : W2.grownBy (((W2.setCell ⟨w.heap.size, 0, none⟩ (sV K)).setCell ⟨w.heap.size, 1, none⟩ (.int .i64 4)).setCell ⟨w.heap.size, 2, none⟩ (.slice none 0 0)) (some w.heap.size) := ((grown_set _).trans (grown_set _)).trans (grown_set _)
      clear c0 c1 c2 f0 f1 f2 oR
      generalize ((W2.setCell ⟨w.heap.size, 0, none⟩ (sV K)).setCell ⟨w.heap.size, 1, none⟩ (.int .i64 4)).setCell ⟨w.heap.size, 2, none⟩ (.slice none 0 0) = U at *
      have gF : w.grownBy U (some rb) := g0.andThen hgU (fun j h => Or.inl (by cases h; exact Nat.le_refl _))
      obtain ⟨d0, d1, d2⟩ := Own.three oF
      have rU := r2.kept hgU (fun h => by cases h; exact hne rfl)
      exact bodyPost_ret (v := .tuple #[.agg #[sV K, .int .i64 4, .slice none 0 0], .bool true]) (by simp [results, Tryd.results62, go_sem, d0, d1, d2]) rfl ⟨⟨K, 4, none, 0, 0⟩, by rw [HP.out]; rfl, (fun p hp => by rw [HP.out] at hp; cases hp; exact ⟨⟨rfl, rfl, Flat.nil _ _ _ (Nat.zero_le _) _⟩, (fun b h => by cases h), rU⟩), gF⟩
    · have HP := Lib.hid (HB.out h33)
      have hq : decide (hd S = [33]) = false := decide_eq_false h33
      clear h33 HA HB
      by_cases h1 : hd S2 = [61]
      · rw [if_pos h1] at HP
        have CA := Lib.hid (accept_any [61] S2 rb W2 r2)
        rw [decide_eq_true h1, show accRest S2 [61] = S2.tail from by unfold accRest; rw [if_pos h1]] at CA
        clear h1
        go_wp2_with fail
        refine CA.out.mono ?_
        rintro e W3 ⟨rfl, r3, g3⟩
        replace oR := own_kept oR g3 hne
        replace g0 := g0.trans g3
        clear CA g3 r2
        generalize S2.tail = S3 at *
        have CW := Lib.hid (rword_any S3 rb W3 r3)
        generalize wVal S3 = v1 at *
        generalize wRest S3 = S4 at *
        go_wp2_with fail
        refine CW.out.mono ?_
        rintro e W4 ⟨rfl, r4, g4⟩
        have hsn0 := (g0.trans g4).size
        replace oR := own_kept oR g4 hne
        have hblk := oR.lt
        replace g0 := g0.trans g4
        clear CW g4 r3
        obtain ⟨c0, c1, c2⟩ := Own.three oR
        have f0 := oR.frozen 0
        have f1 := oR.frozen 1
        have f2 := oR.frozen 2
        go_wp2
        have oF := (((oR.set 0 (sV K)).set 1 (.int .i64 1)).set 2 (.slice (some ⟨W4.heap.size, 0, none⟩) 1 1)).alloc (.cells #[sV v1] 9)
        have hgU : W4.grownBy (((W4.setCell ⟨w.heap.size, 0, none⟩ (sV K)).setCell ⟨w.heap.size, 1, none⟩ (.int .i64 1)).setCell ⟨w.heap.size, 2, none⟩ (.slice (some ⟨W4.heap.size, 0, none⟩) 1 1)) (some w.heap.size) := ((grown_set _).trans (grown_set _)).trans (grown_set _)
        have hzU : (((W4.setCell ⟨w.heap.size, 0, none⟩ (sV K)).setCell ⟨w.heap.size, 1, none⟩ (.int .i64 1)).setCell ⟨w.heap.size, 2, none⟩ (.slice (some ⟨W4.heap.size, 0, none⟩) 1 1)).heap.size = W4.heap.size := by simp
        clear c0 c1 c2 f0 f1 f2 oR
        generalize ((W4.setCell ⟨w.heap.size, 0, none⟩ (sV K)).setCell ⟨w.heap.size, 1, none⟩ (.int .i64 1)).setCell ⟨w.heap.size, 2, none⟩ (.slice (some ⟨W4.heap.size, 0, none⟩) 1 1) = U0 at *
        have hstU : Strs (U0.alloc (.cells #[sV v1] 9)) (.slice (some ⟨W4.heap.size, 0, none⟩) 1 1) [v1] := Flat.of_own (base := 0) (e := 9) (size := 1) (own_mk (Own.new_at hzU.symm [sV v1] 9) (Nat.zero_le _) (Nat.le_refl _) (by unfold maxLen; decide) rfl rfl)
        have rU := (r4.kept hgU (fun h => by cases h; exact hne rfl)).below (below_alloc _ (.cells #[sV v1] 9))
        have gF : w.grownBy (U0.alloc (.cells #[sV v1] 9)) (some rb) := (g0.andThen hgU (fun j h => Or.inl (by cases h; exact Nat.le_refl _))).trans (World.grownBy_alloc _ _ _)
        generalize U0.alloc (.cells #[sV v1] 9) = U at *
        obtain ⟨d0, d1, d2⟩ := Own.three oF
        exact bodyPost_ret (v := .tuple #[.agg #[sV K, .int .i64 1, .slice (some ⟨W4.heap.size, 0, none⟩) 1 1], .bool true]) (by simp [results, Tryd.results62, go_sem, d0, d1, d2]) rfl ⟨⟨K, 1, (some ⟨W4.heap.size, 0, none⟩), 1, 1⟩, by rw [HP.out]; rfl, (fun p hp => by rw [HP.out] at hp; cases hp; exact ⟨⟨rfl, rfl, hstU⟩, (fun b h => by cases h; exact hsn0), rU⟩), gF⟩
      · rw [if_neg h1] at HP
        have CA := Lib.hid (accept_any [61] S2 rb W2 r2)
        rw [decide_eq_false h1, show accRest S2 [61] = S2 from by unfold accRest; rw [if_neg h1]] at CA
        clear h1
        go_wp2_with fail
        refine CA.out.mono ?_
        rintro e W3 ⟨rfl, r3, g3⟩
        replace oR := own_kept oR g3 hne
        replace g0 := g0.trans g3
        clear CA g3 r2
        by_cases h2 : hd S2 = [33, 61]
        · rw [if_pos h2] at HP
          have CA := Lib.hid (accept_any [33, 61] S2 rb W3 r3)
          rw [decide_eq_true h2, show accRest S2 [33, 61] = S2.tail from by unfold accRest; rw [if_pos h2]] at CA
          clear h2
          go_wp2_with fail
          refine CA.out.mono ?_
          rintro e W4 ⟨rfl, r4, g4⟩
          replace oR := own_kept oR g4 hne
          replace g0 := g0.trans g4
          clear CA g4 r3
          generalize S2.tail = S3 at *
          have CW := Lib.hid (rword_any S3 rb W4 r4)
          generalize wVal S3 = v1 at *
          generalize wRest S3 = S4 at *
          go_wp2_with fail
          refine CW.out.mono ?_
          rintro e W5 ⟨rfl, r5, g5⟩
          have hsn0 := (g0.trans g5).size
          replace oR := own_kept oR g5 hne
          have hblk := oR.lt
          replace g0 := g0.trans g5
          clear CW g5 r4
          obtain ⟨c0, c1, c2⟩ := Own.three oR
          have f0 := oR.frozen 0
          have f1 := oR.frozen 1
          have f2 := oR.frozen 2
          go_wp2
          have oF := (((oR.set 0 (sV K)).set 1 (.int .i64 2)).set 2 (.slice (some ⟨W5.heap.size, 0, none⟩) 1 1)).alloc (.cells #[sV v1] 9)
          have hgU : W5.grownBy (((W5.setCell ⟨w.heap.size, 0, none⟩ (sV K)).setCell ⟨w.heap.size, 1, none⟩ (.int .i64 2)).setCell ⟨w.heap.size, 2, none⟩ (.slice (some ⟨W5.heap.size, 0, none⟩) 1 1)) (some w.heap.size) := ((grown_set _).trans (grown_set _)).trans (grown_set _)
          have hzU : (((W5.setCell ⟨w.heap.size, 0, none⟩ (sV K)).setCell ⟨w.heap.size, 1, none⟩ (.int .i64 2)).setCell ⟨w.heap.size, 2, none⟩ (.slice (some ⟨W5.heap.size, 0, none⟩) 1 1)).heap.size = W5.heap.size := by simp
          clear c0 c1 c2 f0 f1 f2 oR
          generalize ((W5.setCell ⟨w.heap.size, 0, none⟩ (sV K)).setCell ⟨w.heap.size, 1, none⟩ (.int .i64 2)).setCell ⟨w.heap.size, 2, none⟩ (.slice (some ⟨W5.heap.size, 0, none⟩) 1 1) = U0 at *
          have hstU : Strs (U0.alloc (.cells #[sV v1] 9)) (.slice (some ⟨W5.heap.size, 0, none⟩) 1 1) [v1] := Flat.of_own (base := 0) (e := 9) (size := 1) (own_mk (Own.new_at hzU.symm [sV v1] 9) (Nat.zero_le _) (Nat.le_refl _) (by unfold maxLen; decide) rfl rfl)
          have rU := (r5.kept hgU (fun h => by cases h; exact hne rfl)).below (below_alloc _ (.cells #[sV v1] 9))
          have gF : w.grownBy (U0.alloc (.cells #[sV v1] 9)) (some rb) := (g0.andThen hgU (fun j h => Or.inl (by cases h; exact Nat.le_refl _))).trans (World.grownBy_alloc _ _ _)
          generalize U0.alloc (.cells #[sV v1] 9) = U at *
          obtain ⟨d0, d1, d2⟩ := Own.three oF
          exact bodyPost_ret (v := .tuple #[.agg #[sV K, .int .i64 2, .slice (some ⟨W5.heap.size, 0, none⟩) 1 1], .bool true]) (by simp [results, Tryd.results62, go_sem, d0, d1, d2]) rfl ⟨⟨K, 2, (some ⟨W5.heap.size, 0, none⟩), 1, 1⟩, by rw [HP.out]; rfl, (fun p hp => by rw [HP.out] at hp; cases hp; exact ⟨⟨rfl, rfl, hstU⟩, (fun b h => by cases h; exact hsn0), rU⟩), gF⟩
        · rw [if_neg h2] at HP
          have CA := Lib.hid (accept_any [33, 61] S2 rb W3 r3)
          rw [decide_eq_false h2, show accRest S2 [33, 61] = S2 from by unfold accRest; rw [if_neg h2]] at CA
          clear h2
          go_wp2_with fail
          refine CA.out.mono ?_
          rintro e W4 ⟨rfl, r4, g4⟩
          replace oR := own_kept oR g4 hne
          replace g0 := g0.trans g4
          clear CA g4 r3
          by_cases h3 : hd S2 = [105, 110]
          · rw [if_pos h3] at HP
            have CA := Lib.hid (accept_any [105, 110] S2 rb W4 r4)
            rw [decide_eq_true h3, show accRest S2 [105, 110] = S2.tail from by unfold accRest; rw [if_pos h3]] at CA
            clear h3
            go_wp2_with fail
            refine CA.out.mono ?_
            rintro e W5 ⟨rfl, r5, g5⟩
            replace oR := own_kept oR g5 hne
            replace g0 := g0.trans g5
            clear CA g5 r4
            generalize S2.tail = S3 at *
            have CL := Lib.hid (list_any S3 rb W5 r5 (by omega))
            have hPL := Lib.hid (fun p (h : pList S3 = some p) => pList_parts h)
            generalize listV S3 = LV at *
            generalize listR S3 = LR at *
            go_wp2_with fail
            refine CL.out.mono ?_
            rintro e W6 ⟨lv, rfl, hst, hhi, ⟨S4, r6, hS4⟩, g6⟩
            have hsn := g0.size
            have hblk := oR.lt
            replace oR := own_kept oR g6 hne
            replace g0 := g0.trans g6
            obtain ⟨la, lc, rfl, -, -, -⟩ := hst.out
            clear CL g6 r5
            obtain ⟨c0, c1, c2⟩ := Own.three oR
            have f0 := oR.frozen 0
            have f1 := oR.frozen 1
            have f2 := oR.frozen 2
            go_wp2
            have oF := ((oR.set 0 (sV K)).set 1 (.int .i64 1)).set 2 (.slice la LV.length lc)
            have hgU : W6.grownBy (((W6.setCell ⟨w.heap.size, 0, none⟩ (sV K)).setCell ⟨w.heap.size, 1, none⟩ (.int .i64 1)).setCell ⟨w.heap.size, 2, none⟩ (.slice la LV.length lc)) (some w.heap.size) := ((grown_set _).trans (grown_set _)).trans (grown_set _)
            clear c0 c1 c2 f0 f1 f2 oR
            generalize ((W6.setCell ⟨w.heap.size, 0, none⟩ (sV K)).setCell ⟨w.heap.size, 1, none⟩ (.int .i64 1)).setCell ⟨w.heap.size, 2, none⟩ (.slice la LV.length lc) = U at *
            have gF : w.grownBy U (some rb) := g0.andThen hgU (fun j h => Or.inl (by cases h; exact Nat.le_refl _))
            obtain ⟨d0, d1, d2⟩ := Own.three oF
            have hstU := hst.kept hgU (hhi.ne (by omega))
            have rU := r6.kept hgU (fun h => by cases h; exact hne rfl)
            refine bodyPost_ret (v := .tuple #[.agg #[sV K, .int .i64 1, .slice la LV.length lc], .bool (pList S3).isSome]) (by simp [results, Tryd.results62, go_sem, d0, d1, d2]) rfl ⟨⟨K, 1, la, LV.length, lc⟩, by rw [HP.out, Option.isSome_map], fun p hp => ?_, gF⟩
            rw [HP.out] at hp
            obtain ⟨q, hq, rfl⟩ := Option.map_eq_some_iff.1 hp
            obtain ⟨h1, h2⟩ := hPL.out q hq
            exact ⟨⟨rfl, rfl, by rw [h1]; exact hstU⟩, (fun b h => Nat.le_trans hsn (hhi b h)), by rw [h2, ← hS4 (by rw [hq]; rfl)]; exact rU⟩
          · rw [if_neg h3] at HP
            have CA := Lib.hid (accept_any [105, 110] S2 rb W4 r4)
            rw [decide_eq_false h3, show accRest S2 [105, 110] = S2 from by unfold accRest; rw [if_neg h3]] at CA
            clear h3
            go_wp2_with fail
            refine CA.out.mono ?_
            rintro e W5 ⟨rfl, r5, g5⟩
            replace oR := own_kept oR g5 hne
            replace g0 := g0.trans g5
            clear CA g5 r4
            by_cases h4 : hd S2 = [110, 111, 116, 105, 110]
            · rw [if_pos h4] at HP
              have CA := Lib.hid (accept_any [110, 111, 116, 105, 110] S2 rb W5 r5)
              rw [decide_eq_true h4, show accRest S2 [110, 111, 116, 105, 110] = S2.tail from by unfold accRest; rw [if_pos h4]] at CA
              clear h4
              go_wp2_with fail
              refine CA.out.mono ?_
              rintro e W6 ⟨rfl, r6, g6⟩
              replace oR := own_kept oR g6 hne
              replace g0 := g0.trans g6
              clear CA g6 r5
              generalize S2.tail = S3 at *
              have CL := Lib.hid (list_any S3 rb W6 r6 (by omega))
              have hPL := Lib.hid (fun p (h : pList S3 = some p) => pList_parts h)
              generalize listV S3 = LV at *
              generalize listR S3 = LR at *
              go_wp2_with fail
              refine CL.out.mono ?_
              rintro e W7 ⟨lv, rfl, hst, hhi, ⟨S4, r7, hS4⟩, g7⟩
              have hsn := g0.size
              have hblk := oR.lt
              replace oR := own_kept oR g7 hne
              replace g0 := g0.trans g7
              obtain ⟨la, lc, rfl, -, -, -⟩ := hst.out
              clear CL g7 r6
              obtain ⟨c0, c1, c2⟩ := Own.three oR
              have f0 := oR.frozen 0
              have f1 := oR.frozen 1
              have f2 := oR.frozen 2
              go_wp2
              have oF := ((oR.set 0 (sV K)).set 1 (.int .i64 2)).set 2 (.slice la LV.length lc)
              have hgU : W7.grownBy (((W7.setCell ⟨w.heap.size, 0, none⟩ (sV K)).setCell ⟨w.heap.size, 1, none⟩ (.int .i64 2)).setCell ⟨w.heap.size, 2, none⟩ (.slice la LV.length lc)) (some w.heap.size) := ((grown_set _).trans (grown_set _)).trans (grown_set _)
              clear c0 c1 c2 f0 f1 f2 oR
              generalize ((W7.setCell ⟨w.heap.size, 0, none⟩ (sV K)).setCell ⟨w.heap.size, 1, none⟩ (.int .i64 2)).setCell ⟨w.heap.size, 2, none⟩ (.slice la LV.length lc) = U at *
              have gF : w.grownBy U (some rb) := g0.andThen hgU (fun j h => Or.inl (by cases h; exact Nat.le_refl _))
              obtain ⟨d0, d1, d2⟩ := Own.three oF
              have hstU := hst.kept hgU (hhi.ne (by omega))
              have rU := r7.kept hgU (fun h => by cases h; exact hne rfl)
              refine bodyPost_ret (v := .tuple #[.agg #[sV K, .int .i64 2, .slice la LV.length lc], .bool (pList S3).isSome]) (by simp [results, Tryd.results62, go_sem, d0, d1, d2]) rfl ⟨⟨K, 2, la, LV.length, lc⟩, by rw [HP.out, Option.isSome_map], fun p hp => ?_, gF⟩
              rw [HP.out] at hp
              obtain ⟨q, hq, rfl⟩ := Option.map_eq_some_iff.1 hp
              obtain ⟨h1, h2⟩ := hPL.out q hq
              exact ⟨⟨rfl, rfl, by rw [h1]; exact hstU⟩, (fun b h => Nat.le_trans hsn (hhi b h)), by rw [h2, ← hS4 (by rw [hq]; rfl)]; exact rU⟩
            · rw [if_neg h4] at HP
              have CA := Lib.hid (accept_any [110, 111, 116, 105, 110] S2 rb W5 r5)
              rw [decide_eq_false h4, show accRest S2 [110, 111, 116, 105, 110] = S2 from by unfold accRest; rw [if_neg h4]] at CA
              clear h4
              go_wp2_with fail
              refine CA.out.mono ?_
              rintro e W6 ⟨rfl, r6, g6⟩
              replace oR := own_kept oR g6 hne
              replace g0 := g0.trans g6
              clear CA g6 r5
              obtain ⟨c0, c1, c2⟩ := Own.three oR
              have f0 := oR.frozen 0
              have f1 := oR.frozen 1
              have f2 := oR.frozen 2
              go_wp2
              have oF := ((oR.set 0 (sV K)).set 1 (.int .i64 3)).set 2 (.slice none 0 0)
              have hgU : W6.grownBy (((W6.setCell ⟨w.heap.size, 0, none⟩ (sV K)).setCell ⟨w.heap.size, 1, none⟩ (.int .i64 3)).setCell ⟨w.heap.size, 2, none⟩ (.slice none 0 0)) (some w.heap.size) := ((grown_set _).trans (grown_set _)).trans (grown_set _)
              clear c0 c1 c2 f0 f1 f2 oR
              generalize ((W6.setCell ⟨w.heap.size, 0, none⟩ (sV K)).setCell ⟨w.heap.size, 1, none⟩ (.int .i64 3)).setCell ⟨w.heap.size, 2, none⟩ (.slice none 0 0) = U at *
              have gF : w.grownBy U (some rb) := g0.andThen hgU (fun j h => Or.inl (by cases h; exact Nat.le_refl _))
              obtain ⟨d0, d1, d2⟩ := Own.three oF
              have rU := r6.kept hgU (fun h => by cases h; exact hne rfl)
              exact bodyPost_ret (v := .tuple #[.agg #[sV K, .int .i64 3, .slice none 0 0], .bool true]) (by simp [results, Tryd.results62, go_sem, d0, d1, d2]) rfl ⟨⟨K, 3, none, 0, 0⟩, by rw [HP.out]; rfl, (fun p hp => by rw [HP.out] at hp; cases hp; exact ⟨⟨rfl, rfl, Flat.nil _ _ _ (Nat.zero_le _) _⟩, (fun b h => by cases h), rU⟩), gF⟩
end Go.Proofs.YtfohhokdcobhjaaDoor
