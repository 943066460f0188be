/- The contract of the reader's list. -/
import Derived.Test.YtfohhokdcobhjaaDoorXc
import Derived.Test.YtfohhokdcobhjaaDoorMf
namespace Go.Proofs.YtfohhokdcobhjaaDoor
open Go.RowKit Go.Sort Go.Proofs.LawFrame

theorem Flat.kept {w w' : World} {v : Value} {n : Nat} {xs : List Value} {row : Option Nat} (h : Flat w v n xs) (hg : w.grownBy w' row) (hne : v.ownBlock = none ∨ v.ownBlock ≠ row) : Flat w' v n xs := by
  obtain ⟨ao, cap, rfl, h2, h3, h4⟩ := h.out
  refine ⟨ao, cap, rfl, h2, h3, fun hl => ?_⟩
  obtain ⟨b, off, rfl, h6, h7⟩ := h4 hl
  have hb : some b ≠ row := by
    rcases hne with h | h
    · cases h
    · exact h
  refine ⟨b, off, rfl, Nat.lt_of_lt_of_le h6 hg.size, fun j x hx => ?_⟩
  rw [World.cell?_of_block (a := ⟨b, off + j, none⟩) (hg.block b h6 hb)]
  exact h7 j x hx
/-- the slice lies in memory that begins at lo -/
def High (lo : Nat) (v : Value) : Prop := ∀ b, v.ownBlock = some b → lo ≤ b
theorem High.ne {lo : Nat} {v : Value} (h : High lo v) {rb : Nat} (hr : rb < lo) : v.ownBlock = none ∨ v.ownBlock ≠ some rb := by
  right; intro e; have := h rb e; omega
theorem own_high {w : World} {base n : Nat} {e : TypeId} {k : Nat} {v : Value} {xs : List Value} (h : w.ownsRow base e k v n xs) : High base v := own_row h

def listV (S : List Str) : List Str := ((pList S).map (·.1)).getD []
def listR (S : List Str) : List Str := ((pList S).map (·.2)).getD []

theorem pList_no {S : List Str} (h : ¬ hd S = [40]) : pList S = none := by unfold pList; rw [if_neg h]
theorem pList_open {S : List Str} (h : hd S = [40]) (h2 : ¬ hd (vloop (wRest S.tail)).2 = [41]) : pList S = none := by unfold pList; rw [if_pos h, if_neg h2]
theorem pList_yes {S : List Str} (h : hd S = [40]) (h2 : hd (vloop (wRest S.tail)).2 = [41]) : pList S = some (norm (wVal S.tail :: (vloop (wRest S.tail)).1), (vloop (wRest S.tail)).2.tail) := by
  unfold pList; rw [if_pos h, if_pos h2]
theorem tail_le (S : List Str) : S.tail.length ≤ S.length := by simp
theorem tail_lt' {S : List Str} {t : Str} (h : hd S = t) (ht : t ≠ []) : S.tail.length < S.length := by
  cases S with
  | nil => exact absurd h.symm ht
  | cons a l => simp

set_option maxRecDepth 4000 in
set_option maxHeartbeats 4000000 in
theorem list_any (S : List Str) (rb : Nat) (w : World) (hr : Rd w rb S) (hS : S.length ≤ 20000) :
    Calls Tryd.prog 75 #[.pointer (some ⟨rb, 0, none⟩)] w fun e w' => ∃ lv, e = .returned (.tuple #[lv, .bool (pList S).isSome]) ∧ Strs w' lv (listV S) ∧ High w.heap.size lv ∧ (∃ S', Rd w' rb S' ∧ ((pList S).isSome = true → S' = listR S)) ∧ w.grownBy w' (some rb) := by
  have hlt := hr.lt
  obtain ⟨i9, hi9, hzi9, hsi9, hyi9⟩ := info_parts info9
  by_cases h1 : hd S = [40]
  rotate_left
  · have HP := Lib.hid (pList_no h1)
    have CA := Lib.hid (accept_any [40] S rb w hr)
    rw [decide_eq_false h1] at CA
    clear h1
    go_enter Tryd.func75, Tryd.ntmps75
    go_wp2_with (go_at_call 63; refine CA.out.mono ?_; rintro e w1 ⟨rfl, r1, g1⟩)
    go_ret2
    exact ⟨.slice none 0 0, by rw [HP.out]; rfl, by unfold listV; rw [HP.out]; exact Flat.nil _ _ _ (Nat.zero_le _) _, (fun b h => by cases h), ⟨_, r1, by rw [HP.out]; intro h; cases h⟩, g1⟩
  have CA := Lib.hid (accept_any [40] S rb w hr)
  rw [decide_eq_true h1, show accRest S [40] = S.tail from by unfold accRest; rw [if_pos h1]] at CA
  have HY := Lib.hid (fun h2 => pList_yes h1 h2)
  have HN := Lib.hid (fun h2 => pList_open h1 h2)
  have hl1 := tail_le S
  have hl2 := wRest_len S.tail
  clear h1
  generalize S.tail = S1 at *
  go_enter Tryd.func75, Tryd.ntmps75
  go_wp2_with fail
  refine CA.out.mono ?_
  rintro e W1 ⟨rfl, r1, g1⟩
  have CW := Lib.hid (rword_any S1 rb W1 r1)
  clear CA r1
  go_wp2_with fail
  refine CW.out.mono ?_
  rintro e W2 ⟨rfl, r2, g2⟩
  have hs2 := (grown_trans g1 g2).size
  have hown : (W2.alloc (.cells #[sV (wVal S1)] 9)).ownsRow w.heap.size 9 1 (.slice (some ⟨W2.heap.size, 0, none⟩) 1 1) [wVal S1].length ([wVal S1].map sV) := own_mk (Own.new W2 [sV (wVal S1)] 9) hs2 (Nat.le_refl _) (by unfold maxLen; decide) rfl rfl
  have hr2 := r2.below (below_alloc W2 (.cells #[sV (wVal S1)] 9))
  have hg2 : w.grownBy (W2.alloc (.cells #[sV (wVal S1)] 9)) (some rb) := grown_trans (grown_trans g1 g2) (World.grownBy_alloc _ _ _)
  generalize hv0 : wVal S1 = v0 at *
  generalize wRest S1 = S2 at *
  go_wp2
  generalize W2.alloc (.cells #[sV v0] 9) = W3 at *
  generalize Value.slice (some ⟨W2.heap.size, 0, none⟩) 1 1 = pv at *
  clear g1 g2 r2 CW
  go_loopg [4] S2.length (fun g p wr => ∃ (T acc : List Str), g = T.length ∧ T.length ≤ S2.length ∧ acc.length + T.length ≤ 1 + S2.length ∧ 0 < acc.length ∧ Hid (acc ++ (vloop T).1 = v0 :: (vloop S2).1 ∧ (vloop T).2 = (vloop S2).2) ∧ Rd wr rb T ∧ w.grownBy wr (some rb) ∧ wr.ownsRow w.heap.size 9 1 p acc.length (acc.map sV))
  case atStart => exact ⟨S2, [v0], rfl, Nat.le_refl _, by simp, by simp, Lib.hid ⟨rfl, rfl⟩, hr2, hg2, hown⟩
  case round =>
    clear hr2 hg2 hown
    obtain ⟨T, acc, hg, hT, hacc, hpos, HV, hrd, hgr, hown⟩ := hrel
    have HG := Lib.hid hg
    clear hg
    have hsz := hgr.size
    have CA := Lib.hid (accept_any [44] T rb wr hrd)
    have hhi := own_high hown
    by_cases h44 : hd T = [44]
    · rw [decide_eq_true h44, show accRest T [44] = T.tail from by unfold accRest; rw [if_pos h44]] at CA
      have hlt2 := tail_lt' h44 (by simp)
      have hwr := wRest_len T.tail
      have HV2 : Hid ((acc ++ [wVal T.tail]) ++ (vloop (wRest T.tail)).1 = v0 :: (vloop S2).1 ∧ (vloop (wRest T.tail)).2 = (vloop S2).2) := Lib.hid (by
        have := HV.out
        rw [vloop_yes h44] at this
        simpa using this)
      clear h44
      generalize T.tail = T1 at *
      go_wp2_with fail
      refine CA.out.mono ?_
      rintro e W4 ⟨rfl, r4, g4⟩
      have ho4 := hown.kept g4 (hhi.ne hlt)
      have CW := Lib.hid (rword_any T1 rb W4 r4)
      go_wp2_with fail
      refine CW.out.mono ?_
      rintro e W5 ⟨rfl, r5, g5⟩
      have ho5 := ho4.kept g5 (hhi.ne hlt)
      have hs5 := (grown_trans g4 g5).size
      generalize wVal T1 = v1 at *
      generalize wRest T1 = T2 at *
      go_wp2_with (at_builtin; refine wpList_append_own _ rfl (.tmp 13) (.tmp 16) 41 rfl w.heap.size 9 i9 (.string ⟨#[]⟩) 1 16 Tryd.underlying41 hi9 hzi9 hsi9 hyi9 rfl (by decide) _ _ _ rfl (ho5.alloc _) ⟨W5.heap.size, 0, none⟩ 1 1 [sV v1] rfl rfl (cell_one_new _ _ _) (fun u hu => by simp at hu; subst hu; rfl) (by unfold maxLen; omega) (by omega) (by simp; omega) ?_; intro v' W6 hown6 hgrow6 hnil6)
      go_roundg T2.length
      case measure => have := HG.out; omega
      case rel =>
        refine ⟨T2, acc ++ [v1], rfl, by omega, by simp; omega, by simp, HV2, ?_, ?_, by rw [List.map_append, List.length_append]; exact hown6⟩
        · exact (r5.below (below_alloc _ _)).kept hgrow6 (fun e => by have := hhi rb e.symm; omega)
        · exact ((hgr.trans (g4.trans g5)).trans (World.grownBy_alloc _ _ _)).andThen hgrow6 (fun j hj => Or.inl (hhi j hj))
    · rw [decide_eq_false h44, show accRest T [44] = T from by unfold accRest; rw [if_neg h44]] at CA
      have HV2 : Hid (acc = v0 :: (vloop S2).1 ∧ T = (vloop S2).2) := Lib.hid (by
        have := HV.out
        rw [vloop_no h44] at this
        simpa using this)
      clear h44 HV
      go_wp2_with fail
      refine CA.out.mono ?_
      rintro e W4 ⟨rfl, r4, g4⟩
      have ho4 := hown.kept g4 (hhi.ne hlt)
      have CB := Lib.hid (accept_any [41] T rb W4 r4)
      by_cases h41 : hd T = [41]
      · rw [decide_eq_true h41, show accRest T [41] = T.tail from by unfold accRest; rw [if_pos h41]] at CB
        have HP := Lib.hid (HY.out (by rw [← HV2.out.2]; exact h41))
        rw [← HV2.out.1, ← HV2.out.2] at HP
        clear h41 CA
        go_wp2_with fail
        refine CB.out.mono ?_
        rintro e W5 ⟨rfl, r5, g5⟩
        have ho5 := ho4.kept g5 (hhi.ne hlt)
        have CS := Lib.hid (sort_own u4 acc w.heap.size W5 ho5 hpos (by omega))
        go_wp2_with fail
        refine CS.out.mono ?_
        rintro e W6 ⟨rfl, ho6, g6⟩
        have hls : (sortS acc).length = acc.length := by simp [sortS]
        have hcs : Lib.compact (sortS acc) = norm acc := compact_sort acc
        have hnl := norm_len acc
        rw [← hls] at ho6
        have CC := Lib.hid (compact_own u4 (sortS acc) w.heap.size W6 ho6 (by omega) (by omega) (by rw [hcs]; omega))
        rw [hcs] at CC
        clear hcs
        go_wp2_with fail
        refine CC.out.mono ?_
        rintro e W7 ⟨v', rfl, ho7, g7, hbl⟩
        have hgA : w.grownBy W7 (some rb) := (((hgr.trans (g4.trans g5))).andThen g6 (fun j hj => Or.inl (hhi j hj))).andThen g7 (fun j hj => Or.inl (hhi j hj))
        have hrA : Rd W7 rb T.tail := (r5.kept g6 (fun e => by have := hhi rb e.symm; omega)).kept g7 (fun e => by have := hhi rb e.symm; omega)
        have hfl := Flat.of_own ho7
        clear ho7 ho6 ho5 ho4 g4 g5 g6 g7 r4 r5 hgr hrd CB CS CC hown
        go_wp2
        go_ret2
        refine ⟨v', by rw [HP.out]; rfl, ?_, fun b hb => hhi b (by rw [← hbl]; exact hb), ⟨T.tail, hrA, fun _ => by unfold listR; rw [HP.out]; rfl⟩, hgA⟩
        unfold listV; rw [HP.out]
        exact hfl
      · rw [decide_eq_false h41] at CB
        have HP := Lib.hid (HN.out (by rw [← HV2.out.2]; exact h41))
        clear h41 CA
        go_wp2_with fail
        refine CB.out.mono ?_
        rintro e W5 ⟨rfl, r5, g5⟩
        have hgA := hgr.trans (g4.trans g5)
        go_wp2
        go_ret2
        exact ⟨.slice none 0 0, by rw [HP.out]; rfl, by unfold listV; rw [HP.out]; exact Flat.nil _ _ _ (Nat.zero_le _) _, (fun b h => by cases h), ⟨_, r5, by rw [HP.out]; intro h; cases h⟩, hgA⟩
end Go.Proofs.YtfohhokdcobhjaaDoor
