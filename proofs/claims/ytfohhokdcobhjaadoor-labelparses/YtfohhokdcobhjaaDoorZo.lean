/- The contract of the reference's put. The contract of the reference's list. -/
import Derived.Test.YtfohhokdcobhjaaDoorXh
namespace Go.Proofs.YtfohhokdcobhjaaDoor
open Go.RowKit Go.Sort Go.Proofs.LawFrame

/-- sorted, without the word, the word itself put in -/
def putR (l : List Str) (s : Str) : List Str := l.takeWhile (fun x => sLt x s) ++ [s] ++ (l.dropWhile (fun x => sLt x s)).filter (fun x => !(x == s))
theorem tw_of {α : Type} {p : α → Bool} : ∀ {l : List α} {k : Nat}, (∀ c ∈ l.take k, p c = true) → (∀ c, l[k]? = some c → p c = false) → k ≤ l.length → l.takeWhile p = l.take k ∧ l.dropWhile p = l.drop k := by
  intro l
  induction l with
  | nil => intro k _ _ hk; simp
  | cons a l ih =>
    intro k h hd hk
    cases k with
    | zero => have := hd a rfl; simp [this]
    | succ k =>
      have ha : p a = true := h a (by simp)
      have := ih (k := k) (fun c hc => h c (by simp [hc])) (fun c hc => hd c (by simpa using hc)) (by simpa using hk)
      simp [ha, this.1, this.2]

set_option maxHeartbeats 4000000 in
theorem put_any (v : Value) (l : List Str) (s : Str) (w : World) (hv : Strs w v l) (hl : l.length ≤ 100000) :
    Calls Tryd.prog 76 #[v, sV s] w fun e w' => ∃ v', e = .returned v' ∧ w'.ownsRow w.heap.size 9 1 v' (putR l s).length ((putR l s).map sV) ∧ Below w.heap.size w w' := by
  obtain ⟨ao, cap, rfl, hlc, hcap, -⟩ := hv.out
  unfold maxLen at hcap
  obtain ⟨i9, hi9, hz9, hs9, hy9⟩ := info_parts info9
  go_enter Tryd.func76, Tryd.ntmps76
  go_wp2
  go_loopg [5, 6] l.length (fun g p i wr => ∃ k : Nat, k ≤ l.length ∧ g = l.length - k ∧ i = .int .i64 k ∧ Below w.heap.size w wr ∧ wr.ownsRow w.heap.size 9 1 p (l.take k).length ((l.take k).map sV) ∧ Hid (∀ c ∈ l.take k, sLt c s = true))
  case atStart => exact ⟨0, Nat.zero_le _, rfl, rfl, Below.refl _ _, by simpa using own_nil _ _ _ _, Lib.hid (by simp)⟩
  case round =>
    obtain ⟨k, hk, hg, rfl, hb, hown, HA⟩ := hrel
    have HG := Lib.hid hg
    clear hg
    have hsz := hb.size
    by_cases hlt : k < l.length
    · have hx := get_some hlt
      generalize l[k] = x at hx
      obtain ⟨b, off, rfl, c0⟩ := hv.at hb hx
      have HX := Lib.hid hx
      clear hx
      cases hq : Op.bytesLess x s
      · have HP : Hid (putR l s = (l.take k ++ [s]) ++ (l.drop k).filter (fun x => !(x == s))) := Lib.hid (by
          have := tw_of (p := fun x => sLt x s) HA.out (fun c hc => by rw [HX.out] at hc; cases hc; exact hq) hk
          unfold putR; rw [this.1, this.2])
        have hRl : (l.take k).length ≤ 100000 := by rw [List.length_take]; omega
        generalize l.take k = R at *
        obtain ⟨k0, hkk⟩ : ∃ k0, k0 = k := ⟨k, rfl⟩
        have hk0 : k0 ≤ l.length := by omega
        rw [← hkk] at HP
        clear HA HX HG
        have hR1 : (R ++ [s]).length ≤ 100001 := by simp; omega
        subst hkk
        go_wp2_with (first | (at_builtin; refine wpList_append_own _ rfl (.tmp 28) (.tmp 30) 41 rfl w.heap.size 9 i9 (.string ⟨#[]⟩) 1 16 Tryd.underlying41 hi9 hz9 hs9 hy9 rfl (by decide) _ _ _ rfl (hown.alloc _) ⟨wr.heap.size, 0, none⟩ 1 1 [sV s] rfl rfl (cell_one_new _ _ _) (fun u hu => by simp at hu; subst hu; rfl) (by unfold maxLen; omega) (by omega) (by simp; omega) ?_; intro v' w5 hown5 hgrow5 hnil5))
        have hb2 := below_grown (below_all hb (below_alloc _ _)) hgrow5 (by simp; omega) (own_row hown)
        have hown2 : w5.ownsRow w.heap.size 9 1 v' (R ++ [s]).length ((R ++ [s]).map sV) := by rw [List.map_append, List.length_append]; exact hown5
        clear hown5 hgrow5 hnil5 hown hb
        generalize R ++ [s] = R1 at *
        have R0 := Lib.hid (And.intro hb2 hown2)
        clear hb2 hown2
        generalize wr = W1 at *
        go_loopg [5, 6] (l.length - k0) (fun g p i wr => ∃ (j : Nat) (F : List Str), k0 ≤ j ∧ j ≤ l.length ∧ g = l.length - j ∧ i = .int .i64 j ∧ Below w.heap.size w wr ∧ wr.ownsRow w.heap.size 9 1 p (R1 ++ F).length ((R1 ++ F).map sV) ∧ F.length ≤ j ∧ Hid (F ++ (l.drop j).filter (fun x => !(x == s)) = (l.drop k0).filter (fun x => !(x == s))))
        case atStart => exact ⟨k0, [], Nat.le_refl _, hk0, rfl, rfl, R0.out.1, by simpa using R0.out.2, by simp, Lib.hid (by simp)⟩
        case round =>
          obtain ⟨j, F, hj0, hj, hg, rfl, hb, hown, hFl, HF⟩ := hrel
          have HG := Lib.hid hg
          clear hg R0
          by_cases hlt : j < l.length
          · have hx := get_some hlt
            have hdx := List.drop_eq_getElem_cons hlt
            generalize l[j] = x at hx hdx
            obtain ⟨b2, off2, he2, c0⟩ := hv.at hb hx
            cases he2
            have HX := Lib.hid hdx
            have hsz := hb.size
            clear hx hdx
            cases he : (x == s)
            · have HE := Lib.hid he
              have hlen := hFl
              have hRl : (R1 ++ F).length ≤ 300000 := by rw [List.length_append]; omega
              have HA : Hid (R1 ++ (F ++ [x]) = (R1 ++ F) ++ [x]) := Lib.hid (by simp)
              have HFL : Hid ((F ++ [x]).length ≤ j + 1) := Lib.hid (by simp; omega)
              have HFF : Hid ((F ++ [x]) ++ (l.drop (j + 1)).filter (fun x => !(x == s)) = (l.drop k0).filter (fun x => !(x == s))) := Lib.hid (by rw [← HF.out, HX.out, List.filter_cons, HE.out]; simp)
              generalize R1 ++ F = RF at *
              go_wp2_with (first | (at_builtin; refine wpList_append_own _ rfl (.tmp 44) (.tmp 49) 41 rfl w.heap.size 9 i9 (.string ⟨#[]⟩) 1 16 Tryd.underlying41 hi9 hz9 hs9 hy9 rfl (by decide) _ _ _ rfl (hown.alloc _) ⟨wr.heap.size, 0, none⟩ 1 1 [sV x] rfl rfl (cell_one_new _ _ _) (fun u hu => by simp at hu; subst hu; rfl) (by unfold maxLen; omega) (by omega) (by simp; omega) ?_; intro v' w5 hown5 hgrow5 hnil5))
              go_roundg (l.length - (j + 1))
              case measure => have := HG.out; omega
              case rel => exact ⟨j + 1, F ++ [x], by omega, by omega, rfl, by go_num, below_grown (below_all hb (below_alloc _ _)) hgrow5 (by simp; omega) (own_row hown), by rw [HA.out, List.map_append, List.length_append]; exact hown5, HFL.out, HFF⟩
            · have HE := Lib.hid he
              go_wp2
              go_roundg (l.length - (j + 1))
              case measure => have := HG.out; omega
              case rel => exact ⟨j + 1, F, by omega, by omega, rfl, by go_num, hb, hown, by omega, Lib.hid (by rw [← HF.out, HX.out, List.filter_cons, HE.out]; simp)⟩
          · obtain rfl : j = l.length := by omega
            have hq : F = (l.drop k0).filter (fun x => !(x == s)) := by have := HF.out; rw [List.drop_length] at this; simpa using this
            have HQ := Lib.hid hq
            clear hq
            go_wp2
            go_ret
            exact ⟨_, rfl, by rw [HP.out, ← HQ.out]; exact hown, hb⟩
      · have hRl : (l.take k).length ≤ 100000 := by rw [List.length_take]; omega
        have HT : Hid (l.take (k + 1) = l.take k ++ [x]) := Lib.hid (by
          obtain ⟨h1, h2⟩ := List.getElem?_eq_some_iff.1 HX.out
          rw [← h2]; exact List.take_succ_eq_append_getElem h1)
        have HA2 : Hid (∀ c ∈ l.take (k + 1), sLt c s = true) := Lib.hid (by
          intro c hc; rw [HT.out, List.mem_append] at hc
          rcases hc with hc | hc
          · exact HA.out c hc
          · simp at hc; subst hc; exact hq)
        generalize l.take k = R at *
        go_wp2_with (first | (at_builtin; refine wpList_append_own _ rfl (.tmp 19) (.tmp 24) 41 rfl w.heap.size 9 i9 (.string ⟨#[]⟩) 1 16 Tryd.underlying41 hi9 hz9 hs9 hy9 rfl (by decide) _ _ _ rfl (hown.alloc _) ⟨wr.heap.size, 0, none⟩ 1 1 [sV x] rfl rfl (cell_one_new _ _ _) (fun u hu => by simp at hu; subst hu; rfl) (by unfold maxLen; omega) (by omega) (by simp; omega) ?_; intro v' w5 hown5 hgrow5 hnil5))
        go_roundg (l.length - (k + 1))
        case measure => have := HG.out; omega
        case rel => exact ⟨k + 1, by omega, rfl, by go_num, below_grown (below_all hb (below_alloc _ _)) hgrow5 (by simp; omega) (own_row hown), by rw [HT.out, List.map_append, List.length_append]; exact hown5, HA2⟩
    · have HP : Hid (putR l s = (l.take k ++ [s]) ++ (l.drop k).filter (fun x => !(x == s))) := Lib.hid (by
        have := tw_of (p := fun x => sLt x s) HA.out (fun c hc => by have := (List.getElem?_eq_some_iff.1 hc).1; omega) hk
        unfold putR; rw [this.1, this.2])
      have hRl : (l.take k).length ≤ 100000 := by rw [List.length_take]; omega
      generalize l.take k = R at *
      obtain ⟨k0, hkk⟩ : ∃ k0, k0 = k := ⟨k, rfl⟩
      have hk0 : k0 ≤ l.length := by omega
      rw [← hkk] at HP
      clear HA HG
      have hR1 : (R ++ [s]).length ≤ 100001 := by simp; omega
      subst hkk
      go_wp2_with (first | (at_builtin; refine wpList_append_own _ rfl (.tmp 28) (.tmp 30) 41 rfl w.heap.size 9 i9 (.string ⟨#[]⟩) 1 16 Tryd.underlying41 hi9 hz9 hs9 hy9 rfl (by decide) _ _ _ rfl (hown.alloc _) ⟨wr.heap.size, 0, none⟩ 1 1 [sV s] rfl rfl (cell_one_new _ _ _) (fun u hu => by simp at hu; subst hu; rfl) (by unfold maxLen; omega) (by omega) (by simp; omega) ?_; intro v' w5 hown5 hgrow5 hnil5))
      have hb2 := below_grown (below_all hb (below_alloc _ _)) hgrow5 (by simp; omega) (own_row hown)
      have hown2 : w5.ownsRow w.heap.size 9 1 v' (R ++ [s]).length ((R ++ [s]).map sV) := by rw [List.map_append, List.length_append]; exact hown5
      clear hown5 hgrow5 hnil5 hown hb
      generalize R ++ [s] = R1 at *
      have R0 := Lib.hid (And.intro hb2 hown2)
      clear hb2 hown2
      generalize wr = W1 at *
      go_loopg [5, 6] (l.length - k0) (fun g p i wr => ∃ (j : Nat) (F : List Str), k0 ≤ j ∧ j ≤ l.length ∧ g = l.length - j ∧ i = .int .i64 j ∧ Below w.heap.size w wr ∧ wr.ownsRow w.heap.size 9 1 p (R1 ++ F).length ((R1 ++ F).map sV) ∧ F.length ≤ j ∧ Hid (F ++ (l.drop j).filter (fun x => !(x == s)) = (l.drop k0).filter (fun x => !(x == s))))
      case atStart => exact ⟨k0, [], Nat.le_refl _, hk0, rfl, rfl, R0.out.1, by simpa using R0.out.2, by simp, Lib.hid (by simp)⟩
      case round =>
        obtain ⟨j, F, hj0, hj, hg, rfl, hb, hown, hFl, HF⟩ := hrel
        have HG := Lib.hid hg
        clear hg R0
        by_cases hlt : j < l.length
        · exfalso; omega
        · obtain rfl : j = l.length := by omega
          have hq : F = (l.drop k0).filter (fun x => !(x == s)) := by have := HF.out; rw [List.drop_length] at this; simpa using this
          have HQ := Lib.hid hq
          clear hq
          go_wp2
          go_ret
          exact ⟨_, rfl, by rw [HP.out, ← HQ.out]; exact hown, hb⟩
end Go.Proofs.YtfohhokdcobhjaaDoor
namespace Go.Proofs.YtfohhokdcobhjaaDoor
open Go.RowKit Go.Sort Go.Proofs.LawFrame

theorem filter_gt {s : Str} {l : List Str} (h : ∀ x ∈ l, s < x) : l.filter (fun x => !(x == s)) = l := by
  rw [List.filter_eq_self]
  intro x hx
  have : x ≠ s := by rintro rfl; exact lt_irr _ (h _ hx)
  simpa using this
theorem putR_eq : ∀ {l : List Str}, SS l → ∀ s, putR l s = putS l s := by
  intro l
  induction l with
  | nil => intro _ s; simp [putR, putS]
  | cons a l ih =>
    intro h s
    have ih' := ih h.tail s
    unfold putS
    cases hq : sLt a s
    · simp only [Bool.false_eq_true, if_false]
      unfold putR
      rw [List.takeWhile_cons, List.dropWhile_cons]
      simp only [show sLt a s = false from hq, Bool.false_eq_true, if_false]
      split
      · rename_i he
        subst he
        rw [List.filter_cons]
        simp
        exact fun x hx e => lt_irr _ (e ▸ h.head x hx)
      · rename_i he
        have hlt : s < a := by
          rw [sLt_eq] at hq
          have : ¬ a < s := by simpa using hq
          exact lt_of_le_ne (List.not_lt.1 this) (fun e => he e.symm)
        rw [filter_gt (fun x hx => by
          rcases List.mem_cons.1 hx with rfl | hx
          · exact hlt
          · exact lt_tr hlt (h.head x hx))]
        simp
    · simp only [if_true]
      rw [← ih']
      unfold putR
      rw [List.takeWhile_cons, List.dropWhile_cons]
      simp only [show sLt a s = true from hq, if_true]
      simp
theorem putS_len (l : List Str) (s : Str) : (putS l s).length ≤ l.length + 1 := by
  induction l with
  | nil => simp [putS]
  | cons a l ih =>
    unfold putS
    split
    · simp; exact ih
    · split <;> simp
theorem strs_own {w : World} {base : Nat} {v : Value} {l : List Str} (h : w.ownsRow base 9 1 v l.length (l.map sV)) : Strs w v l := Flat.of_own h
theorem hd_drop (l : List Str) (i : Nat) : hd (l.drop i) = tokAt l i := by
  unfold hd tokAt
  rw [List.getD_eq_getElem?_getD, List.headD_eq_head?_getD, List.head?_drop]
def plB (A S : List Str) : Option (List Str × List Str) := if hd (vloop (wRest S.tail)).2 = [41] then some ((wVal S.tail :: (vloop (wRest S.tail)).1).foldl putS A, (vloop (wRest S.tail)).2.tail) else none
theorem pList_plB (S : List Str) : pList S = if hd S = [40] then plB [] S else none := rfl
theorem plB_close {A S : List Str} (h : hd (wRest S.tail) = [41]) : plB A S = some (putS A (wVal S.tail), (wRest S.tail).tail) := by
  have : ¬ hd (wRest S.tail) = [44] := by rw [h]; decide
  unfold plB; rw [vloop_no this]; simp [h]
theorem plB_more {A S : List Str} (h : hd (wRest S.tail) = [44]) : plB A S = plB (putS A (wVal S.tail)) (wRest S.tail) := by
  unfold plB; rw [vloop_yes h]; simp
theorem plB_bad {A S : List Str} (h : ¬ hd (wRest S.tail) = [41]) (h2 : ¬ hd (wRest S.tail) = [44]) : plB A S = none := by
  unfold plB; rw [vloop_no h2]; simp [h]
theorem drop_tail (l : List Str) (i : Nat) : (l.drop i).tail = l.drop (i + 1) := by simp
end Go.Proofs.YtfohhokdcobhjaaDoor
