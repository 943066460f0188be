/- Parsing a printed path gives it back, and printing a parsed path gives the text back: plain mathematics. Parsing a printed path gives it back, and printing a parsed path gives the text back: steps and paths: plain mathematics. -/
import Derived.Test.YtjpmnlefjmdelaaDoorXiJ
import Derived.Test.YtjpmnlefjmdelaaDoorXpJ
set_option linter.unusedSimpArgs false
set_option linter.unusedVariables false
namespace Go.Proofs.YtjpmnlefjmdelaaDoor

theorem tw_app {p : UInt8 → Bool} : ∀ {a b : Str}, a.all p = true → (b = [] ∨ ∃ c r, b = c :: r ∧ p c = false) → (a ++ b).takeWhile p = a ∧ (a ++ b).dropWhile p = b
  | [], b, _, h => by
    rcases h with rfl | ⟨c, r, rfl, h⟩
    · exact ⟨rfl, rfl⟩
    · simp [List.takeWhile_cons, List.dropWhile_cons, h]
  | x :: a, b, ha, h => by
    simp only [List.all_cons, Bool.and_eq_true] at ha
    have ih := tw_app (a := a) ha.2 h
    simp only [List.cons_append, List.takeWhile_cons, List.dropWhile_cons, ha.1, if_true, ih.1, ih.2]
    exact ⟨trivial, trivial⟩
/-- what may follow a name -/
def Stop (r : Str) : Prop := r = [] ∨ ∃ c q, r = c :: q ∧ nmByte c = false
theorem pathT_stop (l : List S) (h : ∀ s ∈ l, stepOk s = true) : Stop (pathT false l) := by
  cases l with
  | nil => exact Or.inl rfl
  | cons s l =>
    right
    have hs := h s (by simp)
    obtain ⟨-, hk⟩ := stepOk_ix hs
    rw [pathT]
    unfold dotT
    by_cases h1 : s.k = 1
    · rw [if_pos ⟨h1, rfl⟩]
      exact ⟨46, _, rfl, by decide⟩
    · rw [if_neg (fun h => h1 h.1)]
      unfold stpT
      by_cases h2 : s.k = 2
      · rw [if_pos h2]; exact ⟨91, _, by simp; rfl, by decide⟩
      · rw [if_neg h2, if_pos (by omega)]; exact ⟨91, _, by simp; rfl, by decide⟩
theorem quoP_quote : ∀ (v z : Str), v.all byteOk = true → quoP (v.flatMap esc ++ 34 :: z) = some (v, z)
  | [], z, _ => by rw [List.flatMap_nil, List.nil_append, quoP_end (c := 34) (by decide)]
  | c :: v, z, h => by
    simp only [List.all_cons, Bool.and_eq_true] at h
    have ih := quoP_quote v z h.2
    have hb := h.1
    unfold byteOk at hb
    simp only [Bool.or_eq_true, Bool.and_eq_true, decide_eq_true_eq] at hb
    rw [List.flatMap_cons]
    by_cases h34 : c.toNat = 34
    · have hc : c = 34 := UInt8.toNat_inj.1 (show c.toNat = (34 : UInt8).toNat from h34)
      subst hc
      rw [show esc 34 = [92, 34] by decide]
      show quoP (92 :: 34 :: (v.flatMap esc ++ 34 :: z)) = _
      rw [quoP.eq_def]
      simp [ih]
    · by_cases h92 : c.toNat = 92
      · have hc : c = 92 := UInt8.toNat_inj.1 (show c.toNat = (92 : UInt8).toNat from h92)
        subst hc
        rw [show esc 92 = [92, 92] by decide]
        show quoP (92 :: 92 :: (v.flatMap esc ++ 34 :: z)) = _
        rw [quoP.eq_def]
        simp [ih]
      · by_cases h10 : c.toNat = 10
        · have hc : c = 10 := UInt8.toNat_inj.1 (show c.toNat = (10 : UInt8).toNat from h10)
          subst hc
          rw [show esc 10 = [92, 110] by decide]
          show quoP (92 :: 110 :: (v.flatMap esc ++ 34 :: z)) = _
          rw [quoP.eq_def]
          simp [ih]
        · have he : esc c = [c] := by unfold esc; rw [if_neg h34, if_neg h92, if_neg h10]
          have hp : prt c = true := by unfold prt; simp; omega
          rw [he]
          show quoP (c :: (v.flatMap esc ++ 34 :: z)) = _
          rw [quoP.eq_def]
          simp only [if_neg h34, if_neg h92, if_pos hp, ih, Option.map_some]
theorem quoP_back : ∀ (n : Nat) (r v q : Str), r.length ≤ n → quoP r = some (v, q) → r = v.flatMap esc ++ 34 :: q
  | 0, r, v, q, hl, h => by
    cases r with
    | nil => simp [quoP] at h
    | cons c r => simp at hl
  | n + 1, r, v, q, hl, h => by
    cases r with
    | nil => simp [quoP] at h
    | cons c r =>
      simp only [List.length_cons] at hl
      have sub : ∀ (x : UInt8) (u : Str), u.length ≤ n → (quoP u).map (fun p => (x :: p.1, p.2)) = some (v, q) → ∃ v', v = x :: v' ∧ u = v'.flatMap esc ++ 34 :: q := fun x u hu he => by
        cases hc : quoP u with
        | none => rw [hc] at he; cases he
        | some p =>
          rw [hc] at he
          obtain ⟨a, b⟩ := p
          simp at he
          obtain ⟨rfl, rfl⟩ := he
          exact ⟨a, rfl, quoP_back n u a b hu hc⟩
      rw [quoP.eq_def] at h
      simp only at h
      split at h
      · rename_i h34
        simp at h
        obtain ⟨rfl, rfl⟩ := h
        have : c = 34 := UInt8.toNat_inj.1 (show c.toNat = (34 : UInt8).toNat from h34)
        rw [this]; rfl
      · rename_i h34
        split at h
        · rename_i h92
          have hc : c = 92 := UInt8.toNat_inj.1 (show c.toNat = (92 : UInt8).toNat from h92)
          cases r with
          | nil => simp at h
          | cons e r' =>
            simp only [List.length_cons] at hl
            simp only at h
            split at h
            · rename_i e34
              obtain ⟨v', rfl, hu⟩ := sub _ r' (by omega) h
              have : e = 34 := UInt8.toNat_inj.1 (show e.toNat = (34 : UInt8).toNat from e34)
              rw [List.flatMap_cons, show esc 34 = [92, 34] by decide, hc, this, hu]; rfl
            · split at h
              · rename_i e92
                obtain ⟨v', rfl, hu⟩ := sub _ r' (by omega) h
                have : e = 92 := UInt8.toNat_inj.1 (show e.toNat = (92 : UInt8).toNat from e92)
                rw [List.flatMap_cons, show esc 92 = [92, 92] by decide, hc, this, hu]; rfl
              · split at h
                · rename_i e110
                  obtain ⟨v', rfl, hu⟩ := sub _ r' (by omega) h
                  have : e = 110 := UInt8.toNat_inj.1 (show e.toNat = (110 : UInt8).toNat from e110)
                  rw [List.flatMap_cons, show esc 10 = [92, 110] by decide, hc, this, hu]; rfl
                · cases h
        · rename_i h92
          split at h
          · rename_i hp
            obtain ⟨v', rfl, hu⟩ := sub _ r (by omega) h
            have h10 : ¬ c.toNat = 10 := by intro e; unfold prt at hp; simp at hp; omega
            rw [List.flatMap_cons, show esc c = [c] by unfold esc; rw [if_neg h34, if_neg h92, if_neg h10], hu]; rfl
          · cases h
end Go.Proofs.YtjpmnlefjmdelaaDoor
namespace Go.Proofs.YtjpmnlefjmdelaaDoor

/-- one or two digits -/
def dg (u : Nat) : Str := if u < 10 then [UInt8.ofNat (48 + u)] else [UInt8.ofNat (48 + u / 10), UInt8.ofNat (48 + u % 10)]
theorem dg_eq {u : Nat} (h : u < 100) : Lib.decDigits u = dg u := by
  unfold dg
  by_cases h1 : u < 10
  · rw [if_pos h1, Lib.decDigits, dif_pos h1]
  · rw [if_neg h1, Lib.decDigits, dif_neg h1, Lib.decDigits, dif_pos (by omega)]; rfl
theorem dg_facts : ∀ u : Fin 65, (dg u.val).all nmByte = true ∧ idxOk (dg u.val) = true ∧ idxN 0 (dg u.val) = (u.val : Int) ∧ dg u.val ≠ [] := by decide
theorem idx_big : ∀ {r : Str} {n : Int}, r.all dig = true → 65 ≤ n → 65 ≤ idxN n r
  | [], n, _, h => h
  | c :: r, n, hr, h => by
    simp only [List.all_cons, Bool.and_eq_true] at hr
    have hc := hr.1
    unfold dig at hc
    simp only [Bool.and_eq_true, decide_eq_true_eq] at hc
    rw [idxN]
    exact idx_big hr.2 (by omega)
theorem idx_back {d : Str} (h : idxOk d = true) (h2 : idxN 0 d ≤ 64) : d = Lib.decDigits (idxN 0 d).toNat ∧ 0 ≤ idxN 0 d := by
  unfold idxOk at h
  simp only [Bool.and_eq_true, decide_eq_true_eq, Bool.not_eq_true', Bool.and_eq_false_iff, decide_eq_false_iff_not] at h
  obtain ⟨⟨h0, h1⟩, ha⟩ := h
  have key : ∀ (x : UInt8) (k : Nat), x.toNat = 48 + k → UInt8.ofNat (48 + k) = x := fun x k e => by
    rw [← e]; exact UInt8.ofNat_toNat
  match d, h0, h1, ha, h2 with
  | [c], _, _, ha, h2 =>
    simp only [List.all_cons, List.all_nil, Bool.and_true] at ha
    unfold dig at ha
    simp only [Bool.and_eq_true, decide_eq_true_eq] at ha
    simp only [idxN] at h2 ⊢
    have e : min (10 * 0 + ((c.toNat : Int) - 48)) 65 = ((c.toNat - 48 : Nat) : Int) := by omega
    rw [e, Int.toNat_natCast, dg_eq (by omega)]
    unfold dg
    rw [if_pos (by omega), key c _ (by omega)]
    exact ⟨rfl, by omega⟩
  | c :: e :: r, _, h1, ha, h2 =>
    simp only [List.all_cons, Bool.and_eq_true] at ha
    obtain ⟨hc, he, hr⟩ := ha
    unfold dig at hc he
    simp only [Bool.and_eq_true, decide_eq_true_eq] at hc he
    have hc48 : ¬ c.toNat = 48 := fun h => by
      have hce : c = 48 := UInt8.toNat_inj.1 (show c.toNat = (48 : UInt8).toNat from h)
      rcases h1 with h1 | h1
      · simp at h1
      · exact h1 (by rw [hce]; rfl)
    simp only [idxN] at h2 ⊢
    have e1 : min (10 * 0 + ((c.toNat : Int) - 48)) 65 = (c.toNat : Int) - 48 := by omega
    rw [e1] at h2 ⊢
    cases r with
    | nil =>
      simp only [idxN] at h2 ⊢
      have e2 : min (10 * ((c.toNat : Int) - 48) + ((e.toNat : Int) - 48)) 65 = ((10 * (c.toNat - 48) + (e.toNat - 48) : Nat) : Int) := by omega
      rw [e2] at h2 ⊢
      rw [Int.toNat_natCast, dg_eq (by omega)]
      unfold dg
      rw [if_neg (by omega), key c _ (by omega), key e _ (by omega)]
      exact ⟨rfl, by omega⟩
    | cons g r =>
      exfalso
      simp only [List.all_cons, Bool.and_eq_true] at hr
      have hg := hr.1
      unfold dig at hg
      simp only [Bool.and_eq_true, decide_eq_true_eq] at hg
      simp only [idxN] at h2
      have := idx_big (n := min (10 * min (10 * ((c.toNat : Int) - 48) + ((e.toNat : Int) - 48)) 65 + ((g.toNat : Int) - 48)) 65) hr.2 (by omega)
      omega
theorem cut91 {c : UInt8} {r : Str} (h : ¬ c = 91) : cutP [91] (c :: r) = none := by rw [cutP, if_neg (fun e => h e.symm)]
theorem name_head {nm : Str} (h : nameOk nm = true) : ∃ c r, nm = c :: r ∧ nmByte c = true ∧ nm.all nmByte = true ∧ ¬ nm = [] := by
  unfold nameOk at h
  simp only [Bool.and_eq_true, decide_eq_true_eq] at h
  cases nm with
  | nil => simp at h
  | cons c r =>
    have := h.2
    simp only [List.all_cons, Bool.and_eq_true] at this
    exact ⟨c, r, rfl, this.1, h.2, by simp⟩
/-- A STEP's TEXT IS READ BACK -/
theorem step_text {s : S} {first : Bool} {r : Str} (hs : stepOk s = true) (hr : Stop r) : stpP first (dotT first s ++ r) = some (s, r) := by
  obtain ⟨k, nm, ix, vl⟩ := s
  have hfld : nameOk nm = true → fldP (nm ++ r) = some (⟨1, nm, 0, []⟩, r) := fun h => by
    obtain ⟨c, q, e, h1, h2, h3⟩ := name_head h
    obtain ⟨t1, t2⟩ := tw_app h2 hr
    unfold fldP
    rw [t1, t2, if_neg h3]
  unfold stepOk at hs
  simp only at hs
  unfold dotT stpT
  simp only
  by_cases h1 : k = 1
  · subst h1
    simp only [if_true, Bool.and_eq_true, decide_eq_true_eq] at hs
    obtain ⟨⟨hn, rfl⟩, rfl⟩ := hs
    obtain ⟨c, q, e, g1, g2, g3⟩ := name_head hn
    have hc : ¬ c = 91 := fun e => by subst e; exact absurd g1 (by decide)
    cases first with
    | true =>
      simp only [Bool.true_eq_false, and_false, if_false, show ¬ (1 : Int) = 2 by omega, show ¬ (1 : Int) = 3 by omega]
      unfold stpP
      rw [show cutP [91] (nm ++ r) = none by rw [e]; exact cut91 hc]
      simp only [if_true]
      exact hfld hn
    | false =>
      simp only [and_self, if_true, show ¬ (1 : Int) = 2 by omega, show ¬ (1 : Int) = 3 by omega, if_false]
      unfold stpP
      rw [show cutP [91] ((46 :: nm) ++ r) = none from cut91 (by decide)]
      simp only [Bool.false_eq_true, if_false]
      rw [show cutP [46] ((46 :: nm) ++ r) = some (nm ++ r) by rw [List.cons_append, cutP, if_pos rfl, cutP]]
      exact hfld hn
  · simp only [if_neg h1] at hs
    rw [if_neg (fun h => h1 h.1)]
    by_cases h2 : k = 2
    · subst h2
      simp only [if_true, Bool.and_eq_true, decide_eq_true_eq] at hs
      obtain ⟨⟨⟨h0, h64⟩, rfl⟩, rfl⟩ := hs
      obtain ⟨u, rfl⟩ : ∃ u : Nat, ix = (u : Int) := ⟨ix.toNat, by omega⟩
      have hu : u < 65 := by omega
      obtain ⟨f1, f2, f3, f4⟩ := dg_facts ⟨u, hu⟩
      simp only at f1 f2 f3 f4
      simp only [if_true, Int.toNat_natCast]
      rw [dg_eq (by omega)]
      unfold stpP
      rw [show cutP [91] (([91] ++ dg u ++ [93]) ++ r) = some (dg u ++ (93 :: r)) by simp [cutP]]
      simp only
      obtain ⟨t1, t2⟩ := tw_app (p := nmByte) (b := 93 :: r) f1 (Or.inr ⟨93, r, rfl, by decide⟩)
      unfold brkP brkN
      rw [t1, t2, show cutP [93] (93 :: r) = some r by rw [cutP, if_pos rfl, cutP]]
      simp only
      rw [if_pos f2, f3]
    · simp only [if_neg h2] at hs
      by_cases h3 : k = 3
      · subst h3
        simp only [if_true, Bool.and_eq_true, decide_eq_true_eq] at hs
        obtain ⟨⟨hn, hv⟩, rfl⟩ := hs
        obtain ⟨c, q, e, g1, g2, g3⟩ := name_head hn
        have hvb : vl.all byteOk = true := by unfold strOk at hv; simp only [Bool.and_eq_true] at hv; exact hv.2
        rw [if_neg h2, if_pos rfl]
        unfold stpP
        rw [show cutP [91] (([91] ++ nm ++ [61] ++ quoteR vl ++ [93]) ++ r) = some (nm ++ (61 :: (quoteR vl ++ (93 :: r)))) by simp [cutP]]
        simp only
        obtain ⟨t1, t2⟩ := tw_app (p := nmByte) (b := 61 :: (quoteR vl ++ (93 :: r))) g2 (Or.inr ⟨61, _, rfl, by decide⟩)
        unfold brkP brkN
        rw [t1, t2, show cutP [93] (61 :: (quoteR vl ++ (93 :: r))) = none by rw [cutP, if_neg (by decide)]]
        simp only
        rw [if_neg g3]
        unfold keyP
        rw [show cutP [61, 34] (61 :: (quoteR vl ++ (93 :: r))) = some (vl.flatMap esc ++ 34 :: (93 :: r)) by unfold quoteR; simp [cutP]]
        simp only
        rw [quoP_quote vl (93 :: r) hvb]
        simp only
        rw [show cutP [93] (93 :: r) = some r by rw [cutP, if_pos rfl, cutP]]
      · simp [h3] at hs
theorem dotT_pos {s : S} {first : Bool} (hs : stepOk s = true) : 0 < (dotT first s).length := by
  have := (stpT_len hs).1
  unfold dotT; split
  · simp
  · exact this
/-- A PATH's TEXT IS READ BACK -/
theorem path_text : ∀ (l : List S) (n : Nat) (first : Bool), (∀ s ∈ l, stepOk s = true) → (pathT first l).length < n → pathP n first (pathT first l) = some l
  | [], n, first, _, hn => by
    cases n with
    | zero => omega
    | succ n => rw [pathT, pathP]
  | s :: l, n, first, h, hn => by
    cases n with
    | zero => omega
    | succ n =>
      have hs := h s (by simp)
      have hp := dotT_pos (first := first) hs
      rw [pathT] at hn ⊢
      rw [List.length_append] at hn
      have hst := step_text (first := first) hs (pathT_stop l (fun z hz => h z (by simp [hz])))
      obtain ⟨c, q, e⟩ : ∃ c q, dotT first s ++ pathT false l = c :: q := by
        cases hd : dotT first s with
        | nil => rw [hd] at hp; simp at hp
        | cons c q => exact ⟨c, q ++ pathT false l, rfl⟩
      rw [e, pathP, ← e, hst]
      simp only
      rw [path_text l n false (fun z hz => h z (by simp [hz])) (by omega)]
      rfl
/-- WHAT IS READ AS A STEP IS ITS TEXT -/
theorem step_back {s : S} {first : Bool} {r q : Str} (h : stpP first r = some (s, q)) (hs : stepOk s = true) : r = dotT first s ++ q := by
  have hfld : ∀ {u : Str}, fldP u = some (s, q) → u = s.nm ++ q ∧ s.k = 1 := fun {u} hu => by
    unfold fldP at hu
    split at hu
    · cases hu
    · simp at hu
      obtain ⟨rfl, rfl⟩ := hu
      exact ⟨(List.takeWhile_append_dropWhile).symm, rfl⟩
  unfold stpP at h
  split at h
  · rename_i q1 h1
    have e1 := (cutP_iff _ _ _).1 h1
    unfold brkP at h
    have hsplit : q1 = q1.takeWhile nmByte ++ q1.dropWhile nmByte := (List.takeWhile_append_dropWhile).symm
    generalize q1.takeWhile nmByte = wd at *
    generalize q1.dropWhile nmByte = rest at *
    unfold brkN at h
    split at h
    · rename_i q2 h2
      have e2 := (cutP_iff _ _ _).1 h2
      split at h
      · rename_i hi
        simp at h
        obtain ⟨rfl, rfl⟩ := h
        have h64 : idxN 0 wd ≤ 64 := by unfold stepOk at hs; simp at hs; omega
        have hb := (idx_back hi h64).1
        unfold dotT stpT
        simp only [show ¬ (2 : Int) = 1 by omega, false_and, if_false, if_true]
        rw [e1, hsplit, e2, ← hb]; simp
      · cases h
    · split at h
      · cases h
      · unfold keyP at h
        split at h
        · cases h
        · rename_i q2 h2
          have e2 := (cutP_iff _ _ _).1 h2
          split at h
          · cases h
          · rename_i v q3 h3
            have e3 := quoP_back _ _ _ _ (Nat.le_refl _) h3
            split at h
            · cases h
            · rename_i q4 h4
              have e4 := (cutP_iff _ _ _).1 h4
              simp at h
              obtain ⟨rfl, rfl⟩ := h
              unfold dotT stpT
              simp only [show ¬ (3 : Int) = 1 by omega, show ¬ (3 : Int) = 2 by omega, false_and, if_false, if_true]
              rw [e1, hsplit, e2, e3, e4]
              unfold quoteR; simp
  · split at h
    · rename_i hf
      obtain ⟨e, hk⟩ := hfld h
      unfold dotT stpT
      rw [if_neg (fun hh => by rw [hf] at hh; cases hh.2), if_neg (by omega), if_neg (by omega)]
      exact e
    · rename_i hf
      split at h
      · rename_i q1 h1
        obtain ⟨e, hk⟩ := hfld h
        have e1 := (cutP_iff _ _ _).1 h1
        have hf' : first = false := by simpa using hf
        unfold dotT stpT
        rw [if_pos ⟨hk, hf'⟩, if_neg (by omega), if_neg (by omega), e1, e]; rfl
      · cases h
/-- WHAT IS READ AS A PATH IS ITS TEXT -/
theorem path_back : ∀ (n : Nat) (first : Bool) (r : Str) (l : List S), pathP n first r = some l → (∀ s ∈ l, stepOk s = true) → r = pathT first l
  | 0, first, r, l, h, _ => by simp [pathP] at h
  | n + 1, first, [], l, h, _ => by simp [pathP] at h; subst h; rfl
  | n + 1, first, c :: r, l, h, hs => by
    rw [pathP] at h
    cases hp : stpP first (c :: r) with
    | none => rw [hp] at h; cases h
    | some p =>
      obtain ⟨s, q⟩ := p
      rw [hp] at h
      simp only at h
      cases hq : pathP n false q with
      | none => rw [hq] at h; cases h
      | some l' =>
        rw [hq] at h
        simp at h
        subst h
        rw [pathT, step_back hp (hs s (by simp)), path_back n false q l' hq (fun z hz => hs z (by simp [hz]))]
/-- PARSE UNDOES PRINT -/
theorem parse_print_path {l : List S} (h : pathOk l = true) (hl : (pathT true l).length ≤ 20000) : resP (pathT true l) = (l, 0) := by
  have hs : ∀ s ∈ l, stepOk s = true := by unfold pathOk at h; simp only [Bool.and_eq_true, decide_eq_true_eq, List.all_eq_true] at h; exact h.2
  unfold resP
  rw [if_neg (by omega), path_text l _ true hs (by omega)]
  simp only
  rw [if_pos h]
/-- PRINT UNDOES PARSE -/
theorem print_parse_path {s : Str} {l : List S} (h : resP s = (l, 0)) : pathOk l = true ∧ pathT true l = s := by
  unfold resP at h
  split at h
  · simp at h
  · split at h
    · simp at h
    · rename_i l' hl'
      split at h
      · rename_i hok
        simp at h
        subst h
        refine ⟨hok, (path_back _ _ _ _ hl' ?_).symm⟩
        unfold pathOk at hok; simp only [Bool.and_eq_true, decide_eq_true_eq, List.all_eq_true] at hok; exact hok.2
      · simp at h
end Go.Proofs.YtjpmnlefjmdelaaDoor
