/- An error does not depend on what follows it: texts, and Parse: plain mathematics. -/
import Derived.Test.YtjpmnlefjmdelaaDoorJg
namespace Go.Proofs.YtjpmnlefjmdelaaDoor

theorem mp_ok {α β : Type} {g : α → β} {x : R (α × Str)} {b : β} {r : Str} (h : mp g x = .ok (b, r)) : ∃ a, x = .ok (a, r) := by
  cases x with
  | er a b => cases h
  | ok p => obtain ⟨a, r'⟩ := p; cases h; exact ⟨a, rfl⟩
theorem elemsR_sk {pv : PV} (H : PVOk pv) (m n : Nat) (r : Str) : elemsR pv m n r = elemsR pv m n (skp r) := by rw [elemsR, elemsR, H.skp]
theorem membersR_sk (pv : PV) (m : Nat) (seen : List Str) (n : Nat) (r : Str) : membersR pv m seen n r = membersR pv m seen n (skp r) := by
  rw [membersR, membersR, show fieldR pv m seen n (skp r) = fieldR pv m seen n r by unfold fieldR; rw [skp_skp]]
theorem loc_list {d : Nat} (H : LV (valR d)) (n : Nat) : Loc false (fun r => asP (listR (valR d) n r)) := by
  have e : (fun r => asP (listR (valR d) n r)) = (fun r => lookR (fun c r1 => if c.toNat = 93 then .ok ((T.mk 4 0 [] [] [], n), r1) else mp (fun b : List T × Nat => (T.mk 4 0 [] b.1 [], b.2)) (asP (elemsR (valR d) 64 n (c :: r1)))) (skp r)) := by
    funext r
    unfold listR
    cases hs : skp r with
    | nil => rfl
    | cons c r1 =>
      simp only [lookR]
      by_cases h1 : c.toNat = 93
      · rw [if_pos h1, if_pos h1]; rfl
      rw [if_neg h1, if_neg h1, elemsR_sk (valR_ok d) 64 n r, hs]
      cases elemsR (valR d) 64 n (c :: r1) with
      | er a b => rfl
      | ok p => obtain ⟨l, n2, r3⟩ := p; rfl
  rw [e]
  refine Loc.sk (Loc.look fun c => ?_)
  by_cases h1 : c.toNat = 93
  · simp only [if_pos h1]; exact LocC.ret _ _
  · simp only [if_neg h1]
    refine LocC.incl (G := fun r => mp (fun b : List T × Nat => (T.mk 4 0 [] b.1 [], b.2)) (asP (elemsR (valR d) 64 n r))) ((loc_elems H (valR_ok d).full 64 n).map _) (fun r1 a r' h => ?_)
    obtain ⟨⟨l, n2⟩, h⟩ := mp_ok h
    have := (elemsR_back (valR_back d) (valR_ok d).full _ _ _ _ _ _ (asP_ok h)).2.2.1
    simp at this
    omega
theorem loc_map {d : Nat} (H : LV (valR d)) (n : Nat) : Loc false (fun r => asP (mapR (valR d) n r)) := by
  have e : (fun r => asP (mapR (valR d) n r)) = (fun r => lookR (fun c r1 => if c.toNat = 125 then .ok ((T.mk 5 0 [] [] [], n), r1) else mp (fun b : List (Str × T) × Nat => (T.mk 5 0 [] [] (mapL b.1), b.2)) (asP (membersR (valR d) 64 [] n (c :: r1)))) (skp r)) := by
    funext r
    unfold mapR
    cases hs : skp r with
    | nil => rfl
    | cons c r1 =>
      simp only [lookR]
      by_cases h1 : c.toNat = 125
      · rw [if_pos h1, if_pos h1]; rfl
      rw [if_neg h1, if_neg h1, membersR_sk (valR d) 64 [] n r, hs]
      cases membersR (valR d) 64 [] n (c :: r1) with
      | er a b => rfl
      | ok p => obtain ⟨l, n2, r3⟩ := p; rfl
  rw [e]
  refine Loc.sk (Loc.look fun c => ?_)
  by_cases h1 : c.toNat = 125
  · simp only [if_pos h1]; exact LocC.ret _ _
  · simp only [if_neg h1]
    refine LocC.incl (G := fun r => mp (fun b : List (Str × T) × Nat => (T.mk 5 0 [] [] (mapL b.1), b.2)) (asP (membersR (valR d) 64 [] n r))) ((loc_members H 64 [] n).map _) (fun r1 a r' h => ?_)
    obtain ⟨⟨l, n2⟩, h⟩ := mp_ok h
    have := (membersR_back (valR_back d) _ _ _ _ _ _ _ (asP_ok h)).2.2.1
    simp at this
    omega
theorem asP_word {n : Nat} {t : T} {c : UInt8} {ws r : Str} : asP (wordV n t (wordR (c :: ws) (c :: r))) = mp (fun _ => (t, n)) (wrd ws r) := by
  have : wordR (c :: ws) (c :: r) = wordR ws r := by simp [wordR, byteR]
  rw [this]
  unfold wrd
  cases wordR ws r <;> rfl
theorem asP_wrap {α : Type} {n : Nat} {f : α → T} {x : R (α × Str)} : asP (wrapR n f x) = mp (fun a => (f a, n)) x := by
  cases x with
  | er a b => rfl
  | ok p => obtain ⟨a, r⟩ := p; rfl
theorem loc_body {d : Nat} (H : LV (valR d)) (n : Nat) {c : UInt8} (hc : bgn c = true) : LocC false (fun r => asP (bodyR (valR d) n c r)) := by
  unfold bodyR
  by_cases h1 : c.toNat = 110
  · simp only [if_pos h1]
    obtain rfl : c = 110 := u8_of h1
    simp only [asP_word]
    exact ((loc_wrd _).map _).loose
  simp only [if_neg h1]
  by_cases h2 : c.toNat = 116
  · simp only [if_pos h2]
    obtain rfl : c = 116 := u8_of h2
    simp only [asP_word]
    exact ((loc_wrd _).map _).loose
  simp only [if_neg h2]
  by_cases h3 : c.toNat = 102
  · simp only [if_pos h3]
    obtain rfl : c = 102 := u8_of h3
    simp only [asP_word]
    exact ((loc_wrd _).map _).loose
  simp only [if_neg h3]
  by_cases h4 : c.toNat = 34
  · simp only [if_pos h4, asP_wrap]
    exact (((loc_strR 200 0 rfl).map _).c).loose
  simp only [if_neg h4]
  by_cases h5 : c.toNat = 91
  · simp only [if_pos h5]; exact (loc_list H n).c
  simp only [if_neg h5]
  by_cases h6 : c.toNat = 123
  · simp only [if_pos h6]; exact (loc_map H n).c
  simp only [if_neg h6, asP_wrap]
  refine (loc_numR ?_).map _
  by_cases h45 : c.toNat = 45
  · exact Or.inl h45
  · refine Or.inr ?_
    simpa [bgn, h1, h2, h3, h4, h5, h6, h45] using hc
theorem loc_val : ∀ f, LV (valR f) := by
  intro f
  induction f with
  | zero =>
    intro full n
    have e : (fun r => asP (valR 0 full n r)) = (fun r => lookR (fun c r1 => if bgn c = false then .er (r1.length + 1) 2 else .er (r1.length + 1) 4) (skp r)) := by
      funext r
      rw [valR_zero]
      cases skp r with
      | nil => rfl
      | cons c r1 =>
        simp only [lookR]
        by_cases h : bgn c = false
        · rw [if_pos h, if_pos h]; rfl
        · rw [if_neg h, if_neg h]; rfl
    rw [e]
    refine Loc.sk (Loc.look fun c => ?_)
    by_cases h : bgn c = false
    · simp only [if_pos h]; exact LocC.fail _ _
    · simp only [if_neg h]; exact LocC.fail _ _
  | succ f ih =>
    intro full n
    have e : (fun r => asP (valR (f + 1) full n r)) = (fun r => lookR (fun c r1 => if bgn c = false then .er (r1.length + 1) 2 else if full = true ∨ n = 600 then .er (r1.length + 1) 4 else asP (bodyR (valR f) (n + 1) c r1)) (skp r)) := by
      funext r
      rw [valR_succ]
      cases skp r with
      | nil => rfl
      | cons c r1 =>
        simp only [lookR]
        by_cases h : bgn c = false
        · rw [if_pos h, if_pos h]; rfl
        rw [if_neg h, if_neg h]
        by_cases h2 : full = true ∨ n = 600
        · rw [if_pos h2, if_pos h2]; rfl
        · rw [if_neg h2, if_neg h2]
    rw [e]
    refine Loc.sk (Loc.look fun c => ?_)
    by_cases h : bgn c = false
    · simp only [if_pos h]; exact LocC.fail _ _
    simp only [if_neg h]
    by_cases h2 : full = true ∨ n = 600
    · simp only [if_pos h2]; exact LocC.fail _ _
    · simp only [if_neg h2]; exact loc_body ih (n + 1) (by simpa using h)
theorem textR_of {s : Str} {t : T} {n : Nat} {r : Str} (h : asP (valR 12 false 0 s) = .ok ((t, n), r)) : textR s = (match skp r with | [] => .ok t | _ :: r' => .er (r'.length + 1) 2) := by
  unfold textR
  rw [asP_ok h]
  rfl
theorem first_text {s : Str} {rem : Nat} {e : Int} (h : textR s = .er rem e) (he : e = 2 ∨ e = 4) : ∃ p c q, s = p ++ c :: q ∧ rem = q.length + 1 ∧ (∀ q', textR (p ++ c :: q') = .er (q'.length + 1) e) ∧ (textR p = .er 0 3 ∨ ∃ t, textR p = .ok t) := by
  have L := loc_val 12 false 0
  cases hv : asP (valR 12 false 0 s) with
  | er k' e' =>
    have : textR s = .er k' e' := by unfold textR; rw [asP_er hv]
    rw [this] at h
    cases h
    obtain ⟨p, c, q, g1, g2, g3, g4⟩ := L.er s rem e hv he
    refine ⟨p, c, q, g1, g2, fun q' => ?_, ?_⟩
    · unfold textR; rw [asP_er (g3 q')]
    · rcases g4 with g4 | ⟨-, ⟨t, n⟩, g4⟩
      · exact Or.inl (by unfold textR; rw [asP_er g4])
      · exact Or.inr ⟨t, by rw [textR_of g4]; rfl⟩
  | ok x =>
    obtain ⟨⟨t, n⟩, r⟩ := x
    rw [textR_of hv] at h
    obtain ⟨p1, e1, f1⟩ := L.ok s (t, n) r hv
    obtain ⟨ws, ew, fw⟩ := skp_split r
    cases hs : skp r with
    | nil => rw [hs] at h; cases h
    | cons c r' =>
      rw [hs] at h ew
      cases h
      have hc : skp (c :: r') = c :: r' := by rw [← hs, skp_skp]
      have hb : blk c = false := skp_head (r := r) (by rw [hs]; rfl)
      refine ⟨p1 ++ ws, c, r', by rw [e1, List.append_assoc, ← ew], rfl, fun q' => ?_, Or.inr ⟨t, ?_⟩⟩
      · rw [List.append_assoc, textR_of (f1 (ws ++ c :: q') (Or.inr (by rw [ew]; exact head_cons ws c r' q'))), fw, skp_cons hb]
      · rw [textR_of (f1 ws (by rw [ew]; exact head_pre ws c r')), show skp ws = [] by have := fw []; rw [List.append_nil] at this; exact this]
/-- an error of Parse: it stays where it is whatever follows it, and what is before it is accepted or truncated there -/
theorem first_parse {s : Str} (hs : s.length ≤ 4000) {v : T} {k e : Int} (h : parseR s = (v, k, e)) (he : e = 2 ∨ e = 4) :
    ∃ j : Nat, k = (j : Int) ∧ j < s.length ∧ (∀ t : Str, t.length ≤ 4000 → ∃ w, parseR (s.take (j + 1) ++ t) = (w, k, e)) ∧ ∃ w n g, parseR (s.take j) = (w, n, g) ∧ (g = 0 ∨ g = 3 ∧ n = k) := by
  unfold parseR at h
  rw [if_neg (by omega)] at h
  cases hx : textR s with
  | ok t => rw [hx] at h; cases h; omega
  | er rem c =>
    rw [hx] at h
    cases h
    obtain ⟨p, c, q, g1, g2, g3, g4⟩ := first_text hx he
    subst g2
    have hl : s.length = p.length + (q.length + 1) := by rw [g1]; simp
    have hp : p.length = s.length - (q.length + 1) := by omega
    refine ⟨p.length, by rw [hp], by omega, fun t ht => ?_, ?_⟩
    · have e1 : s.take (p.length + 1) ++ t = p ++ c :: t := by
        rw [g1, show p ++ c :: q = (p ++ [c]) ++ q by simp, List.take_left' (by simp)]
        simp
      rw [e1]
      unfold parseR
      rw [if_neg (by simp; omega), g3 t]
      refine ⟨.mk 0 0 [] [] [], ?_⟩
      simp only [List.length_append, List.length_cons]
      rw [show p.length + (t.length + 1) - (t.length + 1) = s.length - (q.length + 1) by omega]
    · have e1 : s.take p.length = p := by rw [g1]; exact List.take_left' rfl
      rw [e1]
      unfold parseR
      rw [if_neg (by omega)]
      rcases g4 with g4 | ⟨t, g4⟩
      · rw [g4]; exact ⟨_, _, _, rfl, Or.inr ⟨rfl, by rw [Nat.sub_zero, hp]⟩⟩
      · rw [g4]; exact ⟨_, _, _, rfl, Or.inl rfl⟩
end Go.Proofs.YtjpmnlefjmdelaaDoor
