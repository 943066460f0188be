/- An error does not depend on what follows it: the parser's parts: plain mathematics. -/
import Derived.Test.YtjpmnlefjmdelaaDoorJe
namespace Go.Proofs.YtjpmnlefjmdelaaDoor

/- names -/
theorem loc_nameR : ∀ (d k : Nat), k + d = 40 → Loc true (nameR k) := by
  intro d
  induction d with
  | zero =>
    intro k hk
    have e : nameR k = lookR (fun c r => if c.toNat = 34 ∧ ¬ k = 0 then .ok ([], r) else if nmByte c = false then .er (r.length + 1) 2 else .er (r.length + 1) 4) := by
      funext r
      cases r with
      | nil => rfl
      | cons c r => simp only [nameR, lookR]; rw [if_pos (show k = 40 by omega)]
    rw [e]
    refine Loc.look fun c => ?_
    by_cases h1 : c.toNat = 34 ∧ ¬ k = 0
    · simp only [if_pos h1]; exact LocC.ret _ _
    · simp only [if_neg h1]
      by_cases h2 : nmByte c = false
      · simp only [if_pos h2]; exact LocC.fail _ _
      · simp only [if_neg h2]; exact LocC.fail _ _
  | succ d ih =>
    intro k hk
    have e : nameR k = lookR (fun c r => if c.toNat = 34 ∧ ¬ k = 0 then .ok ([], r) else if nmByte c = false then .er (r.length + 1) 2 else mp (fun l => c :: l) (nameR (k + 1) r)) := by
      funext r
      cases r with
      | nil => rfl
      | cons c r =>
        simp only [nameR, lookR]
        rw [if_neg (show ¬ k = 40 by omega)]
        congr 2
        cases nameR (k + 1) r <;> rfl
    rw [e]
    refine Loc.look fun c => ?_
    by_cases h1 : c.toNat = 34 ∧ ¬ k = 0
    · simp only [if_pos h1]; exact LocC.ret _ _
    · simp only [if_neg h1]
      by_cases h2 : nmByte c = false
      · simp only [if_pos h2]; exact LocC.fail _ _
      · simp only [if_neg h2]; exact ((ih (k + 1) (by omega)).map _).c
/- strings -/
theorem strR_fuel2 : ∀ (f k : Nat) (r : Str), r.length + 1 ≤ f → strR f k r = strR (r.length + 1) k r := by
  intro f
  induction f using Nat.strongRecOn with
  | _ f ih =>
    intro k r hf
    cases r with
    | nil =>
      obtain ⟨f, rfl⟩ : ∃ g, f = g + 1 := ⟨f - 1, by simp at hf; omega⟩
      rfl
    | cons c r =>
      obtain ⟨f, rfl⟩ : ∃ g, f = g + 1 := ⟨f - 1, by simp at hf; omega⟩
      simp only [List.length_cons] at hf ⊢
      rw [strR, strR]
      by_cases h1 : c.toNat = 34
      · rw [if_pos h1, if_pos h1]
      rw [if_neg h1, if_neg h1]
      by_cases h2 : prt c = false
      · rw [if_pos h2, if_pos h2]
      rw [if_neg h2, if_neg h2]
      by_cases h3 : k = 200
      · rw [if_pos h3, if_pos h3]
      rw [if_neg h3, if_neg h3]
      cases hx : charR (c :: r) with
      | er a b => rfl
      | ok p =>
        obtain ⟨x, r2⟩ := p
        have hl : r2.length ≤ r.length := by
          simp only [charR] at hx
          split at hx
          · cases r with
            | nil => cases hx
            | cons e r =>
              simp only [escR] at hx
              split at hx
              · cases hx; simp
              · split at hx
                · cases hx; simp
                · cases hx
          · cases hx; exact Nat.le_refl _
        simp only
        rw [ih f (by omega) (k + 1) r2 (by omega), ih (r.length + 1) (by omega) (k + 1) r2 (by omega)]
theorem loc_strR : ∀ (d k : Nat), k + d = 200 → Loc true (fun r => strR (r.length + 1) k r) := by
  intro d
  induction d with
  | zero =>
    intro k hk
    have e : (fun r => strR (r.length + 1) k r) = lookR (fun c r => if c.toNat = 34 then .ok ([], r) else if prt c = false then .er (r.length + 1) 2 else .er (r.length + 1) 4) := by
      funext r
      cases r with
      | nil => rfl
      | cons c r => simp only [lookR]; rw [strR, if_pos (show k = 200 by omega)]
    rw [e]
    refine Loc.look fun c => ?_
    by_cases h1 : c.toNat = 34
    · simp only [if_pos h1]; exact LocC.ret _ _
    · simp only [if_neg h1]
      by_cases h2 : prt c = false
      · simp only [if_pos h2]; exact LocC.fail _ _
      · simp only [if_neg h2]; exact LocC.fail _ _
  | succ d ih =>
    intro k hk
    have hS := ih (k + 1) (by omega)
    have e : (fun r => strR (r.length + 1) k r) = lookR (fun c r => if c.toNat = 34 then .ok ([], r) else if prt c = false then .er (r.length + 1) 2 else if c.toNat = 92 then lookR (fun e r3 => if e.toNat = 34 ∨ e.toNat = 92 then mp (fun l => e :: l) (strR (r3.length + 1) (k + 1) r3) else if e.toNat = 110 then mp (fun l => 10 :: l) (strR (r3.length + 1) (k + 1) r3) else .er (r3.length + 1) 2) r else mp (fun l => c :: l) (strR (r.length + 1) (k + 1) r)) := by
      funext r
      cases r with
      | nil => rfl
      | cons c r =>
        simp only [lookR, List.length_cons]
        rw [strR, if_neg (show ¬ k = 200 by omega)]
        by_cases h1 : c.toNat = 34
        · rw [if_pos h1, if_pos h1]
        rw [if_neg h1, if_neg h1]
        by_cases h2 : prt c = false
        · rw [if_pos h2, if_pos h2]
        rw [if_neg h2, if_neg h2]
        by_cases h3 : c.toNat = 92
        · rw [if_pos h3]
          simp only [charR]
          rw [if_pos h3]
          cases r with
          | nil => rfl
          | cons e r =>
            simp only [escR, lookR, List.length_cons]
            by_cases h4 : e.toNat = 34 ∨ e.toNat = 92
            · rw [if_pos h4, if_pos h4]
              simp only
              rw [strR_fuel2 (r.length + 1 + 1) (k + 1) r (by omega)]
              cases strR (r.length + 1) (k + 1) r <;> rfl
            · rw [if_neg h4, if_neg h4]
              by_cases h5 : e.toNat = 110
              · rw [if_pos h5, if_pos h5]
                simp only
                rw [strR_fuel2 (r.length + 1 + 1) (k + 1) r (by omega)]
                cases strR (r.length + 1) (k + 1) r <;> rfl
              · rw [if_neg h5, if_neg h5]
        · rw [if_neg h3]
          simp only [charR]
          rw [if_neg h3]
          simp only
          cases strR (r.length + 1) (k + 1) r <;> rfl
    rw [e]
    refine Loc.look fun c => ?_
    by_cases h1 : c.toNat = 34
    · simp only [if_pos h1]; exact LocC.ret _ _
    simp only [if_neg h1]
    by_cases h2 : prt c = false
    · simp only [if_pos h2]; exact LocC.fail _ _
    simp only [if_neg h2]
    by_cases h3 : c.toNat = 92
    · simp only [if_pos h3]
      refine (Loc.look fun e => ?_).c
      by_cases h4 : e.toNat = 34 ∨ e.toNat = 92
      · simp only [if_pos h4]; exact (hS.map _).c
      simp only [if_neg h4]
      by_cases h5 : e.toNat = 110
      · simp only [if_pos h5]; exact (hS.map _).c
      · simp only [if_neg h5]; exact LocC.fail _ _
    · simp only [if_neg h3]; exact (hS.map _).c
/- words -/
def wrd (ws r : Str) : R (Unit × Str) := match wordR ws r with
  | .er a b => .er a b
  | .ok r' => .ok ((), r')
theorem loc_wrd : ∀ ws : Str, LocC true (wrd ws) := by
  intro ws
  induction ws with
  | nil => exact LocC.ret _ ()
  | cons c ws ih =>
    have e : wrd (c :: ws) = lookR (fun d r => if d = c then wrd ws r else .er (r.length + 1) 2) := by
      funext r
      unfold wrd
      cases r with
      | nil => rfl
      | cons d r =>
        simp only [wordR, byteR, lookR]
        by_cases h : d = c
        · rw [if_pos h, if_pos h]
        · rw [if_neg h, if_neg h]
    rw [e]
    refine (Loc.look fun d => ?_).c
    by_cases h : d = c
    · simp only [if_pos h]; exact ih
    · simp only [if_neg h]; exact LocC.fail _ _
/- numbers -/
theorem digs_loc : ∀ (r : Str) (n v : Int) (r' : Str), digsR n r = (v, r') → ∃ p, r = p ++ r' ∧ NotDig r' ∧ (∀ c ∈ p, dig c = true) ∧ ∀ q', NotDig q' → digsR n (p ++ q') = (v, q') := by
  intro r
  induction r with
  | nil => intro n v r' h; simp only [digsR] at h; cases h; exact ⟨[], rfl, trivial, by simp, fun q' hq => digs_stop hq⟩
  | cons c r ih =>
    intro n v r' h
    simp only [digsR] at h
    by_cases hd : dig c = true
    · rw [if_pos hd] at h
      obtain ⟨p, e, h1, h2, h3⟩ := ih _ v r' h
      exact ⟨c :: p, by rw [e]; rfl, h1, fun d hm => by rcases List.mem_cons.1 hm with rfl | hm; exact hd; exact h2 d hm, fun q' hq => by rw [List.cons_append]; simp only [digsR]; rw [if_pos hd]; exact h3 q' hq⟩
    · rw [if_neg hd] at h
      cases h
      exact ⟨[], rfl, by show dig c = false; simpa using hd, by simp, fun q' hq => digs_stop hq⟩
theorem notDig_of {r' q' : Str} (h : NotDig r') (hq : q' = [] ∨ q'.head? = r'.head?) : NotDig q' := by
  cases q' with
  | nil => trivial
  | cons c q =>
    rcases hq with hq | hq
    · cases hq
    · cases r' with
      | nil => cases hq
      | cons d r => cases hq; exact h
theorem zero_none {c : UInt8} {r : Str} (h : zeroD (c :: r) = none) : ¬ c.toNat = 48 ∨ NotDig r := by
  by_cases h0 : c.toNat = 48
  · refine Or.inr ?_
    cases r with
    | nil => trivial
    | cons d r =>
      simp only [zeroD] at h
      show dig d = false
      by_cases hd : dig d = true
      · rw [if_pos ⟨h0, hd⟩] at h; cases h
      · simpa using hd
  · exact Or.inl h0
theorem none_zero {c : UInt8} {r : Str} (h : ¬ c.toNat = 48 ∨ NotDig r) : zeroD (c :: r) = none := by
  cases r with
  | nil => rfl
  | cons d r =>
    simp only [zeroD]
    refine if_neg fun hh => ?_
    rcases h with h | h
    · exact h hh.1
    · have h : dig d = false := h
      rw [h] at hh; cases hh.2
/-- the digits behind a first one -/
theorem loc_digits {c : UInt8} (hd : dig c = true) : LocC false (fun r => digitsR (c :: r)) := by
  refine ⟨fun r v r' h => ?_, fun r k e h he => ?_⟩
  · unfold digitsR at h
    cases hz : zeroD (c :: r) with
    | some k => rw [hz] at h; cases h
    | none =>
      rw [hz] at h
      have h' : digsR 0 (c :: r) = (v, r') := R.ok.inj h
      simp only [digsR] at h'
      rw [if_pos hd] at h'
      obtain ⟨p, e, h1, h2, h3⟩ := digs_loc _ _ _ _ h'
      refine ⟨p, e, fun q' hq => ?_⟩
      have hnq := notDig_of h1 hq
      have hz' : zeroD (c :: (p ++ q')) = none := none_zero (by
        rcases zero_none hz with h | h
        · exact Or.inl h
        · refine Or.inr ?_
          cases p with
          | nil => exact hnq
          | cons d p =>
            rw [e] at h
            have : dig d = false := h
            rw [h2 d List.mem_cons_self] at this; cases this)
      show digitsR (c :: (p ++ q')) = _
      unfold digitsR
      rw [hz']
      simp only [digsR]
      rw [if_pos hd, h3 q' hnq]
  · unfold digitsR at h
    cases hz : zeroD (c :: r) with
    | none => rw [hz] at h; cases h
    | some k' =>
      rw [hz] at h
      cases h
      cases r with
      | nil => cases hz
      | cons d r =>
        simp only [zeroD] at hz
        by_cases hh : c.toNat = 48 ∧ dig d = true
        · rw [if_pos hh] at hz
          cases hz
          refine Or.inr ⟨[], d, r, rfl, rfl, fun q' => ?_, Or.inr ⟨rfl, digTo 0 c, ?_⟩⟩
          · simp only [List.nil_append, digitsR, zeroD]; rw [if_pos hh]
          · simp only [digitsR, zeroD, digsR]; rw [if_pos hd]
        · rw [if_neg hh] at hz; cases hz
theorem loc_num1 {s : Int} {kf : Str → Nat} {c : UInt8} (hd : dig c = true) : LocC false (fun r => numF s (kf r) (digitsR (c :: r))) := by
  refine ⟨fun r v r' hr => ?_, fun r k e hr he => ?_⟩
  · cases hF : digitsR (c :: r) with
    | er a b => rw [hF] at hr; cases hr
    | ok p =>
      obtain ⟨n, r1⟩ := p
      rw [hF] at hr
      simp only [numF] at hr
      by_cases hb : 1000000000000000 < n
      · rw [if_pos hb] at hr; cases hr
      · rw [if_neg hb] at hr
        cases hr
        obtain ⟨p, e, f⟩ := (loc_digits hd).ok r n r' hF
        refine ⟨p, e, fun q' hq => ?_⟩
        have f' : digitsR (c :: (p ++ q')) = .ok (n, q') := f q' hq
        show numF s (kf (p ++ q')) (digitsR (c :: (p ++ q'))) = _
        rw [f']
        simp only [numF]
        rw [if_neg hb]
  · cases hz : zeroD (c :: r) with
    | none =>
      have hF : digitsR (c :: r) = .ok (digsR 0 (c :: r)) := by unfold digitsR; rw [hz]
      rw [hF] at hr
      clear hF
      generalize digsR 0 (c :: r) = x at hr
      obtain ⟨n, r1⟩ := x
      simp only [numF] at hr
      by_cases hb : 1000000000000000 < n
      · rw [if_pos hb] at hr; cases hr; omega
      · rw [if_neg hb] at hr; cases hr
    | some k' =>
      have hF : digitsR (c :: r) = .er k' 2 := by unfold digitsR; rw [hz]
      rw [hF] at hr
      simp only [numF] at hr
      cases hr
      cases r with
      | nil => cases hz
      | cons d r =>
        simp only [zeroD] at hz
        by_cases hh : c.toNat = 48 ∧ dig d = true
        · rw [if_pos hh] at hz
          cases hz
          refine Or.inr ⟨[], d, r, rfl, rfl, fun q' => ?_, Or.inr ⟨rfl, s * 0, ?_⟩⟩
          · have : digitsR (c :: d :: q') = .er (q'.length + 1) 2 := by simp only [digitsR, zeroD]; rw [if_pos hh]
            show numF s _ (digitsR (c :: d :: q')) = _
            rw [this]; rfl
          · have hc : c = 48 := u8_of hh.1
            subst hc
            rfl
        · rw [if_neg hh] at hz; cases hz
theorem loc_numR {c : UInt8} (hc : c.toNat = 45 ∨ dig c = true) : LocC false (fun r => numR (c :: r)) := by
  by_cases h45 : c.toNat = 45
  · have e : (fun r => numR (c :: r)) = lookR (fun d r => if dig d = true ∧ ¬ d.toNat = 48 then numF (-1) (r.length + 1 + 1) (digitsR (d :: r)) else .er (r.length + 1) 2) := by
      funext r
      simp only [numR]
      rw [if_pos h45]
      cases r with
      | nil => rfl
      | cons d r => simp only [minusR, lookR, List.length_cons]
    rw [e]
    refine (Loc.look fun d => ?_).c
    by_cases h : dig d = true ∧ ¬ d.toNat = 48
    · simp only [if_pos h]; exact loc_num1 (kf := fun r => r.length + 1 + 1) h.1
    · simp only [if_neg h]; exact LocC.fail _ _
  · have hd : dig c = true := by rcases hc with h | h; exact absurd h h45; exact h
    have e : (fun r => numR (c :: r)) = (fun r => numF 1 (r.length + 1) (digitsR (c :: r))) := by
      funext r; simp only [numR]; rw [if_neg h45]
    rw [e]
    exact loc_num1 (kf := fun r => r.length + 1) hd
end Go.Proofs.YtjpmnlefjmdelaaDoor
