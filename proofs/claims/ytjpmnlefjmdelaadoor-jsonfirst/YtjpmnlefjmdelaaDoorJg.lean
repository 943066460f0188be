/- An error does not depend on what follows it: values and texts: plain mathematics. -/
import Derived.Test.YtjpmnlefjmdelaaDoorJf
namespace Go.Proofs.YtjpmnlefjmdelaaDoor

def asP {α : Type} : R (α × Nat × Str) → R ((α × Nat) × Str)
  | .er a b => .er a b
  | .ok (a, n, r) => .ok ((a, n), r)
def LV (pv : PV) : Prop := ∀ (full : Bool) (n : Nat), Loc false (fun r => asP (pv full n r))
theorem asP_ok {α : Type} {x : R (α × Nat × Str)} {a : α} {n : Nat} {r : Str} (h : asP x = .ok ((a, n), r)) : x = .ok (a, n, r) := by
  cases x with
  | er a b => cases h
  | ok p => obtain ⟨a', n', r'⟩ := p; cases h; rfl
theorem asP_er {α : Type} {x : R (α × Nat × Str)} {k : Nat} {e : Int} (h : asP x = .er k e) : x = .er k e := by
  cases x with
  | er a b => cases h; rfl
  | ok p => obtain ⟨a', n', r'⟩ := p; cases h
/- elements -/
theorem loc_elems {pv : PV} (H : LV pv) (hF : ∀ n r p, pv true n r ≠ .ok p) : ∀ (m n : Nat), Loc false (fun r => asP (elemsR pv m n r)) := by
  intro m
  induction m with
  | zero =>
    intro n
    refine Loc.bind (st := false) (P := fun _ => False) (G := fun _ _ => .er 0 3) (H (decide (0 = 0)) n) (fun r k e h => ?_) (fun r a r' h hP => hP.elim) (fun r a r' h _ => ?_) (fun a hP => hP.elim) (Or.inr fun p a h => ?_)
    · rw [elemsR, asP_er h]; rfl
    · obtain ⟨t, n1⟩ := a; exact absurd (asP_ok h) (hF _ _ _)
    · obtain ⟨t, n1⟩ := a; exact absurd (asP_ok h) (hF _ _ _)
  | succ m ih =>
    intro n
    refine Loc.bind (st := false) (P := fun _ => True) (G := fun (a : T × Nat) r' => lookR (fun c r2 => if c.toNat = 93 then .ok (([a.1], a.2), r2) else if c.toNat = 44 then mp (fun b : List T × Nat => (a.1 :: b.1, b.2)) (asP (elemsR pv m a.2 r2)) else .er (r2.length + 1) 2) (skp r'))
      (H (decide (m + 1 = 0)) n) (fun r k e h => ?_) (fun r a r' h _ => ?_) (fun r a r' h hP => absurd trivial hP) (fun a _ => ?_) (Or.inr fun _ _ _ => trivial)
    · rw [elemsR, asP_er h]; rfl
    · obtain ⟨t, n1⟩ := a
      rw [elemsR, asP_ok h]
      simp only
      cases skp r' with
      | nil => rfl
      | cons c r2 =>
        simp only [lookR]
        by_cases h1 : c.toNat = 93
        · rw [if_pos h1, if_pos h1]; rfl
        rw [if_neg h1, if_neg h1]
        by_cases h2 : c.toNat = 44
        · rw [if_pos h2, if_pos h2]
          cases elemsR pv m n1 r2 with
          | er a b => rfl
          | ok p => obtain ⟨l, n2, r3⟩ := p; rfl
        · rw [if_neg h2, if_neg h2]; rfl
    · refine Loc.sk (Loc.look fun c => ?_)
      by_cases h1 : c.toNat = 93
      · simp only [if_pos h1]; exact LocC.ret _ _
      simp only [if_neg h1]
      by_cases h2 : c.toNat = 44
      · simp only [if_pos h2]; exact ((ih a.2).map _).c
      · simp only [if_neg h2]; exact LocC.fail _ _
/- a field -/
def fieldM (pv : PV) (seen : List Str) (n k : Nat) : R (Str × Str) → R ((Str × T) × Nat × Str)
  | .er a b => .er a b
  | .ok (nm, r2) => if nm ∈ seen then .er k 8 else match byteR 58 (skp r2) with
      | .er a b => .er a b
      | .ok r3 => match pv false n r3 with
        | .er a b => .er a b
        | .ok (t, n', r4) => .ok ((nm, t), n', r4)
theorem loc_field {pv : PV} (H : LV pv) (m : Nat) (seen : List Str) (n : Nat) : Loc false (fun r => asP (fieldR pv m seen n r)) := by
  have e : (fun r => asP (fieldR pv m seen n r)) = (fun r => lookR (fun c r1 => if ¬ c.toNat = 34 then .er (r1.length + 1) 2 else if m = 0 then .er (r1.length + 1) 4 else asP (fieldM pv seen n (r1.length + 1) (nameR 0 r1))) (skp r)) := by
    funext r
    unfold fieldR
    cases skp r with
    | nil => rfl
    | cons c r1 =>
      simp only [lookR]
      by_cases h1 : ¬ c.toNat = 34
      · rw [if_pos h1, if_pos h1]; rfl
      rw [if_neg h1, if_neg h1]
      by_cases h2 : m = 0
      · rw [if_pos h2, if_pos h2]; rfl
      rw [if_neg h2, if_neg h2]
      cases nameR 0 r1 with
      | er a b => rfl
      | ok p => obtain ⟨nm, r2⟩ := p; rfl
  rw [e]
  refine Loc.sk (Loc.look fun c => ?_)
  by_cases h1 : ¬ c.toNat = 34
  · simp only [if_pos h1]; exact LocC.fail _ _
  simp only [if_neg h1]
  by_cases h2 : m = 0
  · simp only [if_pos h2]; exact LocC.fail _ _
  simp only [if_neg h2]
  refine Loc.c (Loc.bind (st := true) (P := fun nm => ¬ nm ∈ seen) (G := fun nm r2 => lookR (fun d r3 => if d = 58 then mp (fun b : T × Nat => ((nm, b.1), b.2)) (asP (pv false n r3)) else .er (r3.length + 1) 2) (skp r2))
    (loc_nameR 40 0 rfl) (fun r k e h => ?_) (fun r nm r2 h hP => ?_) (fun r nm r2 h hP => ?_) (fun nm _ => ?_) (Or.inl rfl))
  · rw [h]; rfl
  · rw [h]
    simp only [fieldM]
    rw [if_neg hP]
    cases skp r2 with
    | nil => rfl
    | cons d r3 =>
      simp only [byteR, lookR]
      by_cases h3 : d = 58
      · rw [if_pos h3, if_pos h3]
        simp only
        cases pv false n r3 with
        | er a b => rfl
        | ok p => obtain ⟨t, n2, r4⟩ := p; rfl
      · rw [if_neg h3, if_neg h3]; rfl
  · refine ⟨r.length + 1, 8, ?_, by omega⟩
    rw [h]
    simp only [fieldM]
    rw [if_pos (by simpa using hP)]; rfl
  · refine Loc.sk (Loc.look fun d => ?_)
    by_cases h3 : d = 58
    · simp only [if_pos h3]; exact ((H false n).map _).c
    · simp only [if_neg h3]; exact LocC.fail _ _
theorem loc_members {pv : PV} (H : LV pv) : ∀ (m : Nat) (seen : List Str) (n : Nat), Loc false (fun r => asP (membersR pv m seen n r)) := by
  intro m
  induction m with
  | zero =>
    intro seen n
    have no : ∀ r p, fieldR pv 0 seen n r ≠ .ok p := fun r p h => by
      unfold fieldR at h
      split at h
      · cases h
      · split at h
        · cases h
        · simp at h
    refine Loc.bind (st := false) (P := fun _ => False) (G := fun _ _ => .er 0 3) (loc_field H 0 seen n) (fun r k e h => ?_) (fun r a r' h hP => hP.elim) (fun r a r' h _ => ?_) (fun a hP => hP.elim) (Or.inr fun p a h => ?_)
    · rw [membersR, asP_er h]; rfl
    · obtain ⟨t, n1⟩ := a; exact absurd (asP_ok h) (no _ _)
    · obtain ⟨t, n1⟩ := a; exact absurd (asP_ok h) (no _ _)
  | succ m ih =>
    intro seen n
    refine Loc.bind (st := false) (P := fun _ => True) (G := fun (a : (Str × T) × Nat) r' => lookR (fun c r2 => if c.toNat = 125 then .ok (([a.1], a.2), r2) else if c.toNat = 44 then mp (fun b : List (Str × T) × Nat => (a.1 :: b.1, b.2)) (asP (membersR pv m (seen ++ [a.1.1]) a.2 r2)) else .er (r2.length + 1) 2) (skp r'))
      (loc_field H (m + 1) seen n) (fun r k e h => ?_) (fun r a r' h _ => ?_) (fun r a r' h hP => absurd trivial hP) (fun a _ => ?_) (Or.inr fun _ _ _ => trivial)
    · rw [membersR, asP_er h]; rfl
    · obtain ⟨t, n1⟩ := a
      rw [membersR, asP_ok h]
      simp only
      cases skp r' with
      | nil => rfl
      | cons c r2 =>
        simp only [lookR]
        by_cases h1 : c.toNat = 125
        · rw [if_pos h1, if_pos h1]; rfl
        rw [if_neg h1, if_neg h1]
        by_cases h2 : c.toNat = 44
        · rw [if_pos h2, if_pos h2]
          cases membersR pv m (seen ++ [t.1]) n1 r2 with
          | er a b => rfl
          | ok p => obtain ⟨l, n2, r3⟩ := p; rfl
        · rw [if_neg h2, if_neg h2]; rfl
    · refine Loc.sk (Loc.look fun c => ?_)
      by_cases h1 : c.toNat = 125
      · simp only [if_pos h1]; exact LocC.ret _ _
      simp only [if_neg h1]
      by_cases h2 : c.toNat = 44
      · simp only [if_pos h2]; exact ((ih _ a.2).map _).c
      · simp only [if_neg h2]; exact LocC.fail _ _
end Go.Proofs.YtjpmnlefjmdelaaDoor
