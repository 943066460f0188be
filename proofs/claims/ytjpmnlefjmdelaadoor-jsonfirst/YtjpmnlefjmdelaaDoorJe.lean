/- An error does not depend on what follows it: plain mathematics. -/
import Derived.Test.YtjpmnlefjmdelaaDoorJd
namespace Go.Proofs.YtjpmnlefjmdelaaDoor

section
variable {α β : Type}
/-- what was read does not depend on what follows, but for one byte -/
def OkAt (F : Str → R (α × Str)) (r : Str) (a : α) (r' : Str) : Prop := ∃ p, r = p ++ r' ∧ ∀ q', (q' = [] ∨ q'.head? = r'.head?) → F (p ++ q') = .ok (a, q')
/-- an error lies at a byte, whatever follows it; what is before it is truncated, or (where st is false) complete -/
def ErAt (st : Bool) (F : Str → R (α × Str)) (r : Str) (rem : Nat) (e : Int) : Prop := ∃ p c q, r = p ++ c :: q ∧ rem = q.length + 1 ∧ (∀ q', F (p ++ c :: q') = .er (q'.length + 1) e) ∧ (F p = .er 0 3 ∨ (st = false ∧ ∃ a, F p = .ok (a, [])))
/-- behind a byte that was looked at -/
structure LocC (st : Bool) (F : Str → R (α × Str)) : Prop where
  ok : ∀ r a r', F r = .ok (a, r') → OkAt F r a r'
  er : ∀ r rem e, F r = .er rem e → e = 2 ∨ e = 4 → (rem = r.length + 1 ∧ ∀ q', F q' = .er (q'.length + 1) e) ∨ ErAt st F r rem e
structure Loc (st : Bool) (F : Str → R (α × Str)) : Prop where
  nil : F [] = .er 0 3
  ok : ∀ r a r', F r = .ok (a, r') → OkAt F r a r'
  er : ∀ r rem e, F r = .er rem e → e = 2 ∨ e = 4 → ErAt st F r rem e
theorem Loc.c {st : Bool} {F : Str → R (α × Str)} (h : Loc st F) : LocC st F := ⟨h.ok, fun r k e hr he => Or.inr (h.er r k e hr he)⟩
def lookR (K : UInt8 → Str → R (α × Str)) : Str → R (α × Str)
  | [] => .er 0 3
  | c :: r => K c r
theorem Loc.look {st : Bool} {K : UInt8 → Str → R (α × Str)} (h : ∀ c, LocC st (K c)) : Loc st (lookR K) := by
  refine ⟨rfl, fun r a r' hr => ?_, fun r k e hr he => ?_⟩
  · cases r with
    | nil => cases hr
    | cons c r =>
      obtain ⟨p, hp, h2⟩ := (h c).ok r a r' hr
      exact ⟨c :: p, by rw [hp]; rfl, fun q' hq => h2 q' hq⟩
  · cases r with
    | nil => simp only [lookR] at hr; cases hr; omega
    | cons c r =>
      rcases (h c).er r k e hr he with ⟨h1, h2⟩ | ⟨p, d, q, h1, h2, h3, h4⟩
      · exact ⟨[], c, r, rfl, h1, fun q' => h2 q', Or.inl rfl⟩
      · exact ⟨c :: p, d, q, by rw [h1]; rfl, h2, fun q' => h3 q', h4⟩
theorem head_app {p2 q' r2 : Str} (h : q' = [] ∨ q'.head? = r2.head?) : p2 ++ q' = [] ∨ (p2 ++ q').head? = (p2 ++ r2).head? := by
  cases p2 with
  | nil => simpa using h
  | cons c p => exact Or.inr rfl
theorem head_cons (p2 : Str) (c : UInt8) (q q' : Str) : (p2 ++ c :: q').head? = (p2 ++ c :: q).head? := by cases p2 <;> rfl
theorem head_pre (p2 : Str) (c : UInt8) (q : Str) : p2 = [] ∨ p2.head? = (p2 ++ c :: q).head? := by
  cases p2 with
  | nil => exact Or.inl rfl
  | cons d p => exact Or.inr rfl
theorem Loc.bind {st st' : Bool} {F : Str → R (α × Str)} {K : Str → R (β × Str)} {G : α → Str → R (β × Str)} {P : α → Prop} (hF : Loc st F)
    (h1 : ∀ r k e, F r = .er k e → K r = .er k e) (h2 : ∀ r a r', F r = .ok (a, r') → P a → K r = G a r')
    (h3 : ∀ r a r', F r = .ok (a, r') → ¬ P a → ∃ k e, K r = .er k e ∧ ¬ (e = 2 ∨ e = 4)) (hG : ∀ a, P a → Loc st' (G a)) (hst : st = true ∨ ∀ p a, F p = .ok (a, []) → P a) : Loc st' K := by
  refine ⟨h1 [] 0 3 hF.nil, fun r b r2 hr => ?_, fun r k e hr he => ?_⟩
  · cases hFr : F r with
    | er k e => rw [h1 r k e hFr] at hr; cases hr
    | ok x =>
      obtain ⟨a, r1⟩ := x
      by_cases hP : P a
      · rw [h2 r a r1 hFr hP] at hr
        obtain ⟨p1, e1, f1⟩ := hF.ok r a r1 hFr
        obtain ⟨p2, e2, f2⟩ := (hG a hP).ok r1 b r2 hr
        refine ⟨p1 ++ p2, by rw [e1, e2, List.append_assoc], fun q' hq => ?_⟩
        rw [List.append_assoc, h2 _ _ _ (f1 (p2 ++ q') (by rw [e2]; exact head_app hq)) hP]
        exact f2 q' hq
      · obtain ⟨k, e, h, -⟩ := h3 r a r1 hFr hP
        rw [h] at hr; cases hr
  · cases hFr : F r with
    | er k' e' =>
      rw [h1 r k' e' hFr] at hr
      cases hr
      obtain ⟨p, c, q, g1, g2, g3, g4⟩ := hF.er r k e hFr he
      refine ⟨p, c, q, g1, g2, fun q' => h1 _ _ _ (g3 q'), ?_⟩
      rcases g4 with g4 | ⟨hs, a, g4⟩
      · exact Or.inl (h1 _ _ _ g4)
      · rcases hst with h | h
        · rw [hs] at h; cases h
        · exact Or.inl (by rw [h2 _ _ _ g4 (h p a g4), (hG a (h p a g4)).nil])
    | ok x =>
      obtain ⟨a, r1⟩ := x
      by_cases hP : P a
      · rw [h2 r a r1 hFr hP] at hr
        obtain ⟨p1, e1, f1⟩ := hF.ok r a r1 hFr
        obtain ⟨p2, c, q, g1, g2, g3, g4⟩ := (hG a hP).er r1 k e hr he
        refine ⟨p1 ++ p2, c, q, by rw [e1, g1, List.append_assoc], g2, fun q' => ?_, ?_⟩
        · rw [List.append_assoc, h2 _ _ _ (f1 (p2 ++ c :: q') (Or.inr (by rw [g1]; exact head_cons p2 c q q'))) hP]
          exact g3 q'
        · rw [h2 _ _ _ (f1 p2 (by rw [g1]; exact head_pre p2 c q)) hP]
          exact g4
      · obtain ⟨k', e', h, hn⟩ := h3 r a r1 hFr hP
        rw [h] at hr; cases hr; exact absurd he hn
def mp (g : α → β) : R (α × Str) → R (β × Str)
  | .er a b => .er a b
  | .ok (a, r) => .ok (g a, r)
theorem OkAt.map {g : α → β} {F : Str → R (α × Str)} {r : Str} {b : β} {r' : Str} (h : ∀ a, F r = .ok (a, r') → OkAt F r a r') (hr : mp g (F r) = .ok (b, r')) : OkAt (fun r => mp g (F r)) r b r' := by
  cases hF : F r with
  | er k e => rw [hF] at hr; cases hr
  | ok x =>
    obtain ⟨a, r1⟩ := x
    rw [hF] at hr
    cases hr
    obtain ⟨p, e, f⟩ := h a hF
    exact ⟨p, e, fun q' hq => by simp only; rw [f q' hq]; rfl⟩
theorem ErAt.map {st : Bool} (g : α → β) {F : Str → R (α × Str)} {r : Str} {k : Nat} {e : Int} (h : ErAt st F r k e) : ErAt st (fun r => mp g (F r)) r k e := by
  obtain ⟨p, c, q, g1, g2, g3, g4⟩ := h
  refine ⟨p, c, q, g1, g2, fun q' => by simp only; rw [g3 q']; rfl, ?_⟩
  rcases g4 with g4 | ⟨hs, a, g4⟩
  · exact Or.inl (by simp only; rw [g4]; rfl)
  · exact Or.inr ⟨hs, g a, by simp only; rw [g4]; rfl⟩
theorem mp_er {g : α → β} {x : R (α × Str)} {k : Nat} {e : Int} (h : mp g x = .er k e) : x = .er k e := by
  cases x with
  | er a b => simp only [mp] at h; cases h; rfl
  | ok y => obtain ⟨a, r⟩ := y; cases h
theorem Loc.map {st : Bool} (g : α → β) {F : Str → R (α × Str)} (h : Loc st F) : Loc st (fun r => mp g (F r)) :=
  ⟨by rw [h.nil]; rfl, fun r b r' hr => OkAt.map (fun a => h.ok r a r') hr, fun r k e hr he => (h.er r k e (mp_er hr) he).map g⟩
theorem LocC.map {st : Bool} (g : α → β) {F : Str → R (α × Str)} (h : LocC st F) : LocC st (fun r => mp g (F r)) :=
  ⟨fun r b r' hr => OkAt.map (fun a => h.ok r a r') hr, fun r k e hr he => by
    rcases h.er r k e (mp_er hr) he with ⟨h1, h2⟩ | h1
    · exact Or.inl ⟨h1, fun q' => by rw [h2 q']; rfl⟩
    · exact Or.inr (h1.map g)⟩
theorem LocC.ret (st : Bool) (a : α) : LocC st (fun r => R.ok (a, r)) :=
  ⟨fun r b r' hr => by cases hr; exact ⟨[], rfl, fun q' _ => rfl⟩, fun r k e hr => by cases hr⟩
theorem LocC.fail (st : Bool) (e : Int) : LocC st (fun r => (R.er (r.length + 1) e : R (α × Str))) :=
  ⟨fun r b r' hr => by (cases hr), fun r k e' hr _ => by cases hr; exact Or.inl ⟨rfl, fun q' => rfl⟩⟩
theorem LocC.loose {F : Str → R (α × Str)} {st : Bool} (h : LocC true F) : LocC st F :=
  ⟨h.ok, fun r k e hr he => by
    rcases h.er r k e hr he with h1 | ⟨p, c, q, g1, g2, g3, g4⟩
    · exact Or.inl h1
    · refine Or.inr ⟨p, c, q, g1, g2, g3, ?_⟩
      rcases g4 with g4 | ⟨hs, -⟩
      · exact Or.inl g4
      · cases hs⟩
theorem LocC.incl {st : Bool} {G : Str → R (α × Str)} {c : UInt8} (hG : Loc st G) (hne : ∀ r1 a r', G (c :: r1) = .ok (a, r') → r'.length ≤ r1.length) : LocC st (fun r1 => G (c :: r1)) := by
  refine ⟨fun r1 a r' hr => ?_, fun r1 k e hr he => ?_⟩
  · obtain ⟨p, e, f⟩ := hG.ok _ a r' hr
    cases p with
    | nil => have := hne r1 a r' hr; rw [List.nil_append] at e; rw [← e] at this; simp at this; omega
    | cons d p =>
      rw [List.cons_append] at e
      cases e
      exact ⟨p, rfl, fun q' hq => f q' hq⟩
  · obtain ⟨p, d, q, g1, g2, g3, g4⟩ := hG.er _ k e hr he
    cases p with
    | nil =>
      rw [List.nil_append] at g1
      cases g1
      exact Or.inl ⟨g2, fun q' => g3 q'⟩
    | cons d' p =>
      rw [List.cons_append] at g1
      cases g1
      exact Or.inr ⟨p, d, q, rfl, g2, fun q' => g3 q', g4⟩
theorem skp_step {c : UInt8} {r : Str} (h : blk c = true) : skp (c :: r) = skp r := by simp [skp, h]
theorem skp_split (r : Str) : ∃ ws, r = ws ++ skp r ∧ ∀ x, skp (ws ++ x) = skp x := by
  induction r with
  | nil => exact ⟨[], rfl, fun _ => rfl⟩
  | cons c r ih =>
    cases h : blk c
    · exact ⟨[], by rw [skp_cons h]; rfl, fun _ => rfl⟩
    · obtain ⟨ws, e, f⟩ := ih
      exact ⟨c :: ws, by rw [skp_step h, List.cons_append, ← e], fun x => by rw [List.cons_append, skp_step h, f x]⟩
theorem skp_head {c : UInt8} : ∀ {r : Str}, (skp r).head? = some c → blk c = false := by
  intro r
  induction r with
  | nil => intro h; cases h
  | cons d r ih =>
    intro h
    cases hd : blk d
    · rw [skp_cons hd] at h; cases h; exact hd
    · rw [skp_step hd] at h; exact ih h
theorem skp_fix {r x : Str} (h : x = [] ∨ x.head? = (skp r).head?) : skp x = x := by
  cases x with
  | nil => rfl
  | cons c x =>
    rcases h with h | h
    · cases h
    · exact skp_cons (skp_head h.symm)
theorem Loc.sk {st : Bool} {F : Str → R (α × Str)} (hF : Loc st F) : Loc st (fun r => F (skp r)) := by
  refine ⟨hF.nil, fun r a r' hr => ?_, fun r k e hr he => ?_⟩
  · obtain ⟨ws, ew, fw⟩ := skp_split r
    obtain ⟨p, e, f⟩ := hF.ok _ a r' hr
    refine ⟨ws ++ p, by rw [List.append_assoc, ← e]; exact ew, fun q' hq => ?_⟩
    simp only [List.append_assoc]
    rw [fw, skp_fix (r := r) (by rw [e]; exact head_app hq)]
    exact f q' hq
  · obtain ⟨ws, ew, fw⟩ := skp_split r
    obtain ⟨p, c, q, g1, g2, g3, g4⟩ := hF.er _ k e hr he
    refine ⟨ws ++ p, c, q, by rw [List.append_assoc, ← g1]; exact ew, g2, fun q' => ?_, ?_⟩
    · simp only [List.append_assoc]
      rw [fw, skp_fix (r := r) (Or.inr (by rw [g1]; exact head_cons p c q q'))]
      exact g3 q'
    · simp only
      rw [fw, skp_fix (r := r) (by rw [g1]; exact head_pre p c q)]
      exact g4
end
end Go.Proofs.YtjpmnlefjmdelaaDoor
