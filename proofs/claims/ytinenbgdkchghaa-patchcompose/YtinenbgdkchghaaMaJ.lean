/- Value trees: sizes, depths, the order: plain mathematics. Valid strings, names and values: plain mathematics. -/
import Derived.Lib.Bytealg
set_option linter.unusedSimpArgs false
set_option linter.unusedVariables false
namespace Go.Proofs.Ytinenbgdkchghaa

abbrev Str := List UInt8

inductive T where
  | mk (k n : Int) (s : Str) (l : List T) (f : List (Str × T))

mutual
def T.size : T → Int
  | .mk _ _ _ l f => 1 + sizeL l + sizeF f
def sizeL : List T → Int
  | [] => 0
  | t :: r => t.size + sizeL r
def sizeF : List (Str × T) → Int
  | [] => 0
  | (_, t) :: r => t.size + sizeF r
end
mutual
def T.depth : T → Int
  | .mk _ _ _ l f => 1 + max (depthL l) (depthF f)
def depthL : List T → Int
  | [] => 0
  | t :: r => max t.depth (depthL r)
def depthF : List (Str × T) → Int
  | [] => 0
  | (_, t) :: r => max t.depth (depthF r)
end
mutual
/-- every string in the tree is short -/
def T.nice : T → Prop
  | .mk _ _ s l f => s.length ≤ 4000 ∧ niceL l ∧ niceF f
def niceL : List T → Prop
  | [] => True
  | t :: r => t.nice ∧ niceL r
def niceF : List (Str × T) → Prop
  | [] => True
  | (x, t) :: r => x.length ≤ 4000 ∧ t.nice ∧ niceF r
end

theorem sizeOf_l {k n : Int} {s : Str} {l : List T} {f : List (Str × T)} {t : T} (h : t ∈ l) : SizeOf.sizeOf t < SizeOf.sizeOf (T.mk k n s l f) := by
  have := List.sizeOf_lt_of_mem h
  simp; omega
theorem sizeOf_f {k n : Int} {s : Str} {l : List T} {f : List (Str × T)} {p : Str × T} (h : p ∈ f) : SizeOf.sizeOf p.2 < SizeOf.sizeOf (T.mk k n s l f) := by
  have := List.sizeOf_lt_of_mem h
  obtain ⟨a, b⟩ := p
  simp at this ⊢; omega

theorem sizeL_append (a b : List T) : sizeL (a ++ b) = sizeL a + sizeL b := by
  induction a with
  | nil => simp [sizeL]
  | cons x a ih => simp [sizeL, ih]; omega
theorem sizeF_append (a b : List (Str × T)) : sizeF (a ++ b) = sizeF a + sizeF b := by
  induction a with
  | nil => simp [sizeF]
  | cons x a ih => obtain ⟨x, t⟩ := x; simp [sizeF, ih]; omega
theorem depthL_append (a b : List T) : depthL (a ++ b) = max (depthL a) (depthL b) := by
  induction a with
  | nil => simp [depthL]; cases b with
    | nil => simp [depthL]
    | cons x b =>
      have : ∀ l : List T, 0 ≤ depthL l := fun l => by
        induction l with
        | nil => simp [depthL]
        | cons x l ih => simp [depthL]; omega
      have := this (x :: b); omega
  | cons x a ih => simp [depthL, ih, Int.max_assoc]
theorem depthL_nonneg (l : List T) : 0 ≤ depthL l := by
  induction l with
  | nil => simp [depthL]
  | cons x l ih => simp [depthL]; omega
theorem depthF_nonneg (l : List (Str × T)) : 0 ≤ depthF l := by
  induction l with
  | nil => simp [depthF]
  | cons x l ih => obtain ⟨x, t⟩ := x; simp [depthF]; omega
theorem depthF_append (a b : List (Str × T)) : depthF (a ++ b) = max (depthF a) (depthF b) := by
  induction a with
  | nil => have := depthF_nonneg b; simp [depthF]; omega
  | cons x a ih => obtain ⟨x, t⟩ := x; simp [depthF, ih, Int.max_assoc]
theorem niceL_append (a b : List T) : niceL (a ++ b) ↔ niceL a ∧ niceL b := by
  induction a with
  | nil => simp [niceL]
  | cons x a ih => simp [niceL, ih, and_assoc]
theorem niceF_append (a b : List (Str × T)) : niceF (a ++ b) ↔ niceF a ∧ niceF b := by
  induction a with
  | nil => simp [niceF]
  | cons x a ih => obtain ⟨x, t⟩ := x; simp [niceF, ih, and_assoc]
theorem take_snoc {α : Type} {l : List α} {k : Nat} {c : α} (h : l[k]? = some c) : l.take (k + 1) = l.take k ++ [c] := by
  obtain ⟨hk, rfl⟩ := List.getElem?_eq_some_iff.1 h
  exact List.take_succ_eq_append_getElem hk
theorem sizeL_succ {l : List T} {k : Nat} {t : T} (h : l[k]? = some t) : sizeL (l.take (k + 1)) = sizeL (l.take k) + t.size := by
  rw [take_snoc h, sizeL_append]; simp [sizeL]
theorem sizeF_succ {l : List (Str × T)} {k : Nat} {p : Str × T} (h : l[k]? = some p) : sizeF (l.take (k + 1)) = sizeF (l.take k) + p.2.size := by
  rw [take_snoc h, sizeF_append]; obtain ⟨x, t⟩ := p; simp [sizeF]
theorem depthL_succ {l : List T} {k : Nat} {t : T} (h : l[k]? = some t) : depthL (l.take (k + 1)) = max (depthL (l.take k)) t.depth := by
  rw [take_snoc h, depthL_append]; simp [depthL]; have := depthL_nonneg (l.take k); omega
theorem depthF_succ {l : List (Str × T)} {k : Nat} {p : Str × T} (h : l[k]? = some p) : depthF (l.take (k + 1)) = max (depthF (l.take k)) p.2.depth := by
  rw [take_snoc h, depthF_append]; obtain ⟨x, t⟩ := p; simp [depthF]; have := depthF_nonneg (l.take k); omega
theorem niceL_succ {l : List T} {k : Nat} {t : T} (h : l[k]? = some t) : niceL (l.take (k + 1)) ↔ niceL (l.take k) ∧ t.nice := by
  rw [take_snoc h, niceL_append]; simp [niceL]
theorem niceF_succ {l : List (Str × T)} {k : Nat} {p : Str × T} (h : l[k]? = some p) : niceF (l.take (k + 1)) ↔ niceF (l.take k) ∧ p.1.length ≤ 4000 ∧ p.2.nice := by
  rw [take_snoc h, niceF_append]; obtain ⟨x, t⟩ := p; simp [niceF]

theorem size_pos_aux : ∀ (N : Nat) (t : T), SizeOf.sizeOf t ≤ N → 1 ≤ t.size := by
  intro N
  induction N with
  | zero => intro t h; cases t; simp at h
  | succ N ih =>
    rintro ⟨k, n, s, l, f⟩ h
    have hl : ∀ l' : List T, (∀ t ∈ l', SizeOf.sizeOf t ≤ N) → 0 ≤ sizeL l' := fun l' => by
      induction l' with
      | nil => simp [sizeL]
      | cons a l' ih' =>
        intro hs
        have := ih a (hs a (by simp)); have := ih' (fun t ht => hs t (by simp [ht]))
        simp [sizeL]; omega
    have hf : ∀ l' : List (Str × T), (∀ t ∈ l', SizeOf.sizeOf t.2 ≤ N) → 0 ≤ sizeF l' := fun l' => by
      induction l' with
      | nil => simp [sizeF]
      | cons a l' ih' =>
        intro hs
        have := ih a.2 (hs a (by simp)); have := ih' (fun t ht => hs t (by simp [ht]))
        obtain ⟨x, a⟩ := a
        simp [sizeF] at *; omega
    have h1 := hl l (fun t ht => by have := sizeOf_l (k := k) (n := n) (s := s) (f := f) ht; omega)
    have h2 := hf f (fun t ht => by have := sizeOf_f (k := k) (n := n) (s := s) (l := l) ht; omega)
    simp [T.size]; omega
theorem size_pos (t : T) : 1 ≤ t.size := size_pos_aux _ t (Nat.le_refl _)
theorem sizeL_nonneg (l : List T) : 0 ≤ sizeL l := by
  induction l with
  | nil => simp [sizeL]
  | cons a l ih => have := size_pos a; simp [sizeL]; omega
theorem sizeF_nonneg (l : List (Str × T)) : 0 ≤ sizeF l := by
  induction l with
  | nil => simp [sizeF]
  | cons a l ih => obtain ⟨x, a⟩ := a; have := size_pos a; simp [sizeF]; omega
theorem len_sizeL (l : List T) : (l.length : Int) ≤ sizeL l := by
  induction l with
  | nil => simp [sizeL]
  | cons a l ih => have := size_pos a; simp [sizeL]; omega
theorem len_sizeF (l : List (Str × T)) : (l.length : Int) ≤ sizeF l := by
  induction l with
  | nil => simp [sizeF]
  | cons a l ih => obtain ⟨x, a⟩ := a; have := size_pos a; simp [sizeF]; omega
theorem sizeL_take (l : List T) (k : Nat) : sizeL (l.take k) ≤ sizeL l := by
  have := sizeL_append (l.take k) (l.drop k); rw [List.take_append_drop] at this
  have := sizeL_nonneg (l.drop k); omega
theorem sizeF_take (l : List (Str × T)) (k : Nat) : sizeF (l.take k) ≤ sizeF l := by
  have := sizeF_append (l.take k) (l.drop k); rw [List.take_append_drop] at this
  have := sizeF_nonneg (l.drop k); omega
theorem size_mem_l {l : List T} {t : T} {i : Nat} (h : l[i]? = some t) : t.size ≤ sizeL l := by
  have h1 := sizeL_succ h; have := sizeL_take l (i + 1); have := sizeL_nonneg (l.take i); omega
theorem size_mem_f {l : List (Str × T)} {p : Str × T} {i : Nat} (h : l[i]? = some p) : p.2.size ≤ sizeF l := by
  have h1 := sizeF_succ h; have := sizeF_take l (i + 1); have := sizeF_nonneg (l.take i); omega
theorem nice_mem_l {l : List T} {t : T} {i : Nat} (h : l[i]? = some t) (hn : niceL l) : t.nice := by
  have e := List.take_append_drop (i + 1) l
  rw [← e, niceL_append, niceL_succ h] at hn; exact hn.1.2
theorem nice_mem_f {l : List (Str × T)} {p : Str × T} {i : Nat} (h : l[i]? = some p) (hn : niceF l) : p.1.length ≤ 4000 ∧ p.2.nice := by
  have e := List.take_append_drop (i + 1) l
  rw [← e, niceF_append, niceF_succ h] at hn; exact hn.1.2
theorem depth_le_aux : ∀ (N : Nat) (t : T), SizeOf.sizeOf t ≤ N → 1 ≤ t.depth ∧ t.depth ≤ t.size := by
  intro N
  induction N with
  | zero => intro t h; cases t; simp at h
  | succ N ih =>
    rintro ⟨k, n, s, l, f⟩ h
    have hl : ∀ l' : List T, (∀ t ∈ l', SizeOf.sizeOf t ≤ N) → depthL l' ≤ sizeL l' := fun l' => by
      induction l' with
      | nil => simp [sizeL, depthL]
      | cons a l' ih' =>
        intro hs
        have := ih a (hs a (by simp)); have := ih' (fun t ht => hs t (by simp [ht]))
        have := sizeL_nonneg l'
        simp [sizeL, depthL]; omega
    have hf : ∀ l' : List (Str × T), (∀ t ∈ l', SizeOf.sizeOf t.2 ≤ N) → depthF l' ≤ sizeF l' := fun l' => by
      induction l' with
      | nil => simp [sizeF, depthF]
      | cons a l' ih' =>
        intro hs
        have := ih a.2 (hs a (by simp)); have := ih' (fun t ht => hs t (by simp [ht]))
        have := sizeF_nonneg l'
        obtain ⟨x, a⟩ := a
        simp [sizeF, depthF] at *; omega
    have h1 := hl l (fun t ht => by have := sizeOf_l (k := k) (n := n) (s := s) (f := f) ht; omega)
    have h2 := hf f (fun t ht => by have := sizeOf_f (k := k) (n := n) (s := s) (l := l) ht; omega)
    have := depthL_nonneg l; have := depthF_nonneg f
    have := sizeL_nonneg l; have := sizeF_nonneg f
    simp [T.size, T.depth]; omega
theorem depth_pos (t : T) : 1 ≤ t.depth := (depth_le_aux _ t (Nat.le_refl _)).1
theorem depth_le (t : T) : t.depth ≤ t.size := (depth_le_aux _ t (Nat.le_refl _)).2
theorem depthL_le (l : List T) : depthL l ≤ sizeL l := by
  induction l with
  | nil => simp [sizeL, depthL]
  | cons a l ih => have := depth_le a; have := size_pos a; have := sizeL_nonneg l; simp [sizeL, depthL]; omega
theorem depthF_le (l : List (Str × T)) : depthF l ≤ sizeF l := by
  induction l with
  | nil => simp [sizeF, depthF]
  | cons a l ih => obtain ⟨x, a⟩ := a; have := depth_le a; have := size_pos a; have := sizeF_nonneg l; simp [sizeF, depthF]; omega

/- the order -/
def cmpI (a b : Int) : Int := if a < b then -1 else if b < a then 1 else 0
abbrev cmpS (a b : Str) : Int := Lib.compareBytes a b
def lexi (a b : Int) : Int := if a = 0 then b else a
def lexL {α : Type} (c : α → α → Int) : List α → List α → Int
  | [], [] => 0
  | [], _ :: _ => -1
  | _ :: _, [] => 1
  | a :: l, b :: l' => lexi (c a b) (lexL c l l')
mutual
def cmpT : T → T → Int
  | .mk k n s l f, .mk k' n' s' l' f' => lexi (cmpI k k') (lexi (cmpI n n') (lexi (cmpS s s') (lexi (cmpL l l') (cmpF f f'))))
def cmpL : List T → List T → Int
  | [], [] => 0
  | [], _ :: _ => -1
  | _ :: _, [] => 1
  | a :: l, b :: l' => lexi (cmpT a b) (cmpL l l')
def cmpF : List (Str × T) → List (Str × T) → Int
  | [], [] => 0
  | [], _ :: _ => -1
  | _ :: _, [] => 1
  | (x, a) :: l, (y, b) :: l' => lexi (lexi (cmpS x y) (cmpT a b)) (cmpF l l')
end
def cmpP (p q : Str × T) : Int := lexi (cmpS p.1 q.1) (cmpT p.2 q.2)
theorem cmpL_eq : ∀ l l' : List T, cmpL l l' = lexL cmpT l l' := by
  intro l
  induction l with
  | nil => intro l'; cases l' <;> simp [cmpL, lexL]
  | cons a l ih => intro l'; cases l' <;> simp [cmpL, lexL, ih]
theorem cmpF_eq : ∀ l l' : List (Str × T), cmpF l l' = lexL cmpP l l' := by
  intro l
  induction l with
  | nil => intro l'; cases l' <;> simp [cmpF, lexL]
  | cons a l ih => intro l'; obtain ⟨x, a⟩ := a; cases l' with
    | nil => simp [cmpF, lexL]
    | cons b l' => obtain ⟨y, b⟩ := b; simp [cmpF, lexL, ih, cmpP]

structure Good {α : Type} (D : α → Prop) (c : α → α → Int) : Prop where
  tri : ∀ a b, D a → D b → c a b = -1 ∨ c a b = 0 ∨ c a b = 1
  anti : ∀ a b, D a → D b → c b a = - c a b
  eq : ∀ a b, D a → D b → c a b = 0 → a = b
  trans : ∀ a b d, D a → D b → D d → c a b = -1 → c b d = -1 → c a d = -1
theorem Good.refl {α : Type} {D : α → Prop} {c : α → α → Int} (h : Good D c) (a : α) (ha : D a) : c a a = 0 := by have := h.anti a a ha ha; omega

theorem good_int : Good (fun _ => True) cmpI := by
  refine ⟨?_, ?_, ?_, ?_⟩
  · intro a b _ _; unfold cmpI; omega
  · intro a b _ _; unfold cmpI; omega
  · intro a b _ _ h; unfold cmpI at h; omega
  · intro a b d _ _ _ h h'; unfold cmpI at *; omega
theorem good_pair {α β : Type} {D : α → Prop} {E : β → Prop} {c : α → α → Int} {e : β → β → Int} (hc : Good D c) (he : Good E e) :
    Good (fun p : α × β => D p.1 ∧ E p.2) (fun p q => lexi (c p.1 q.1) (e p.2 q.2)) := by
  refine ⟨?_, ?_, ?_, ?_⟩
  · rintro ⟨a, x⟩ ⟨b, y⟩ ⟨h1, h2⟩ ⟨h3, h4⟩
    have := hc.tri a b h1 h3; have := he.tri x y h2 h4
    unfold lexi; simp only at *; split <;> assumption
  · rintro ⟨a, x⟩ ⟨b, y⟩ ⟨h1, h2⟩ ⟨h3, h4⟩
    have := hc.anti a b h1 h3; have := he.anti x y h2 h4
    unfold lexi; simp only at *; split <;> split <;> omega
  · rintro ⟨a, x⟩ ⟨b, y⟩ ⟨h1, h2⟩ ⟨h3, h4⟩ h
    unfold lexi at h; simp only at *; split at h
    · rename_i h0; rw [hc.eq a b h1 h3 h0, he.eq x y h2 h4 h]
    · contradiction
  · rintro ⟨a, x⟩ ⟨b, y⟩ ⟨d, z⟩ ⟨h1, h2⟩ ⟨h3, h4⟩ ⟨h5, h6⟩ h h'
    unfold lexi at *; simp only at *
    by_cases e1 : c a b = 0
    · have := hc.eq a b h1 h3 e1; subst this
      rw [if_pos e1] at h
      by_cases e2 : c a d = 0
      · rw [if_pos e2] at h' ⊢; exact he.trans x y z h2 h4 h6 h h'
      · rw [if_neg e2] at h' ⊢; exact h'
    · rw [if_neg e1] at h
      by_cases e2 : c b d = 0
      · have := hc.eq b d h3 h5 e2; subst this
        rw [if_neg e1]; exact h
      · rw [if_neg e2] at h'
        have := hc.trans a b d h1 h3 h5 h h'
        rw [if_neg (by omega)]; exact this
theorem good_list {α : Type} {D : α → Prop} {c : α → α → Int} (hc : Good D c) : Good (fun l : List α => ∀ x ∈ l, D x) (lexL c) := by
  have tri : ∀ a b : List α, (∀ x ∈ a, D x) → (∀ x ∈ b, D x) → lexL c a b = -1 ∨ lexL c a b = 0 ∨ lexL c a b = 1 := by
    intro a
    induction a with
    | nil => intro b; cases b <;> simp [lexL]
    | cons x a ih =>
      intro b; cases b with
      | nil => simp [lexL]
      | cons y b =>
        intro h1 h2
        have := hc.tri x y (h1 x (by simp)) (h2 y (by simp)); have := ih b (fun x hx => h1 x (by simp [hx])) (fun x hx => h2 x (by simp [hx]))
        simp only [lexL, lexi]; split <;> assumption
  have anti : ∀ a b : List α, (∀ x ∈ a, D x) → (∀ x ∈ b, D x) → lexL c b a = - lexL c a b := by
    intro a
    induction a with
    | nil => intro b; cases b <;> simp [lexL]
    | cons x a ih =>
      intro b; cases b with
      | nil => simp [lexL]
      | cons y b =>
        intro h1 h2
        have := hc.anti x y (h1 x (by simp)) (h2 y (by simp)); have := ih b (fun x hx => h1 x (by simp [hx])) (fun x hx => h2 x (by simp [hx]))
        simp only [lexL, lexi]; split <;> split <;> omega
  have heq : ∀ a b : List α, (∀ x ∈ a, D x) → (∀ x ∈ b, D x) → lexL c a b = 0 → a = b := by
    intro a
    induction a with
    | nil => intro b; cases b <;> simp [lexL]
    | cons x a ih =>
      intro b; cases b with
      | nil => simp [lexL]
      | cons y b =>
        intro h1 h2 h
        simp only [lexL, lexi] at h
        split at h
        · rename_i h0
          rw [hc.eq x y (h1 x (by simp)) (h2 y (by simp)) h0, ih b (fun x hx => h1 x (by simp [hx])) (fun x hx => h2 x (by simp [hx])) h]
        · contradiction
  refine ⟨tri, anti, heq, ?_⟩
  intro a
  induction a with
  | nil => intro b d _ _ _ h h'; cases b <;> cases d <;> simp [lexL] at *
  | cons x a ih =>
    intro b d h1 h2 h3 h h'
    cases b with
    | nil => cases d <;> simp [lexL] at *
    | cons y b => cases d with
      | nil => simp [lexL] at *
      | cons z d =>
        have k1 := h1 x (by simp); have k2 := h2 y (by simp); have k3 := h3 z (by simp)
        simp only [lexL, lexi] at *
        by_cases e1 : c x y = 0
        · have := hc.eq x y k1 k2 e1; subst this
          rw [if_pos e1] at h
          by_cases e2 : c x z = 0
          · rw [if_pos e2] at h' ⊢
            exact ih b d (fun x hx => h1 x (by simp [hx])) (fun x hx => h2 x (by simp [hx])) (fun x hx => h3 x (by simp [hx])) h h'
          · rw [if_neg e2] at h' ⊢; exact h'
        · rw [if_neg e1] at h
          by_cases e2 : c y z = 0
          · have := hc.eq y z k2 k3 e2; subst this
            rw [if_neg e1]; exact h
          · rw [if_neg e2] at h'
            have := hc.trans x y z k1 k2 k3 h h'
            rw [if_neg (by omega)]; exact this
theorem Good.comap {α β : Type} {D : α → Prop} {c : α → α → Int} (hc : Good D c) (g : β → α) (hg : ∀ a b, g a = g b → a = b) : Good (fun b => D (g b)) (fun a b => c (g a) (g b)) :=
  ⟨fun _ _ => hc.tri _ _, fun _ _ => hc.anti _ _, fun _ _ h1 h2 h => hg _ _ (hc.eq _ _ h1 h2 h), fun _ _ _ => hc.trans _ _ _⟩
theorem Good.mono {α : Type} {D E : α → Prop} {c : α → α → Int} (hc : Good D c) (h : ∀ a, E a → D a) : Good E c :=
  ⟨fun _ _ x y => hc.tri _ _ (h _ x) (h _ y), fun _ _ x y => hc.anti _ _ (h _ x) (h _ y), fun _ _ x y => hc.eq _ _ (h _ x) (h _ y), fun _ _ _ x y z => hc.trans _ _ _ (h _ x) (h _ y) (h _ z)⟩

def cmpB (a b : UInt8) : Int := if a < b then -1 else if b < a then 1 else 0
theorem good_byte : Good (fun _ => True) cmpB := by
  have e : cmpB = fun a b => cmpI (a.toNat : Int) (b.toNat : Int) := by
    funext a b; unfold cmpB cmpI; simp only [UInt8.lt_iff_toNat_lt, Int.ofNat_lt]
  rw [e]
  exact good_int.comap (fun a : UInt8 => (a.toNat : Int)) (fun a b h => UInt8.toNat_inj.1 (by omega))
theorem cmpS_eq : ∀ a b : Str, cmpS a b = lexL cmpB a b := by
  intro a
  induction a with
  | nil => intro b; cases b <;> simp [Lib.compareBytes, lexL]
  | cons x a ih => intro b; cases b with
    | nil => simp [Lib.compareBytes, lexL]
    | cons y b =>
      have := ih b
      simp only [cmpS] at this
      simp only [cmpS, Lib.compareBytes, lexL, lexi, cmpB, this]
      split
      · rfl
      · split <;> rfl
theorem good_str : Good (fun _ => True) cmpS := by
  have e : cmpS = lexL cmpB := by funext a b; exact cmpS_eq a b
  rw [e]; exact (good_list good_byte).mono (fun _ _ _ _ => trivial)

def T.parts : T → Int × Int × Str × List T × List (Str × T) | .mk k n s l f => (k, n, s, l, f)
theorem good_aux : ∀ N : Nat, Good (fun t : T => SizeOf.sizeOf t ≤ N) cmpT := by
  intro N
  induction N with
  | zero =>
    have no : ∀ t : T, ¬ SizeOf.sizeOf t ≤ 0 := by rintro ⟨k, n, s, l, f⟩; simp
    exact ⟨fun a _ h => absurd h (no a), fun a _ h => absurd h (no a), fun a _ h => absurd h (no a), fun a _ _ h => absurd h (no a)⟩
  | succ N ih =>
    have hL := good_list ih
    have hF := good_list (good_pair good_str ih)
    have h := (good_pair good_int (good_pair good_int (good_pair good_str (good_pair hL hF)))).comap T.parts (fun a b h => by cases a; cases b; simp [T.parts] at h; simp [h])
    have e : cmpT = fun a b => lexi (cmpI (T.parts a).1 (T.parts b).1) (lexi (cmpI (T.parts a).2.1 (T.parts b).2.1) (lexi (cmpS (T.parts a).2.2.1 (T.parts b).2.2.1) (lexi (lexL cmpT (T.parts a).2.2.2.1 (T.parts b).2.2.2.1) (lexL (fun p q => lexi (cmpS p.1 q.1) (cmpT p.2 q.2)) (T.parts a).2.2.2.2 (T.parts b).2.2.2.2)))) := by
      funext a b; cases a; cases b
      rw [cmpT, cmpL_eq, cmpF_eq]; rfl
    have h2 := h.mono (E := fun t : T => SizeOf.sizeOf t ≤ N + 1) (by
      rintro ⟨k, n, s, l, f⟩ hs
      refine ⟨trivial, trivial, trivial, fun x hx => ?_, fun x hx => ⟨trivial, ?_⟩⟩
      · have := sizeOf_l (k := k) (n := n) (s := s) (f := f) (l := l) hx; omega
      · have := sizeOf_f (k := k) (n := n) (s := s) (l := l) (f := f) hx; omega)
    rw [← e] at h2
    exact h2
theorem cmpT_tri (a b : T) : cmpT a b = -1 ∨ cmpT a b = 0 ∨ cmpT a b = 1 := (good_aux (max (SizeOf.sizeOf a) (SizeOf.sizeOf b))).tri a b (by omega) (by omega)
theorem cmpT_anti (a b : T) : cmpT b a = - cmpT a b := (good_aux (max (SizeOf.sizeOf a) (SizeOf.sizeOf b))).anti a b (by omega) (by omega)
theorem cmpT_eq {a b : T} (h : cmpT a b = 0) : a = b := (good_aux (max (SizeOf.sizeOf a) (SizeOf.sizeOf b))).eq a b (by omega) (by omega) h
theorem cmpT_refl (a : T) : cmpT a a = 0 := (good_aux (SizeOf.sizeOf a)).refl a (Nat.le_refl _)
theorem cmpT_trans {a b c : T} (h : cmpT a b = -1) (h' : cmpT b c = -1) : cmpT a c = -1 := (good_aux (max (SizeOf.sizeOf a) (max (SizeOf.sizeOf b) (SizeOf.sizeOf c)))).trans a b c (by omega) (by omega) (by omega) h h'
theorem cmpS_refl (a : Str) : cmpS a a = 0 := good_str.refl a trivial
theorem cmpS_zero {a b : Str} (h : cmpS a b = 0) : a = b := good_str.eq a b trivial trivial h
end Go.Proofs.Ytinenbgdkchghaa
namespace Go.Proofs.Ytinenbgdkchghaa
section
variable {α : Type}
theorem get_some {l : List α} {k : Nat} (h : k < l.length) : l[k]? = some l[k] := List.getElem?_eq_getElem h
def AllTo (p : α → Bool) (l : List α) (k : Nat) : Prop := ∀ c ∈ l.take k, p c = true
theorem AllTo_zero (p : α → Bool) (l : List α) : AllTo p l 0 := by intro c hc; simp at hc
theorem AllTo_succ {p : α → Bool} {l : List α} {k : Nat} (h : AllTo p l k) (hk : k < l.length) (hd : p l[k] = true) : AllTo p l (k + 1) := by
  intro c hc
  rw [List.take_succ_eq_append_getElem hk, List.mem_append] at hc
  rcases hc with hc | hc
  · exact h c hc
  · simp at hc; rw [hc]; exact hd
theorem all_of {p : α → Bool} {l : List α} (h : AllTo p l l.length) : l.all p = true := by
  rw [AllTo, List.take_length] at h; simpa using h
theorem all_not {p : α → Bool} {l : List α} {k : Nat} (hk : k < l.length) (hd : p l[k] = false) : l.all p = false := by
  rw [List.all_eq_false]; exact ⟨l[k], List.getElem_mem hk, by simp [hd]⟩
end
def byteOk (c : UInt8) : Bool := decide (c.toNat = 10) || (decide (32 ≤ c.toNat) && decide (c.toNat ≤ 126))
def strOk (s : Str) : Bool := decide (s.length ≤ 200) && s.all byteOk
def nmByte (c : UInt8) : Bool := (decide (97 ≤ c.toNat) && decide (c.toNat ≤ 122)) || (decide (65 ≤ c.toNat) && decide (c.toNat ≤ 90)) || (decide (48 ≤ c.toNat) && decide (c.toNat ≤ 57)) || decide (c.toNat = 45) || decide (c.toNat = 95) || decide (c.toNat = 47)
def nameOk (s : Str) : Bool := decide (1 ≤ s.length) && decide (s.length ≤ 40) && s.all nmByte
theorem strOk_len {s : Str} (h : 200 < s.length) : strOk s = false := by unfold strOk; rw [decide_eq_false (by omega)]; rfl
theorem strOk_eq {s : Str} (h : ¬ 200 < s.length) : strOk s = s.all byteOk := by unfold strOk; rw [decide_eq_true (by omega)]; rfl
theorem strOk_bad {s : Str} (h : s.all byteOk = false) : strOk s = false := by unfold strOk; rw [h]; simp
theorem nameOk_len {s : Str} (h : s.length < 1 ∨ 40 < s.length) : nameOk s = false := by
  unfold nameOk; rcases h with h | h
  · rw [decide_eq_false (by omega)]; rfl
  · rw [decide_eq_false (p := s.length ≤ 40) (by omega)]; simp
theorem nameOk_eq {s : Str} (h : ¬ s.length < 1) (h' : ¬ 40 < s.length) : nameOk s = s.all nmByte := by unfold nameOk; rw [decide_eq_true (by omega), decide_eq_true (by omega)]; rfl
theorem nameOk_bad {s : Str} (h : s.all nmByte = false) : nameOk s = false := by unfold nameOk; rw [h]; simp

/-- byte order of names: the first comes before the second -/
def nmLt (a b : Str) : Bool := decide (cmpS a b = -1)
/-- the names of the first k fields are valid and strictly increasing -/
def NmTo (f : List (Str × T)) (k : Nat) : Prop := ∀ (i : Nat) (p : Str × T), i < k → f[i]? = some p → nameOk p.1 = true ∧ ∀ q, 0 < i → f[i - 1]? = some q → cmpS q.1 p.1 = -1
theorem NmTo.zero (f : List (Str × T)) : NmTo f 0 := fun i p h => absurd h (by omega)
theorem NmTo.succ {f : List (Str × T)} {k : Nat} {p : Str × T} (h : NmTo f k) (hp : f[k]? = some p) (h1 : nameOk p.1 = true) (h2 : ∀ q, 0 < k → f[k - 1]? = some q → cmpS q.1 p.1 = -1) : NmTo f (k + 1) := by
  intro i x hi hx
  by_cases hk : i = k
  · subst hk; rw [hp] at hx; cases hx; exact ⟨h1, h2⟩
  · exact h i x (by omega) hx
theorem NmTo.no {f : List (Str × T)} {k : Nat} {p : Str × T} (hp : f[k]? = some p) (h : nameOk p.1 = false) : ¬ NmTo f f.length := fun hn => by
  have := (hn k p (List.getElem?_eq_some_iff.1 hp).1 hp).1; rw [h] at this; cases this
theorem NmTo.no_lt {f : List (Str × T)} {k : Nat} {p q : Str × T} (hp : f[k]? = some p) (hk : 0 < k) (hq : f[k - 1]? = some q) (h : ¬ cmpS q.1 p.1 = -1) : ¬ NmTo f f.length := fun hn => h ((hn k p (List.getElem?_eq_some_iff.1 hp).1 hp).2 q hk hq)

/-- a value apart from its elements and fields -/
def Sc (k n : Int) (s : Str) : Prop := (k = 1 ∧ (n = 0 ∨ n = 1) ∧ s = []) ∨ (k = 2 ∧ -1000000000000000 ≤ n ∧ n ≤ 1000000000000000 ∧ s = []) ∨ (k = 3 ∧ n = 0 ∧ strOk s = true) ∨ ((k = 0 ∨ k = 4 ∨ k = 5) ∧ n = 0 ∧ s = [])
def Uses (k n : Int) (s : Str) (ln fn : Nat) : Prop := (n = 0 ∨ k = 1 ∨ k = 2) ∧ (s = [] ∨ k = 3) ∧ (ln = 0 ∨ k = 4) ∧ (fn = 0 ∨ k = 5)
def Mem (k n : Int) (s : Str) (ln : Nat) (f : List (Str × T)) : Prop := k = 0 ∨ (k = 1 ∧ (n = 0 ∨ n = 1)) ∨ (k = 2 ∧ -1000000000000000 ≤ n ∧ n ≤ 1000000000000000) ∨ (k = 3 ∧ strOk s = true) ∨ (k = 4 ∧ ln ≤ 64) ∨ (k = 5 ∧ f.length ≤ 64 ∧ NmTo f f.length)
/-- valid, with at most d levels, apart from its size -/
def Val : Nat → T → Prop
  | 0, _ => False
  | d + 1, .mk k n s l f => Sc k n s ∧ l.length ≤ 64 ∧ f.length ≤ 64 ∧ (k = 4 ∨ l.length = 0) ∧ (k = 5 ∨ f.length = 0) ∧ NmTo f f.length ∧ (∀ t ∈ l, Val d t) ∧ ∀ p ∈ f, Val d p.2
theorem nm_empty {f : List (Str × T)} (h : f.length = 0) : NmTo f f.length := by rw [h]; exact NmTo.zero f
theorem val_eq (d : Nat) (k n : Int) (s : Str) (l : List T) (f : List (Str × T)) : Val (d + 1) (.mk k n s l f) ↔ Uses k n s l.length f.length ∧ Mem k n s l.length f ∧ (∀ t ∈ l, Val d t) ∧ ∀ p ∈ f, Val d p.2 := by
  rw [Val]
  constructor
  · rintro ⟨h1, h2, h3, h4, h5, h6, h7, h8⟩
    refine ⟨?_, ?_, h7, h8⟩
    · unfold Uses; rcases h1 with ⟨a, b, c⟩ | ⟨a, b, b', c⟩ | ⟨a, b, c⟩ | ⟨a, b, c⟩
      · exact ⟨Or.inr (Or.inl a), Or.inl c, by omega, by omega⟩
      · exact ⟨Or.inr (Or.inr a), Or.inl c, by omega, by omega⟩
      · exact ⟨Or.inl b, Or.inr a, by omega, by omega⟩
      · exact ⟨Or.inl b, Or.inl c, by omega, by omega⟩
    · unfold Mem; rcases h1 with ⟨a, b, c⟩ | ⟨a, b, b', c⟩ | ⟨a, b, c⟩ | ⟨a | a | a, b, c⟩
      · exact Or.inr (Or.inl ⟨a, b⟩)
      · exact Or.inr (Or.inr (Or.inl ⟨a, b, b'⟩))
      · exact Or.inr (Or.inr (Or.inr (Or.inl ⟨a, c⟩)))
      · exact Or.inl a
      · exact Or.inr (Or.inr (Or.inr (Or.inr (Or.inl ⟨a, h2⟩))))
      · exact Or.inr (Or.inr (Or.inr (Or.inr (Or.inr ⟨a, h3, h6⟩))))
  · rintro ⟨⟨u1, u2, u3, u4⟩, hm, h7, h8⟩
    have hs : ¬ k = 3 → s = [] := fun h => by rcases u2 with h' | h'; exact h'; exact absurd h' h
    rcases hm with a | ⟨a, b⟩ | ⟨a, b, b'⟩ | ⟨a, b⟩ | ⟨a, b⟩ | ⟨a, b, b'⟩
    · exact ⟨Or.inr (Or.inr (Or.inr ⟨Or.inl a, by omega, hs (by omega)⟩)), by omega, by omega, by omega, by omega, nm_empty (by omega), h7, h8⟩
    · exact ⟨Or.inl ⟨a, b, hs (by omega)⟩, by omega, by omega, by omega, by omega, nm_empty (by omega), h7, h8⟩
    · exact ⟨Or.inr (Or.inl ⟨a, b, b', hs (by omega)⟩), by omega, by omega, by omega, by omega, nm_empty (by omega), h7, h8⟩
    · exact ⟨Or.inr (Or.inr (Or.inl ⟨a, by omega, b⟩)), by omega, by omega, by omega, by omega, nm_empty (by omega), h7, h8⟩
    · exact ⟨Or.inr (Or.inr (Or.inr ⟨Or.inr (Or.inl a), by omega, hs (by omega)⟩)), by omega, by omega, by omega, by omega, nm_empty (by omega), h7, h8⟩
    · exact ⟨Or.inr (Or.inr (Or.inr ⟨Or.inr (Or.inr a), by omega, hs (by omega)⟩)), by omega, by omega, by omega, by omega, b', h7, h8⟩
end Go.Proofs.Ytinenbgdkchghaa
