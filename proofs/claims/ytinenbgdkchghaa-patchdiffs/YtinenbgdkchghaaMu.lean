/- Maps of fields: plain mathematics. -/
import Derived.Test.YtinenbgdkchghaaMs
import Derived.Test.YtinenbgdkchghaaWpJ
set_option linter.unusedSimpArgs false
set_option linter.unusedVariables false
namespace Go.Proofs.Ytinenbgdkchghaa
theorem cmpS_tri (a b : Str) : cmpS a b = -1 ∨ cmpS a b = 0 ∨ cmpS a b = 1 := good_str.tri a b trivial trivial
theorem cmpS_anti (a b : Str) : cmpS b a = - cmpS a b := good_str.anti a b trivial trivial
theorem cmpS_trans {a b c : Str} (h : cmpS a b = -1) (h' : cmpS b c = -1) : cmpS a c = -1 := good_str.trans a b c trivial trivial trivial h h'
/- sorted fields and the map of a list of fields -/
def look {β : Type} (k : Str) (l : List (Str × β)) : Option β := (l.find? (fun p => decide (p.1 = k))).map (·.2)
def lastOf {β : Type} (k : Str) (l : List (Str × β)) : Option β := ((l.filter (fun p => decide (p.1 = k))).getLast?).map (·.2)
def SSrt {β : Type} (l : List (Str × β)) : Prop := l.Pairwise (fun p q => cmpS p.1 q.1 = -1)
structure MapOf {β : Type} (l M : List (Str × β)) : Prop where
  srt : SSrt M
  look : ∀ k, look k M = lastOf k l
theorem cmpS_ne {a b : Str} (h : cmpS a b = -1) : a ≠ b := by rintro rfl; rw [cmpS_refl] at h; cases h
theorem look_cons {β : Type} (k x : Str) (t : β) (r : List (Str × β)) : look k ((x, t) :: r) = if x = k then some t else look k r := by
  unfold look; rw [List.find?_cons]; by_cases h : x = k <;> simp [h]
theorem look_none {β : Type} {k : Str} {l : List (Str × β)} (h : ∀ p ∈ l, p.1 ≠ k) : look k l = none := by
  unfold look; rw [List.find?_eq_none.2 (fun p hp => by simpa using h p hp)]; rfl
theorem SSrt.head {β : Type} {x : Str} {t : β} {r : List (Str × β)} (h : SSrt ((x, t) :: r)) : ∀ p ∈ r, cmpS x p.1 = -1 := (List.pairwise_cons.1 h).1
theorem SSrt.tail {β : Type} {p : Str × β} {r : List (Str × β)} (h : SSrt (p :: r)) : SSrt r := (List.pairwise_cons.1 h).2
theorem look_low {β : Type} {k x : Str} {t : β} {r : List (Str × β)} (h : SSrt ((x, t) :: r)) (hk : cmpS k x = -1) : look k ((x, t) :: r) = none :=
  look_none (fun p hp => by
    rcases List.mem_cons.1 hp with rfl | hp
    · exact fun e => cmpS_ne hk e.symm
    · exact fun e => cmpS_ne (cmpS_trans hk (h.head p hp)) e.symm)
theorem ssrt_unique {β : Type} : ∀ {M M' : List (Str × β)}, SSrt M → SSrt M' → (∀ k, look k M = look k M') → M = M' := by
  intro M
  induction M with
  | nil =>
    intro M' _ h' hk
    cases M' with
    | nil => rfl
    | cons p r => obtain ⟨x, t⟩ := p; have := hk x; rw [look_cons, if_pos rfl] at this; cases this
  | cons p r ih =>
    obtain ⟨x, t⟩ := p
    intro M' h h' hk
    cases M' with
    | nil => have := hk x; rw [look_cons, if_pos rfl] at this; cases this
    | cons q r' =>
      obtain ⟨y, u⟩ := q
      have hxy : x = y := by
        rcases cmpS_tri x y with hc | hc | hc
        · have := hk x; rw [look_cons, if_pos rfl, look_low h' hc] at this; cases this
        · exact cmpS_zero hc
        · have hc' : cmpS y x = -1 := by rw [cmpS_anti]; omega
          have := hk y; rw [look_cons y y, if_pos rfl, look_low h hc'] at this; cases this
      subst hxy
      have ht : t = u := by have := hk x; rw [look_cons, look_cons, if_pos rfl, if_pos rfl] at this; exact Option.some.inj this
      subst ht
      rw [ih h.tail h'.tail (fun k => by
        have := hk k
        rw [look_cons, look_cons] at this
        by_cases e : x = k
        · subst e
          rw [look_none (fun p hp e => cmpS_ne (h.head p hp) e.symm), look_none (fun p hp e => cmpS_ne (h'.head p hp) e.symm)]
        · rwa [if_neg e, if_neg e] at this)]
theorem MapOf.unique {β : Type} {l M M' : List (Str × β)} (h : MapOf l M) (h' : MapOf l M') : M = M' := ssrt_unique h.srt h'.srt (fun k => (h.look k).trans (h'.look k).symm)
theorem lastOf_snoc {β : Type} (k x : Str) (t : β) (l : List (Str × β)) : lastOf k (l ++ [(x, t)]) = if x = k then some t else lastOf k l := by
  unfold lastOf; rw [List.filter_append]; by_cases h : x = k <;> simp [h]
theorem lastOf_ssrt {β : Type} {k : Str} : ∀ {l : List (Str × β)}, SSrt l → lastOf k l = look k l := by
  intro l
  induction l with
  | nil => intro _; rfl
  | cons p r ih =>
    obtain ⟨x, t⟩ := p
    intro h
    rw [look_cons]
    by_cases e : x = k
    · subst e
      have : r.filter (fun p => decide (p.1 = x)) = [] := by
        rw [List.filter_eq_nil_iff]; intro p hp; simp; exact fun e => cmpS_ne (h.head p hp) e.symm
      unfold lastOf; rw [List.filter_cons, if_pos (by simp), this, if_pos rfl]; rfl
    · rw [if_neg e, ← ih h.tail]; unfold lastOf; rw [List.filter_cons, if_neg (by simpa using e)]
theorem mapOf_self {β : Type} {l : List (Str × β)} (h : SSrt l) : MapOf l l := ⟨h, fun _ => (lastOf_ssrt h).symm⟩

/- the reference's put -/
def pf {β : Type} (x : Str) (t : β) : Bool → List (Str × β) → List (Str × β)
  | d, [] => if d then [] else [(x, t)]
  | d, (y, u) :: r => (if !d && !decide (cmpS y x = -1) then [(x, t)] else []) ++ ((if y = x then [] else [(y, u)]) ++ pf x t (d || !decide (cmpS y x = -1)) r)
theorem pf_true {β : Type} (x : Str) (t : β) (l : List (Str × β)) : pf x t true l = l.filter (fun p => !decide (p.1 = x)) := by
  induction l with
  | nil => rfl
  | cons p r ih => obtain ⟨y, u⟩ := p; by_cases h : y = x <;> simp [pf, h, ih]
theorem look_filter {β : Type} (x k : Str) (l : List (Str × β)) : look k (l.filter (fun p => !decide (p.1 = x))) = if x = k then none else look k l := by
  induction l with
  | nil => by_cases h : x = k <;> simp [look, h]
  | cons p r ih =>
    obtain ⟨y, u⟩ := p
    rw [List.filter_cons, look_cons]
    by_cases hy : y = x
    · subst hy; rw [if_neg (by simp), ih]; by_cases h : y = k <;> simp [h]
    · rw [if_pos (by simpa using hy), look_cons, ih]
      by_cases h : x = k
      · subst h; simp [hy]
      · simp [h]
theorem pf_mem {β : Type} {x : Str} {t : β} : ∀ {d : Bool} {l : List (Str × β)} {p : Str × β}, p ∈ pf x t d l → p = (x, t) ∨ p ∈ l := by
  intro d l
  induction l generalizing d with
  | nil => intro p h; cases d <;> simp [pf] at h; exact Or.inl h
  | cons q r ih =>
    obtain ⟨y, u⟩ := q
    intro p h
    rw [pf, List.mem_append, List.mem_append] at h
    rcases h with h | h | h
    · split at h
      · exact Or.inl (by simpa using h)
      · cases h
    · split at h
      · cases h
      · exact Or.inr (by simp at h; simp [h])
    · rcases ih h with h | h
      · exact Or.inl h
      · exact Or.inr (List.mem_cons_of_mem _ h)
theorem SSrt.filter {β : Type} {l : List (Str × β)} (h : SSrt l) (f : Str × β → Bool) : SSrt (l.filter f) := List.Pairwise.sublist List.filter_sublist h
theorem pf_srt {β : Type} {x : Str} {t : β} {l : List (Str × β)} (h : SSrt l) : SSrt (pf x t false l) := by
  induction l with
  | nil => exact List.pairwise_singleton _ _
  | cons p r ih =>
    obtain ⟨y, u⟩ := p
    rw [pf]
    by_cases hc : cmpS y x = -1
    · have hne : ¬ y = x := cmpS_ne hc
      simp [hc, hne]
      refine List.pairwise_cons.2 ⟨fun p hp => ?_, ih h.tail⟩
      rcases pf_mem hp with rfl | hp
      · exact hc
      · exact h.head p hp
    · simp [hc, pf_true]
      have hle : y = x ∨ cmpS x y = -1 := by
        rcases cmpS_tri y x with h1 | h1 | h1
        · exact absurd h1 hc
        · exact Or.inl (cmpS_zero h1)
        · exact Or.inr (by rw [cmpS_anti]; omega)
      have hr := h.tail.filter (fun p => !decide (p.1 = x))
      rcases hle with rfl | hlt
      · simp
        exact List.pairwise_cons.2 ⟨fun p hp => h.head p (List.mem_filter.1 hp).1, hr⟩
      · have hne : ¬ y = x := fun e => cmpS_ne hlt e.symm
        simp [hne]
        refine List.pairwise_cons.2 ⟨fun p hp => ?_, List.pairwise_cons.2 ⟨fun p hp => h.head p (List.mem_filter.1 hp).1, hr⟩⟩
        rcases List.mem_cons.1 hp with rfl | hp
        · exact hlt
        · exact cmpS_trans hlt (h.head p (List.mem_filter.1 hp).1)
theorem pf_look {β : Type} {x : Str} {t : β} {l : List (Str × β)} (k : Str) (h : SSrt l) : look k (pf x t false l) = if x = k then some t else look k l := by
  induction l with
  | nil => simp [pf, look_cons]
  | cons p r ih =>
    obtain ⟨y, u⟩ := p
    rw [pf, look_cons]
    by_cases hc : cmpS y x = -1
    · have hne : ¬ y = x := cmpS_ne hc
      simp [hc, hne, look_cons]
      rw [ih h.tail]
      by_cases e : y = k
      · subst e; simp; exact fun e => absurd e.symm hne
      · simp [e]
    · simp [hc, pf_true, look_cons]
      by_cases e : x = k
      · simp [e]
      · simp [e]
        by_cases hy : y = x
        · subst hy; simp [e, look_filter]
        · simp [hy, look_cons, look_filter, e]
theorem mapOf_nil {β : Type} : MapOf ([] : List (Str × β)) [] := ⟨List.Pairwise.nil, fun _ => rfl⟩
theorem MapOf.put {β : Type} {l M : List (Str × β)} (h : MapOf l M) (x : Str) (t : β) : MapOf (l ++ [(x, t)]) (pf x t false M) :=
  ⟨pf_srt h.srt, fun k => by rw [pf_look k h.srt, lastOf_snoc, h.look]⟩

/- with and without -/
def oth {β : Type} (x : Str) (l : List (Str × β)) : List (Str × β) := l.filter (fun p => !decide (p.1 = x))
theorem lastOf_oth {β : Type} (x k : Str) (l : List (Str × β)) : lastOf k (oth x l) = if x = k then none else lastOf k l := by
  unfold lastOf oth
  rw [List.filter_filter]
  by_cases h : x = k
  · subst h
    rw [if_pos rfl]
    have : l.filter (fun p => decide (p.1 = x) && !decide (p.1 = x)) = [] := by
      rw [List.filter_eq_nil_iff]; intro p _; simp
    rw [this]; rfl
  · rw [if_neg h]
    have : l.filter (fun p => decide (p.1 = k) && !decide (p.1 = x)) = l.filter (fun p => decide (p.1 = k)) := by
      apply List.filter_congr
      intro p _
      by_cases e : p.1 = k
      · simp [e]; exact fun e' => h e'.symm
      · simp [e]
    rw [this]

/- what the implementation keeps: of a sorted list the last of each name -/
def dd : List FC → List FC
  | [] => []
  | [c] => [c]
  | c :: d :: r => if d.x = c.x then dd (d :: r) else c :: dd (d :: r)
def findF (k : Str) (l : List FC) : Option FC := l.find? (fun c => decide (c.x = k))
def lastF (k : Str) (l : List FC) : Option FC := (l.filter (fun c => decide (c.x = k))).getLast?
theorem dd_mem : ∀ {l : List FC} {c : FC}, c ∈ dd l → c ∈ l := by
  intro l
  induction l with
  | nil => intro c h; exact h
  | cons a r ih =>
    intro c h
    cases r with
    | nil => exact h
    | cons d r =>
      rw [dd] at h
      split at h
      · exact List.mem_cons_of_mem _ (ih h)
      · rcases List.mem_cons.1 h with rfl | h
        · exact List.mem_cons_self
        · exact List.mem_cons_of_mem _ (ih h)
theorem lt_of_srt {c d : FC} {r : List FC} (h : Srt ltF (c :: d :: r)) (hne : ¬ d.x = c.x) : ∀ y ∈ d :: r, cmpS c.x y.x = -1 := by
  have hcd : cmpS c.x d.x = -1 := by
    have := (List.pairwise_cons.1 h).1 d List.mem_cons_self
    unfold ltF at this
    simp at this
    rcases cmpS_tri d.x c.x with h1 | h1 | h1
    · omega
    · exact absurd (cmpS_zero h1) hne
    · rw [cmpS_anti]; omega
  intro y hy
  rcases List.mem_cons.1 hy with rfl | hy
  · exact hcd
  · have := (List.pairwise_cons.1 (List.pairwise_cons.1 h).2).1 y hy
    unfold ltF at this
    simp at this
    rcases cmpS_tri y.x d.x with h1 | h1 | h1
    · omega
    · rw [cmpS_zero h1]; exact hcd
    · exact cmpS_trans hcd (by rw [cmpS_anti]; omega)
theorem dd_srt : ∀ {l : List FC}, Srt ltF l → (dd l).Pairwise (fun c d => cmpS c.x d.x = -1) := by
  intro l
  induction l with
  | nil => intro _; exact List.Pairwise.nil
  | cons c r ih =>
    intro h
    cases r with
    | nil => exact List.pairwise_singleton _ _
    | cons d r =>
      rw [dd]
      split
      · exact ih (List.pairwise_cons.1 h).2
      · rename_i hne
        exact List.pairwise_cons.2 ⟨fun y hy => lt_of_srt h hne y (dd_mem hy), ih (List.pairwise_cons.1 h).2⟩
theorem dd_find : ∀ {l : List FC} (k : Str), Srt ltF l → findF k (dd l) = lastF k l := by
  intro l
  induction l with
  | nil => intro k _; rfl
  | cons c r ih =>
    intro k h
    cases r with
    | nil => unfold findF lastF; by_cases e : c.x = k <;> simp [dd, e]
    | cons d r =>
      have hr := ih k (List.pairwise_cons.1 h).2
      have hl : lastF k (c :: d :: r) = if c.x = k ∧ ∀ y ∈ d :: r, y.x ≠ k then some c else lastF k (d :: r) := by
        unfold lastF
        rw [List.filter_cons]
        by_cases e : c.x = k
        · rw [if_pos (by simpa using e)]
          by_cases hn : ∀ y ∈ d :: r, y.x ≠ k
          · rw [if_pos ⟨e, hn⟩, List.filter_eq_nil_iff.2 (fun y hy => by simpa using hn y hy)]; rfl
          · rw [if_neg (fun h => hn h.2), List.getLast?_cons]
            cases hq : (d :: r).filter (fun c => decide (c.x = k)) with
            | nil => exact absurd (fun y hy => by simpa using List.filter_eq_nil_iff.1 hq y hy) hn
            | cons a b => simp [List.getLast?_cons]
        · rw [if_neg (by simpa using e), if_neg (fun h => e h.1)]
      rw [dd]
      split
      · rename_i he
        rw [hr, hl, if_neg (fun h => h.2 d List.mem_cons_self (he.trans h.1))]
      · rename_i hne
        have hlt := lt_of_srt h hne
        rw [hl]
        by_cases e : c.x = k
        · rw [if_pos ⟨e, fun y hy e' => cmpS_ne (hlt y hy) (e.trans e'.symm)⟩]
          unfold findF; simp [e]
        · rw [if_neg (fun h => e h.1), ← hr]
          unfold findF; simp [e]
theorem dd_map {β : Type} (f : FC → Str × β) (hf : ∀ c, (f c).1 = c.x) {l L : List FC} (hs : Srt ltF L) (he : Same FC.x l L) : MapOf (l.map f) ((dd L).map f) := by
  refine ⟨?_, fun k => ?_⟩
  · unfold SSrt; rw [List.pairwise_map]; simp only [hf]; exact dd_srt hs
  · have h1 := dd_find k hs
    have h2 : lastF k L = lastF k l := by unfold lastF; rw [he k]
    unfold look lastOf
    rw [List.find?_map, List.filter_map]
    have e : (fun p : Str × β => decide (p.1 = k)) ∘ f = fun c => decide (c.x = k) := by funext c; simp [hf]
    rw [e, List.getLast?_map]
    have h3 : (dd L).find? (fun c => decide (c.x = k)) = (l.filter (fun c => decide (c.x = k))).getLast? := h1.trans h2
    rw [h3]
theorem keepB_succ (c : FC) (l : List FC) (k : Nat) : keepB (c :: l) (k + 1) = keepB l k := by
  unfold keepB; simp
theorem keepTo_cons (c : FC) (l : List FC) : ∀ k, keepTo (c :: l) (k + 1) = (if keepB (c :: l) 0 then [c] else []) ++ keepTo l k := by
  intro k
  induction k with
  | zero => rw [keepTo]; cases hb : keepB (c :: l) 0 <;> simp [keepTo, hb]
  | succ k ih =>
    rw [keepTo, ih, keepB_succ]
    conv => rhs; rw [keepTo]
    cases hb : keepB l k <;> simp
theorem keepTo_dd : ∀ (l : List FC), keepTo l l.length = dd l := by
  intro l
  induction l with
  | nil => rfl
  | cons c r ih =>
    rw [List.length_cons, keepTo_cons, ih]
    cases r with
    | nil => simp [keepB, dd]
    | cons d r =>
      by_cases e : d.x = c.x <;> simp [keepB, dd, e]
end Go.Proofs.Ytinenbgdkchghaa
