/- What is set is found, setting twice is setting last, other paths are untouched; what is removed is gone, and setting it again restores the value: plain mathematics. What is removed is gone, and setting it again restores the value: plain mathematics. -/
import Derived.Test.YtjpmnlefjmdelaaGreatDoorXtJ
set_option linter.unusedSimpArgs false
set_option linter.unusedVariables false
namespace Go.Proofs.YtjpmnlefjmdelaaGreatDoor

theorem kid_map {s : S} {k n : Int} {y : Str} {l : List T} {f : List (Str × T)} (h1 : s.k = 1) : kid s (.mk k n y l f) = if k = 5 then look s.nm f else none := by
  unfold kid
  simp only [place, if_pos h1]
  by_cases h5 : k = 5
  · rw [if_pos h5, if_pos h5]
    have hp := plF_look (nm := s.nm) (f := f)
    cases hq : plF s.nm f with
    | none => rw [hp.2 hq]
    | some i =>
      obtain ⟨p, g1, g2, g3⟩ := hp.1 i hq
      simp only [kidAt, if_pos h1, g1, g3, Option.map_some]
  · rw [if_neg h5, if_neg h5]
theorem kid_ix {s : S} {k n : Int} {y : Str} {l : List T} {f : List (Str × T)} (h2 : s.k = 2) (hs : 0 ≤ s.ix) : kid s (.mk k n y l f) = if k = 4 then l[s.ix.toNat]? else none := by
  have h1 : ¬ s.k = 1 := by omega
  unfold kid
  simp only [place, if_neg h1, if_pos h2]
  by_cases h4 : k = 4
  · by_cases hl : s.ix < l.length
    · rw [if_pos ⟨h4, hl⟩, if_pos h4]
      simp only [kidAt, if_neg h1]
    · rw [if_neg (fun h => hl h.2), if_pos h4, List.getElem?_eq_none (by omega)]
  · rw [if_neg (fun h => h4 h.1), if_neg h4]
theorem entE_zero {s : S} {k n : Int} {y : Str} {l : List T} {f : List (Str × T)} (h : entE s (.mk k n y l f) = 0) : k = (if s.k = 1 then 5 else 4) ∧ (s.k = 2 → s.ix ≤ l.length) := by
  simp only [entE] at h
  by_cases hk : k = (if s.k = 1 then 5 else 4)
  · refine ⟨hk, fun h2 => ?_⟩
    rw [if_neg (not_not_intro hk)] at h
    by_cases hx : s.k = 2 ∧ (l.length : Int) < s.ix
    · rw [if_pos hx] at h; omega
    · omega
  · rw [if_pos hk] at h; omega
theorem place_repl {s : S} {k n : Int} {y : Str} {l : List T} {f : List (Str × T)} {c : T} (h1 : ¬ s.k = 1) (hs : stepOk s = true) (he : entE s (.mk k n y l f) = 0) (hk : s.k = 3 → hasK s.nm s.vl c = true) :
    (∃ i, place s (.mk k n y l f) = some i ∧ i < l.length ∧ replT s c (.mk k n y l f) = .mk 4 0 [] (l.set i c) [] ∧ place s (.mk 4 0 [] (l.set i c) []) = some i) ∨
      (place s (.mk k n y l f) = none ∧ replT s c (.mk k n y l f) = .mk 4 0 [] (l ++ [c]) [] ∧ place s (.mk 4 0 [] (l ++ [c]) []) = some l.length) := by
  obtain ⟨hk4, hix⟩ := entE_zero he
  rw [if_neg h1] at hk4
  subst hk4
  obtain ⟨hi0, hkk⟩ := stepOk_ix hs
  cases hp : place s (.mk 4 n y l f) with
  | some i =>
    left
    have hlt := place_lt hi0 hp
    rw [if_neg h1] at hlt
    refine ⟨i, rfl, hlt, by simp only [replT, if_neg h1, hp], ?_⟩
    simp only [place, if_neg h1] at hp ⊢
    by_cases h2 : s.k = 2
    · rw [if_pos h2] at hp ⊢
      rw [List.length_set]
      exact hp
    · have h3 : s.k = 3 := by omega
      simp only [if_neg h2, if_pos h3, if_true] at hp ⊢
      rw [List.findIdx?_eq_some_iff_getElem] at hp ⊢
      obtain ⟨g1, g2, g3⟩ := hp
      refine ⟨by simpa using g1, by rw [List.getElem_set_self]; exact hk h3, fun j hj => ?_⟩
      rw [List.getElem_set_ne (by omega)]
      exact g3 j hj
  | none =>
    right
    refine ⟨rfl, by simp only [replT, if_neg h1, hp], ?_⟩
    simp only [place, if_neg h1] at hp ⊢
    by_cases h2 : s.k = 2
    · rw [if_pos h2] at hp ⊢
      have hle := hix h2
      have : ¬ s.ix < (l.length : Int) := fun h => by rw [if_pos ⟨trivial, h⟩] at hp; cases hp
      rw [if_pos ⟨trivial, by rw [List.length_append]; simp; omega⟩]
      congr 1
      omega
    · have h3 : s.k = 3 := by omega
      simp only [if_neg h2, if_pos h3, if_true] at hp ⊢
      rw [List.findIdx?_append, hp]
      simp [List.findIdx?_cons, hk h3]
theorem mapL_look (l : List (Str × T)) (k : Str) : look k (mapL l) = lastOf k l := (mapL_of l).look k
theorem mapL_srt (l : List (Str × T)) : SSrt (mapL l) := (mapL_of l).srt
/-- what is put is found -/
theorem kid_repl {s : S} {t c : T} (hs : stepOk s = true) (he : entE s t = 0) (hk : s.k = 3 → hasK s.nm s.vl c = true) : kid s (replT s c t) = some c := by
  obtain ⟨k, n, y, l, f⟩ := t
  by_cases h1 : s.k = 1
  · simp only [replT, if_pos h1]
    rw [kid_map h1, if_pos rfl, mapL_look, lastOf_snoc, if_pos rfl]
  · rcases place_repl h1 hs he hk with ⟨i, -, g2, g3, g4⟩ | ⟨-, g3, g4⟩
    · rw [g3]
      unfold kid
      rw [g4]
      simp only [kidAt, if_neg h1]
      simp [g2]
    · rw [g3]
      unfold kid
      rw [g4]
      simp only [kidAt, if_neg h1]
      simp
/-- what is put twice is put last -/
theorem repl_repl {s : S} {t c o : T} (hs : stepOk s = true) (he : entE s t = 0) (hk : s.k = 3 → hasK s.nm s.vl c = true) : replT s o (replT s c t) = replT s o t := by
  obtain ⟨k, n, y, l, f⟩ := t
  by_cases h1 : s.k = 1
  · obtain ⟨hk5, -⟩ := entE_zero he
    rw [if_pos h1] at hk5
    subst hk5
    simp only [replT, if_pos h1, othK]
    congr 1
    refine ssrt_unique (mapL_srt _) (mapL_srt _) (fun k => ?_)
    rw [mapL_look, mapL_look, lastOf_snoc, lastOf_snoc]
    by_cases e : s.nm = k
    · rw [if_pos e, if_pos e]
    · rw [if_neg e, if_neg e]
      simp only [if_true]
      rw [lastOf_oth, if_neg e, lastOf_ssrt (mapL_srt _), mapL_look, lastOf_snoc, if_neg e]
  · rcases place_repl h1 hs he hk with ⟨i, g1, g2, g3, g4⟩ | ⟨g1, g3, g4⟩
    · rw [g3]
      simp only [replT, if_neg h1, g4, g1, List.set_set]
    · rw [g3]
      simp only [replT, if_neg h1, g4, g1]
      simp
theorem setP_cons {s : S} {p : List S} {t x : T} (h : (setP (s :: p) t x).2 = 0) : entE s t = 0 ∧ (setP p ((kid s t).getD (newT s)) x).2 = 0 ∧ (s.k = 3 → hasK s.nm s.vl (setP p ((kid s t).getD (newT s)) x).1 = true) ∧
    (setP (s :: p) t x).1 = replT s (setP p ((kid s t).getD (newT s)) x).1 t := by
  rw [setP] at h ⊢
  by_cases h1 : entE s t = 0
  · rw [if_neg (not_not_intro h1)] at h ⊢
    by_cases h2 : (setP p ((kid s t).getD (newT s)) x).2 = 0
    · rw [if_neg (not_not_intro h2)] at h ⊢
      by_cases h3 : s.k = 3 ∧ hasK s.nm s.vl (setP p ((kid s t).getD (newT s)) x).1 = false
      · rw [if_pos h3] at h; simp at h
      · rw [if_neg h3]
        refine ⟨h1, h2, fun hk => ?_, rfl⟩
        cases hq : hasK s.nm s.vl (setP p ((kid s t).getD (newT s)) x).1
        · exact absurd ⟨hk, hq⟩ h3
        · rfl
    · rw [if_pos h2] at h; exact absurd h h2
  · rw [if_pos h1] at h; exact absurd h h1
/-- WHAT IS SET IS FOUND -/
theorem found_set : ∀ {p : List S} {t x : T}, (∀ s ∈ p, stepOk s = true) → (setP p t x).2 = 0 → findT (setP p t x).1 p = some x
  | [], t, x, _, _ => rfl
  | s :: p, t, x, hs, h => by
    obtain ⟨h1, h2, h3, h4⟩ := setP_cons h
    rw [h4, findT_step, kid_repl (hs s (by simp)) h1 h3]
    exact found_set (fun q hq => hs q (by simp [hq])) h2
/-- SETTING TWICE IS SETTING LAST -/
theorem set_set : ∀ {p : List S} {t x y : T}, (∀ s ∈ p, stepOk s = true) → (setP p t x).2 = 0 → (setP p t y).2 = 0 → (setP p (setP p t x).1 y).2 = 0 → (setP p (setP p t x).1 y).1 = (setP p t y).1
  | [], t, x, y, _, _, _, _ => rfl
  | s :: p, t, x, y, hs, h, hy, hxy => by
    obtain ⟨h1, h2, h3, h4⟩ := setP_cons h
    obtain ⟨-, g2, g3, g4⟩ := setP_cons hy
    obtain ⟨-, k2, k3, k4⟩ := setP_cons hxy
    rw [k4, g4]
    rw [h4, kid_repl (hs s (by simp)) h1 h3, Option.getD_some] at k2 k3 ⊢
    rw [repl_repl (hs s (by simp)) h1 h3, set_set (fun q hq => hs q (by simp [hq])) h2 g2 k2]

/-- sorted somewhere -/
def Vd (t : T) : Prop := ∃ d, Val d t
theorem Vd.srt {k n : Int} {y : Str} {l : List T} {f : List (Str × T)} (h : Vd (.mk k n y l f)) : SSrt f := by
  obtain ⟨d, h⟩ := h
  cases d with
  | zero => exact absurd h (by simp [Val])
  | succ d => rw [Val] at h; exact ssrt_of_nm h.2.2.2.2.2.1
theorem look_mem {nm : Str} : ∀ {f : List (Str × T)} {u : T}, look nm f = some u → (nm, u) ∈ f
  | [], u, h => by simp [look] at h
  | (x, t) :: f, u, h => by
    rw [look_cons] at h
    by_cases e : x = nm
    · rw [if_pos e] at h; cases h; subst e; simp
    · rw [if_neg e] at h; exact List.mem_cons_of_mem _ (look_mem h)
theorem kid_mem {s : S} {k n : Int} {y : Str} {l : List T} {f : List (Str × T)} {u : T} (h : kid s (.mk k n y l f) = some u) : u ∈ l ∨ ∃ nm, (nm, u) ∈ f := by
  unfold kid at h
  cases hp : place s (.mk k n y l f) with
  | none => rw [hp] at h; cases h
  | some i =>
    rw [hp] at h
    simp only [kidAt] at h
    split at h
    · cases hf : f[i]? with
      | none => rw [hf] at h; cases h
      | some p => rw [hf] at h; simp at h; subst h; exact Or.inr ⟨p.1, List.mem_of_getElem? hf⟩
    · exact Or.inl (List.mem_of_getElem? h)
theorem val_kid {s : S} {t u : T} {d : Nat} (h : Val (d + 1) t) (hk : kid s t = some u) : Val d u := by
  obtain ⟨k, n, y, l, f⟩ := t
  rw [Val] at h
  rcases kid_mem hk with h1 | ⟨nm, h1⟩
  · exact h.2.2.2.2.2.2.1 u h1
  · exact h.2.2.2.2.2.2.2 _ h1
theorem Vd.kid {s : S} {t u : T} (h : Vd t) (hk : kid s t = some u) : Vd u := by
  obtain ⟨d, h⟩ := h
  cases d with
  | zero => cases t; exact absurd h (by simp [Val])
  | succ d => exact ⟨d, val_kid h hk⟩
theorem newT_plain {s : S} (h : ¬ s.k = 3) : newT s = .mk 5 0 [] [] [] := by unfold newT; rw [if_neg h]
theorem vd_empty : Vd (.mk 5 0 [] [] []) := ⟨1, by rw [Val]; exact ⟨Or.inr (Or.inr (Or.inr ⟨Or.inr (Or.inr rfl), rfl, rfl⟩)), by simp, by simp, Or.inr rfl, Or.inl rfl, NmTo.zero _, by simp, by simp⟩⟩
theorem kid_empty (s : S) : kid s (.mk 5 0 [] [] []) = none := by
  unfold kid
  have : place s (.mk 5 0 [] [] []) = none := by
    simp only [place]
    split
    · rfl
    · split
      · rfl
      · split <;> rfl
  rw [this]
def plainS (s : S) : Bool := !decide (s.k = 3)
theorem kid_other {s s' : S} {t c : T} (hs : stepOk s = true) (hs' : stepOk s' = true) (hp : ¬ s.k = 3) (hp' : ¬ s'.k = 3) (hne : ¬ s = s') (he : entE s t = 0) (hv : Vd t) : kid s' (replT s c t) = kid s' t := by
  obtain ⟨k, n, y, l, f⟩ := t
  obtain ⟨hk, hix⟩ := entE_zero he
  obtain ⟨i0, hkk⟩ := stepOk_ix hs
  obtain ⟨i0', hkk'⟩ := stepOk_ix hs'
  unfold stepOk at hs hs'
  by_cases h1 : s.k = 1
  · rw [if_pos h1] at hk
    subst hk
    simp only [replT, if_pos h1, othK]
    by_cases h1' : s'.k = 1
    · rw [if_pos h1] at hs
      rw [if_pos h1'] at hs'
      simp only [Bool.and_eq_true, decide_eq_true_eq] at hs hs'
      have hnm : ¬ s.nm = s'.nm := fun e => hne (S.ext' (by rw [h1, h1']) e (by rw [hs.1.2, hs'.1.2]) (by rw [hs.2, hs'.2]))
      rw [kid_map h1', kid_map h1', if_pos rfl, if_pos rfl, mapL_look, lastOf_snoc, if_neg hnm]
      simp only [if_true]
      rw [lastOf_oth, if_neg hnm, lastOf_ssrt hv.srt]
    · have h2' : s'.k = 2 := by omega
      rw [kid_ix h2' i0', kid_ix h2' i0', if_neg (by omega), if_neg (by omega)]
  · have h2 : s.k = 2 := by omega
    rw [if_neg h1] at hk
    subst hk
    simp only [replT, if_neg h1, place, if_pos h2]
    by_cases h1' : s'.k = 1
    · rw [kid_map h1', kid_map h1', if_neg (by omega), if_neg (by omega)]
    · have h2' : s'.k = 2 := by omega
      rw [if_neg h1, if_pos h2] at hs
      rw [if_neg h1', if_pos h2'] at hs'
      simp only [Bool.and_eq_true, decide_eq_true_eq] at hs hs'
      have hnm : ¬ s.ix = s'.ix := fun e => hne (S.ext' (by rw [h2, h2']) (by rw [hs.1.2, hs'.1.2]) e (by rw [hs.2, hs'.2]))
      have hle := hix h2
      rw [kid_ix h2' i0', kid_ix h2' i0', if_pos rfl, if_pos rfl]
      by_cases hl : s.ix < (l.length : Int)
      · rw [if_pos ⟨trivial, hl⟩]
        simp only
        rw [List.getElem?_set_ne (by omega)]
      · rw [if_neg (fun h => hl h.2)]
        simp only
        by_cases hj : s'.ix.toNat < l.length
        · rw [List.getElem?_append_left hj]
        · rw [List.getElem?_eq_none (by simp; omega), List.getElem?_eq_none (by omega)]
/-- OTHER PATHS ARE UNTOUCHED -/
theorem found_other : ∀ {p q : List S} {t x : T}, (∀ s ∈ p, stepOk s = true) → (∀ s ∈ q, stepOk s = true) → (∀ s ∈ p, ¬ s.k = 3) → (∀ s ∈ q, ¬ s.k = 3) → ¬ p <+: q → ¬ q <+: p → Vd t → (setP p t x).2 = 0 → findT (setP p t x).1 q = findT t q
  | [], q, t, x, _, _, _, _, hn, _, _, _ => absurd (List.nil_prefix) hn
  | s :: p, [], t, x, _, _, _, _, _, hn, _, _ => absurd (List.nil_prefix) hn
  | s :: p, s' :: q, t, x, hp, hq, hpl, hql, hn, hn', hv, h => by
    obtain ⟨h1, h2, h3, h4⟩ := setP_cons h
    rw [h4, findT_step, findT_step]
    by_cases e : s = s'
    · subst e
      rw [kid_repl (hp s (by simp)) h1 h3]
      have hn1 : ¬ p <+: q := fun h => hn (List.cons_prefix_cons.2 ⟨rfl, h⟩)
      have hn2 : ¬ q <+: p := fun h => hn' (List.cons_prefix_cons.2 ⟨rfl, h⟩)
      have ih := fun hv => found_other (p := p) (q := q) (t := (kid s t).getD (newT s)) (x := x) (fun z hz => hp z (by simp [hz])) (fun z hz => hq z (by simp [hz])) (fun z hz => hpl z (by simp [hz])) (fun z hz => hql z (by simp [hz])) hn1 hn2 hv h2
      simp only
      cases hk : kid s t with
      | some u =>
        rw [hk, Option.getD_some] at ih
        exact ih (hv.kid hk)
      | none =>
        rw [hk, Option.getD_none, newT_plain (hpl s (by simp))] at ih
        rw [Option.getD_none, newT_plain (hpl s (by simp)), ih vd_empty]
        cases q with
        | nil => exact absurd List.nil_prefix hn2
        | cons z q => rw [findT_step, kid_empty]
    · rw [kid_other (hp s (by simp)) (hq s' (by simp)) (hpl s (by simp)) (hql s' (by simp)) e h1 hv]
end Go.Proofs.YtjpmnlefjmdelaaGreatDoor
namespace Go.Proofs.YtjpmnlefjmdelaaGreatDoor

theorem val_mono : ∀ {d d' : Nat} {t : T}, d ≤ d' → Val d t → Val d' t
  | 0, d', t, _, h => by cases t; exact absurd h (by simp [Val])
  | d + 1, 0, t, hl, _ => by omega
  | d + 1, d' + 1, .mk k n s l f, hl, h => by
    rw [Val] at h ⊢
    obtain ⟨a1, a2, a3, a4, a5, a6, a7, a8⟩ := h
    exact ⟨a1, a2, a3, a4, a5, a6, fun t ht => val_mono (by omega) (a7 t ht), fun p hp => val_mono (by omega) (a8 p hp)⟩
theorem find_val : ∀ {p : List S} {d : Nat} {t x : T}, Val d t → findT t p = some x → ∃ d', d' ≤ d ∧ Val d' x
  | [], d, t, x, h, hx => by simp [findT] at hx; subst hx; exact ⟨d, Nat.le_refl _, h⟩
  | s :: p, d, t, x, h, hx => by
    rw [findT_step] at hx
    cases hk : kid s t with
    | none => rw [hk] at hx; cases hx
    | some c =>
      rw [hk] at hx
      cases d with
      | zero => cases t; exact absurd h (by simp [Val])
      | succ d =>
        obtain ⟨d', h1, h2⟩ := find_val (val_kid h hk) hx
        exact ⟨d', by omega, h2⟩
theorem ssrt_names {β : Type} {l : List (Str × β)} : SSrt l ↔ (l.map Prod.fst).Pairwise (fun a b => cmpS a b = -1) := by
  unfold SSrt; rw [List.pairwise_map]
theorem nm_of {f : List (Str × T)} (h : ∀ p ∈ f, nameOk p.1 = true) (hs : SSrt f) : NmTo f f.length := by
  intro i p hi hp
  refine ⟨h p (List.mem_of_getElem? hp), fun q h0 hq => ?_⟩
  obtain ⟨a1, a2⟩ := List.getElem?_eq_some_iff.1 hp
  obtain ⟨b1, b2⟩ := List.getElem?_eq_some_iff.1 hq
  have := List.pairwise_iff_getElem.1 hs (i - 1) i b1 a1 (by omega)
  rw [a2, b2] at this; exact this
theorem nm_names {f : List (Str × T)} (h : NmTo f f.length) : ∀ p ∈ f, nameOk p.1 = true := by
  intro p hp
  obtain ⟨i, hi⟩ := List.getElem?_of_mem hp
  exact (h i p (List.getElem?_eq_some_iff.1 hi).1 hi).1
theorem look_erase : ∀ {f : List (Str × T)} {i : Nat} {p : Str × T} (k : Str), SSrt f → f[i]? = some p → look k (f.eraseIdx i) = if p.1 = k then none else look k f
  | [], i, p, k, _, h => by simp at h
  | (x, t) :: f, 0, p, k, hs, h => by
    simp at h; subst h
    rw [List.eraseIdx_cons_zero, look_cons]
    by_cases e : x = k
    · subst e
      rw [if_pos rfl, look_none (fun q hq e => cmpS_ne (hs.head q hq) e.symm)]
    · rw [if_neg e, if_neg e]
  | (x, t) :: f, i + 1, p, k, hs, h => by
    have h' : f[i]? = some p := by simpa using h
    have ih := look_erase k hs.tail h'
    rw [List.eraseIdx_cons_succ, look_cons, look_cons, ih]
    have hxp := cmpS_ne (hs.head p (List.mem_of_getElem? h'))
    by_cases e : p.1 = k
    · subst e
      rw [if_pos rfl, if_pos rfl, if_neg hxp]
    · rw [if_neg e, if_neg e]
theorem look_set : ∀ {f : List (Str × T)} {i : Nat} {p : Str × T} (k : Str) (c : T), SSrt f → f[i]? = some p → look k (f.set i (p.1, c)) = if p.1 = k then some c else look k f
  | [], i, p, k, c, _, h => by simp at h
  | (x, t) :: f, 0, p, k, c, hs, h => by
    simp at h; subst h
    rw [List.set_cons_zero, look_cons, look_cons]
    by_cases e : x = k
    · subst e; simp
    · simp [e]
  | (x, t) :: f, i + 1, p, k, c, hs, h => by
    have h' : f[i]? = some p := by simpa using h
    have ih := look_set k c hs.tail h'
    rw [List.set_cons_succ, look_cons, look_cons, ih]
    have hxp := cmpS_ne (hs.head p (List.mem_of_getElem? h'))
    by_cases e : p.1 = k
    · subst e
      rw [if_pos rfl, if_pos rfl, if_neg hxp]
    · rw [if_neg e, if_neg e]
theorem ssrt_set {f : List (Str × T)} {i : Nat} {p : Str × T} {c : T} (hs : SSrt f) (h : f[i]? = some p) : SSrt (f.set i (p.1, c)) := by
  rw [ssrt_names, List.map_set] 
  have : (f.map Prod.fst).set i p.1 = f.map Prod.fst := by
    apply List.ext_getElem?
    intro j
    rw [List.getElem?_set]
    split
    · rename_i e
      subst e
      have hl := (List.getElem?_eq_some_iff.1 h).1
      rw [if_pos (by simpa using hl), List.getElem?_map, h]; rfl
    · rfl
  rw [this, ← ssrt_names]
  exact hs
theorem sizeF_set : ∀ {f : List (Str × T)} {i : Nat} {p : Str × T} {c : T}, f[i]? = some p → sizeF (f.set i (p.1, c)) + p.2.size = sizeF f + c.size
  | [], i, p, c, h => by simp at h
  | (x, t) :: f, 0, p, c, h => by simp at h; subst h; simp only [List.set_cons_zero, sizeF]; omega
  | (x, t) :: f, i + 1, p, c, h => by
    have := sizeF_set (f := f) (i := i) (p := p) (c := c) (by simpa using h)
    simp only [List.set_cons_succ, sizeF]; omega
theorem val_map {d : Nat} {n : Int} {y : Str} {l : List T} {f : List (Str × T)} (h : Val (d + 1) (.mk 5 n y l f)) : n = 0 ∧ y = [] ∧ l = [] ∧ f.length ≤ 64 ∧ NmTo f f.length ∧ ∀ p ∈ f, Val d p.2 := by
  rw [Val] at h
  obtain ⟨a1, a2, a3, a4, a5, a6, a7, a8⟩ := h
  rcases a1 with ⟨a, -⟩ | ⟨a, -⟩ | ⟨a, -⟩ | ⟨-, b, c⟩
  · omega
  · omega
  · omega
  · refine ⟨b, c, ?_, a3, a6, a8⟩
    rcases a4 with a | a
    · omega
    · exact List.eq_nil_of_length_eq_zero a
theorem val_list {d : Nat} {n : Int} {y : Str} {l : List T} {f : List (Str × T)} (h : Val (d + 1) (.mk 4 n y l f)) : n = 0 ∧ y = [] ∧ f = [] ∧ l.length ≤ 64 ∧ ∀ t ∈ l, Val d t := by
  rw [Val] at h
  obtain ⟨a1, a2, a3, a4, a5, a6, a7, a8⟩ := h
  rcases a1 with ⟨a, -⟩ | ⟨a, -⟩ | ⟨a, -⟩ | ⟨-, b, c⟩
  · omega
  · omega
  · omega
  · refine ⟨b, c, ?_, a2, a7⟩
    rcases a5 with a | a
    · omega
    · exact List.eq_nil_of_length_eq_zero a
theorem val_map_mk {d : Nat} {f : List (Str × T)} (h1 : f.length ≤ 64) (h2 : NmTo f f.length) (h3 : ∀ p ∈ f, Val d p.2) : Val (d + 1) (.mk 5 0 [] [] f) := by
  rw [Val]; exact ⟨Or.inr (Or.inr (Or.inr ⟨Or.inr (Or.inr rfl), rfl, rfl⟩)), by simp, h1, Or.inr rfl, Or.inl rfl, h2, by simp, h3⟩
theorem val_list_mk {d : Nat} {l : List T} (h1 : l.length ≤ 64) (h3 : ∀ t ∈ l, Val d t) : Val (d + 1) (.mk 4 0 [] l []) := by
  rw [Val]; exact ⟨Or.inr (Or.inr (Or.inr ⟨Or.inr (Or.inl rfl), rfl, rfl⟩)), h1, by simp, Or.inl rfl, Or.inr rfl, NmTo.zero _, h3, by simp⟩
theorem remT_lone {s : S} {t w : T} (h : remT [s] t = some w) : ∃ i, place s t = some i ∧ w = cutAt s i t := by
  rw [remT] at h
  cases hp : place s t with
  | none => rw [hp] at h; cases h
  | some i => rw [hp] at h; simp at h; exact ⟨i, rfl, h.symm⟩
theorem remT_more {s s' : S} {p : List S} {t w : T} (h : remT (s :: s' :: p) t = some w) : ∃ i c c', place s t = some i ∧ kidAt s i t = some c ∧ remT (s' :: p) c = some c' ∧ w = putAt s i c' t := by
  rw [remT] at h
  cases hp : place s t with
  | none => rw [hp] at h; cases h
  | some i =>
    rw [hp] at h
    simp only at h
    cases hk : kidAt s i t with
    | none => rw [hk] at h; cases h
    | some c =>
      rw [hk] at h
      simp only at h
      cases hr : remT (s' :: p) c with
      | none => rw [hr] at h; cases h
      | some c' => rw [hr] at h; simp at h; exact ⟨i, c, c', rfl, hk, hr, h.symm⟩
theorem mapL_is {l f : List (Str × T)} (hf : SSrt f) (h : ∀ k, lastOf k l = look k f) : mapL l = f := ssrt_unique (mapL_srt _) hf (fun k => by rw [mapL_look, h])
/-- WHAT IS REMOVED IS GONE, AND SETTING IT AGAIN RESTORES THE VALUE -/
theorem rem_set : ∀ {p : List S} {t w : T} {d : Nat}, (∀ s ∈ p, stepOk s = true) → (∀ s ∈ p, ¬ s.k = 3) → (∀ s, p.getLast? = some s → s.k = 1) → Val d t → remT p t = some w →
    ∃ x, findT t p = some x ∧ Val d w ∧ w.size ≤ t.size ∧ findT w p = none ∧ setP p w x = (t, 0)
  | [], t, w, d, _, _, _, _, h => by simp [remT] at h
  | _, t, _, 0, _, _, _, hv, _ => by cases t; exact absurd hv (by simp [Val])
  | [s], .mk k n y l f, w, d + 1, hs, hp, hl, hv, h => by
    obtain ⟨i, g1, rfl⟩ := remT_lone h
    have h1 : s.k = 1 := hl s rfl
    have hs0 := hs s (by simp)
    have g2 := g1
    simp only [place, if_pos h1] at g2
    by_cases h5 : k = 5
    case neg => rw [if_neg h5] at g2; cases g2
    subst h5
    rw [if_pos rfl] at g2
    obtain ⟨q, q1, q2, q3⟩ := plF_look.1 i g2
    obtain ⟨rfl, rfl, rfl, v1, v2, v3⟩ := val_map hv
    have hsr := ssrt_of_nm v2
    have hsub : (f.eraseIdx i).Sublist f := List.eraseIdx_sublist f i
    have hse : SSrt (f.eraseIdx i) := List.Pairwise.sublist hsub hsr
    have hz := (sub_size hse (l := f) (fun p hp => hsub.subset hp)).1
    have hc : cutAt s i (.mk 5 0 [] [] f) = .mk 5 0 [] [] (f.eraseIdx i) := by simp only [cutAt, if_pos h1]
    rw [hc]
    refine ⟨q.2, ?_, val_map_mk (Nat.le_trans hsub.length_le v1) (nm_of (fun p hp => nm_names v2 p (hsub.subset hp)) hse) (fun p hp => v3 p (hsub.subset hp)), by simp only [T.size]; omega, ?_, ?_⟩
    · rw [findT_step, kid_map h1, if_pos rfl, q3]; rfl
    · rw [findT_step, kid_map h1, if_pos rfl, look_erase s.nm hsr q1, if_pos q2]
    · have he : entE s (.mk 5 0 [] [] (f.eraseIdx i)) = 0 := by unfold entE; simp [h1]
      have hk3 : ¬ (s.k = 3 ∧ hasK s.nm s.vl (setP [] ((kid s (.mk 5 0 [] [] (f.eraseIdx i))).getD (newT s)) q.2).1 = false) := fun h => by have := h.1; omega
      have h00 : ¬ ¬ (setP [] ((kid s (.mk 5 0 [] [] (f.eraseIdx i))).getD (newT s)) q.2).2 = 0 := by simp [setP]
      rw [setP, if_neg (not_not_intro he), if_neg h00, if_neg hk3]
      show (replT s q.2 (.mk 5 0 [] [] (f.eraseIdx i)), (0 : Int)) = _
      simp only [replT, if_pos h1, othK, if_true]
      rw [mapL_is hsr (fun k => ?_)]
      rw [lastOf_snoc]
      by_cases e : s.nm = k
      · subst e; rw [if_pos rfl, q3]
      · rw [if_neg e, lastOf_oth, if_neg e, lastOf_ssrt hse, look_erase k hsr q1, if_neg (by rw [q2]; exact e)]
  | s :: s' :: p, .mk k n y l f, w, d + 1, hs, hp, hl, hv, h => by
    obtain ⟨i, c, c', g1, g2, g3, rfl⟩ := remT_more h
    have hs0 := hs s (by simp)
    have hk : kid s (.mk k n y l f) = some c := by unfold kid; rw [g1]; exact g2
    obtain ⟨x, x1, x2, x3, x4, x5⟩ := rem_set (p := s' :: p) (t := c) (w := c') (d := d) (fun z hz => hs z (List.mem_cons_of_mem _ hz)) (fun z hz => hp z (List.mem_cons_of_mem _ hz)) (fun z hz => hl z (by rw [List.getLast?_cons_cons]; exact hz)) (val_kid hv hk) g3
    have hp0 := hp s (by simp)
    obtain ⟨i0, hkk⟩ := stepOk_ix hs0
    have hf1 : findT (.mk k n y l f) (s :: s' :: p) = some x := by rw [findT_step, hk]; exact x1
    refine ⟨x, hf1, ?_⟩
    have fin : ∀ W : T, Val (d + 1) W → W.size ≤ (T.mk k n y l f).size → kid s W = some c' → entE s W = 0 → replT s c W = .mk k n y l f → Val (d + 1) W ∧ W.size ≤ (T.mk k n y l f).size ∧ findT W (s :: s' :: p) = none ∧ setP (s :: s' :: p) W x = (.mk k n y l f, 0) := by
      intro W a1 a2 a3 a4 a5
      refine ⟨a1, a2, by rw [findT_step, a3]; exact x4, ?_⟩
      rw [setP, if_neg (not_not_intro a4), a3, Option.getD_some, x5]
      simp only
      rw [if_neg (by simp), if_neg (fun h => hp0 h.1), a5]
    by_cases h1 : s.k = 1
    · have g4 := g1
      simp only [place, if_pos h1] at g4
      by_cases h5 : k = 5
      case neg => rw [if_neg h5] at g4; cases g4
      subst h5
      rw [if_pos rfl] at g4
      obtain ⟨q, q1, q2, q3⟩ := plF_look.1 i g4
      obtain ⟨rfl, rfl, rfl, v1, v2, v3⟩ := val_map hv
      have hsr := ssrt_of_nm v2
      have hss := ssrt_set (c := c') hsr q1
      have hqc : q.2 = c := by
        simp only [kidAt, if_pos h1, q1, Option.map_some] at g2
        exact Option.some.inj g2
      have hz := sizeF_set (c := c') q1
      have hc : putAt s i c' (.mk 5 0 [] [] f) = .mk 5 0 [] [] (f.set i (q.1, c')) := by simp only [putAt, if_pos h1, q1]
      rw [hc]
      have hmem : ∀ z ∈ f.set i (q.1, c'), z ∈ f ∨ z = (q.1, c') := fun z hz => List.mem_or_eq_of_mem_set hz
      refine fin _ ?_ ?_ ?_ ?_ ?_
      · refine val_map_mk (by simpa using v1) (nm_of (fun z hz => ?_) hss) (fun z hz => ?_)
        · rcases hmem z hz with a | rfl
          · exact nm_names v2 z a
          · exact nm_names v2 q (List.mem_of_getElem? q1)
        · rcases hmem z hz with a | rfl
          · exact v3 z a
          · exact x2
      · simp only [T.size]; rw [hqc] at hz; omega
      · rw [kid_map h1, if_pos rfl, look_set s.nm c' hsr q1, if_pos q2]
      · unfold entE; simp [h1]
      · simp only [replT, if_pos h1, othK, if_true]
        rw [mapL_is hsr (fun k => ?_)]
        rw [lastOf_snoc]
        by_cases e : s.nm = k
        · subst e; rw [if_pos rfl, q3, hqc]
        · rw [if_neg e, lastOf_oth, if_neg e, lastOf_ssrt hss, look_set k c' hsr q1, if_neg (by rw [q2]; exact e)]
    · have h2 : s.k = 2 := by omega
      have g4 := g1
      simp only [place, if_neg h1, if_pos h2] at g4
      by_cases h4 : k = 4 ∧ s.ix < (l.length : Int)
      case neg => rw [if_neg h4] at g4; cases g4
      obtain ⟨rfl, hlt⟩ := h4
      rw [if_pos ⟨rfl, hlt⟩] at g4
      obtain rfl : s.ix.toNat = i := Option.some.inj g4
      obtain ⟨rfl, rfl, rfl, v1, v2⟩ := val_list hv
      have hli : l[s.ix.toNat]? = some c := by simpa only [kidAt, if_neg h1] using g2
      have hz := sizeL_set (y := c') hli
      have hc : putAt s s.ix.toNat c' (.mk 4 0 [] l []) = .mk 4 0 [] (l.set s.ix.toNat c') [] := by simp only [putAt, if_neg h1]
      rw [hc]
      have hil := (List.getElem?_eq_some_iff.1 hli).1
      have hplc : place s (.mk 4 0 [] (l.set s.ix.toNat c') []) = some s.ix.toNat := by
        simp only [place, if_neg h1, if_pos h2]
        rw [if_pos ⟨trivial, by rw [List.length_set]; exact hlt⟩]
      refine fin _ ?_ ?_ ?_ ?_ ?_
      · refine val_list_mk (by simpa using v1) (fun z hz => ?_)
        rcases List.mem_or_eq_of_mem_set hz with a | rfl
        · exact v2 z a
        · exact x2
      · simp only [T.size]; omega
      · rw [kid_ix h2 i0, if_pos rfl]; simp [hil]
      · unfold entE; simp [h1, h2]; omega
      · simp only [replT, if_neg h1, hplc, List.set_set]
        congr 1
        apply List.ext_getElem?
        intro j
        rw [List.getElem?_set]
        split
        · rename_i e; subst e; exact hli.symm
        · rfl
end Go.Proofs.YtjpmnlefjmdelaaGreatDoor
