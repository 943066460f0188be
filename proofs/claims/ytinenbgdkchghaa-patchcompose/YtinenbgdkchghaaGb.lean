/- Two maps gone through side by side, name after name: plain mathematics; merging, differences and composition so. -/
import Derived.Test.YtinenbgdkchghaaGa
set_option linter.unusedSimpArgs false
set_option linter.unusedVariables false
namespace Go.Proofs.Ytinenbgdkchghaa

/-- what two lists of fields have under each name -/
def prs : Nat → List (Str × T) → List (Str × T) → List (Str × (Option T × Option T))
  | 0, _, _ => []
  | _ + 1, [], [] => []
  | n + 1, (x, t) :: A, [] => (x, (some t, none)) :: prs n A []
  | n + 1, [], (y, u) :: B => (y, (none, some u)) :: prs n [] B
  | n + 1, (x, t) :: A, (y, u) :: B => if cmpS x y = -1 then (x, (some t, none)) :: prs n A ((y, u) :: B)
    else if cmpS x y = 0 then (y, (some t, some u)) :: prs n A B else (y, (none, some u)) :: prs n ((x, t) :: A) B
def both {α β : Type} : Option α → Option β → Option (Option α × Option β)
  | none, none => none
  | a, b => some (a, b)
theorem prs_nil (n : Nat) : prs n [] [] = [] := by cases n <;> rfl
theorem prs_mem : ∀ {n : Nat} {A B : List (Str × T)} {p : Str × (Option T × Option T)}, p ∈ prs n A B → (∃ q ∈ A, q.1 = p.1) ∨ ∃ q ∈ B, q.1 = p.1
  | 0, _, _, p, h => by cases h
  | n + 1, [], [], p, h => by rw [prs_nil] at h; cases h
  | n + 1, (x, t) :: A, [], p, h => by
    rw [prs] at h
    rcases List.mem_cons.1 h with rfl | h
    · exact Or.inl ⟨(x, t), by simp, rfl⟩
    · rcases prs_mem h with ⟨q, h1, h2⟩ | ⟨q, h1, h2⟩
      · exact Or.inl ⟨q, by simp [h1], h2⟩
      · cases h1
  | n + 1, [], (y, u) :: B, p, h => by
    rw [prs] at h
    rcases List.mem_cons.1 h with rfl | h
    · exact Or.inr ⟨(y, u), by simp, rfl⟩
    · rcases prs_mem h with ⟨q, h1, h2⟩ | ⟨q, h1, h2⟩
      · cases h1
      · exact Or.inr ⟨q, by simp [h1], h2⟩
  | n + 1, (x, t) :: A, (y, u) :: B, p, h => by
    rw [prs] at h
    split at h
    · rcases List.mem_cons.1 h with rfl | h
      · exact Or.inl ⟨(x, t), by simp, rfl⟩
      · rcases prs_mem h with ⟨q, h1, h2⟩ | ⟨q, h1, h2⟩
        · exact Or.inl ⟨q, List.mem_cons_of_mem _ h1, h2⟩
        · exact Or.inr ⟨q, h1, h2⟩
    · split at h
      · rcases List.mem_cons.1 h with rfl | h
        · exact Or.inr ⟨(y, u), by simp, rfl⟩
        · rcases prs_mem h with ⟨q, h1, h2⟩ | ⟨q, h1, h2⟩
          · exact Or.inl ⟨q, List.mem_cons_of_mem _ h1, h2⟩
          · exact Or.inr ⟨q, List.mem_cons_of_mem _ h1, h2⟩
      · rcases List.mem_cons.1 h with rfl | h
        · exact Or.inr ⟨(y, u), by simp, rfl⟩
        · rcases prs_mem h with ⟨q, h1, h2⟩ | ⟨q, h1, h2⟩
          · exact Or.inl ⟨q, h1, h2⟩
          · exact Or.inr ⟨q, List.mem_cons_of_mem _ h1, h2⟩
theorem SSrt.cons' {β : Type} {x : Str} {t : β} {r : List (Str × β)} (h : ∀ p ∈ r, cmpS x p.1 = -1) (hr : SSrt r) : SSrt ((x, t) :: r) := List.pairwise_cons.2 ⟨h, hr⟩
theorem prs_srt : ∀ {n : Nat} {A B : List (Str × T)}, SSrt A → SSrt B → SSrt (prs n A B)
  | 0, _, _, _, _ => List.Pairwise.nil
  | n + 1, [], [], _, _ => by rw [prs_nil]; exact List.Pairwise.nil
  | n + 1, (x, t) :: A, [], hA, hB => by
    rw [prs]
    refine SSrt.cons' (fun p hp => ?_) (prs_srt hA.tail hB)
    rcases prs_mem hp with ⟨q, h1, h2⟩ | ⟨q, h1, h2⟩
    · rw [← h2]; exact hA.head q h1
    · cases h1
  | n + 1, [], (y, u) :: B, hA, hB => by
    rw [prs]
    refine SSrt.cons' (fun p hp => ?_) (prs_srt hA hB.tail)
    rcases prs_mem hp with ⟨q, h1, h2⟩ | ⟨q, h1, h2⟩
    · cases h1
    · rw [← h2]; exact hB.head q h1
  | n + 1, (x, t) :: A, (y, u) :: B, hA, hB => by
    rw [prs]
    split
    · rename_i h
      refine SSrt.cons' (fun p hp => ?_) (prs_srt hA.tail hB)
      rcases prs_mem hp with ⟨q, h1, h2⟩ | ⟨q, h1, h2⟩
      · rw [← h2]; exact hA.head q h1
      · rw [← h2]
        rcases List.mem_cons.1 h1 with rfl | h1
        · exact h
        · exact cmpS_trans h (hB.head q h1)
    · rename_i h
      split
      · rename_i h0
        have e := cmpS_zero h0
        subst e
        refine SSrt.cons' (fun p hp => ?_) (prs_srt hA.tail hB.tail)
        rcases prs_mem hp with ⟨q, h1, h2⟩ | ⟨q, h1, h2⟩
        · rw [← h2]; exact hA.head q h1
        · rw [← h2]; exact hB.head q h1
      · rename_i h0
        have hyx : cmpS y x = -1 := by
          rcases cmpS_tri x y with a | a | a
          · exact absurd a h
          · exact absurd a h0
          · rw [cmpS_anti, a]
        refine SSrt.cons' (fun p hp => ?_) (prs_srt hA hB.tail)
        rcases prs_mem hp with ⟨q, h1, h2⟩ | ⟨q, h1, h2⟩
        · rw [← h2]
          rcases List.mem_cons.1 h1 with rfl | h1
          · exact hyx
          · exact cmpS_trans hyx (hA.head q h1)
        · rw [← h2]; exact hB.head q h1
theorem both_none {α β : Type} (a : Option α) : both a (none : Option β) = a.map (fun x => (some x, none)) := by cases a <;> rfl
theorem none_both {α β : Type} (b : Option β) : both (none : Option α) b = b.map (fun x => (none, some x)) := by cases b <;> rfl
theorem prs_look : ∀ {n : Nat} {A B : List (Str × T)} (k : Str), A.length + B.length ≤ n → SSrt A → SSrt B → look k (prs n A B) = both (look k A) (look k B)
  | 0, A, B, k, hn, _, _ => by
    obtain rfl : A = [] := List.eq_nil_of_length_eq_zero (by omega)
    obtain rfl : B = [] := List.eq_nil_of_length_eq_zero (by omega)
    rfl
  | n + 1, [], [], k, _, _, _ => by rw [prs_nil]; rfl
  | n + 1, (x, t) :: A, [], k, hn, hA, hB => by
    rw [prs, look_cons, look_cons, prs_look k (by simp at hn ⊢; omega) hA.tail hB]
    by_cases e : x = k
    · rw [if_pos e, if_pos e]; rfl
    · rw [if_neg e, if_neg e]
  | n + 1, [], (y, u) :: B, k, hn, hA, hB => by
    rw [prs, look_cons, look_cons, prs_look k (by simp at hn ⊢; omega) hA hB.tail]
    by_cases e : y = k
    · rw [if_pos e, if_pos e]; rfl
    · rw [if_neg e, if_neg e]
  | n + 1, (x, t) :: A, (y, u) :: B, k, hn, hA, hB => by
    have hl : A.length + 1 + (B.length + 1) ≤ n + 1 := by simpa using hn
    rw [prs]
    split
    · rename_i h
      rw [look_cons, prs_look k (by simp; omega) hA.tail hB, look_cons k x]
      by_cases e : x = k
      · subst e
        rw [if_pos rfl, if_pos rfl, look_low hB h]; rfl
      · rw [if_neg e, if_neg e]
    · rename_i h
      split
      · rename_i h0
        have e := cmpS_zero h0
        subst e
        rw [look_cons, prs_look k (by omega) hA.tail hB.tail, look_cons, look_cons]
        by_cases e : x = k
        · rw [if_pos e, if_pos e, if_pos e]; rfl
        · rw [if_neg e, if_neg e, if_neg e]
      · rename_i h0
        have hyx : cmpS y x = -1 := by
          rcases cmpS_tri x y with a | a | a
          · exact absurd a h
          · exact absurd a h0
          · rw [cmpS_anti, a]
        rw [look_cons, prs_look k (by simp; omega) hA hB.tail, look_cons k y u]
        by_cases e : y = k
        · subst e
          rw [if_pos rfl, if_pos rfl, look_low hA hyx]; rfl
        · rw [if_neg e, if_neg e]

/-- what is made of each name -/
def zG (g : Option T → Option T → Option T) (l : List (Str × (Option T × Option T))) : List (Str × T) := l.filterMap (fun p => (g p.2.1 p.2.2).map (fun t => (p.1, t)))
theorem zG_nil (g : Option T → Option T → Option T) : zG g [] = [] := rfl
theorem zG_snoc (g : Option T → Option T → Option T) (l : List (Str × (Option T × Option T))) (x : Str) (a b : Option T) : zG g (l ++ [(x, (a, b))]) = zG g l ++ ((g a b).map (fun t => (x, t))).toList := by
  unfold zG; rw [List.filterMap_append]
  congr 1
theorem zG_mem {g : Option T → Option T → Option T} {l : List (Str × (Option T × Option T))} {p : Str × T} (h : p ∈ zG g l) : ∃ q ∈ l, q.1 = p.1 := by
  unfold zG at h
  rw [List.mem_filterMap] at h
  obtain ⟨q, h1, h2⟩ := h
  refine ⟨q, h1, ?_⟩
  cases h3 : g q.2.1 q.2.2 with
  | none => rw [h3] at h2; cases h2
  | some t => rw [h3] at h2; simp at h2; rw [← h2]
theorem zG_cons (g : Option T → Option T → Option T) (x : Str) (a b : Option T) (l : List (Str × (Option T × Option T))) : zG g ((x, (a, b)) :: l) = ((g a b).map (fun t => (x, t))).toList ++ zG g l := by
  unfold zG
  rw [List.filterMap_cons]
  cases h : g a b <;> simp
theorem zG_srt {g : Option T → Option T → Option T} : ∀ {l : List (Str × (Option T × Option T))}, SSrt l → SSrt (zG g l)
  | [], _ => List.Pairwise.nil
  | (x, (a, b)) :: l, h => by
    rw [zG_cons]
    cases hg : g a b with
    | none => exact zG_srt h.tail
    | some t =>
      refine SSrt.cons' (fun p hp => ?_) (zG_srt h.tail)
      obtain ⟨q, h1, h2⟩ := zG_mem hp
      rw [← h2]; exact h.head q h1
theorem zG_look {g : Option T → Option T → Option T} (k : Str) : ∀ {l : List (Str × (Option T × Option T))}, SSrt l → look k (zG g l) = (look k l).bind (fun ab => g ab.1 ab.2)
  | [], _ => rfl
  | (x, (a, b)) :: l, h => by
    rw [zG_cons, look_cons]
    have hn : x = k → look k (zG g l) = none := fun e => look_none (fun p hp => by
      obtain ⟨q, h1, h2⟩ := zG_mem hp
      rw [← h2, ← e]; exact Ne.symm (cmpS_ne (h.head q h1)))
    cases hg : g a b with
    | none =>
      show look k (zG g l) = _
      by_cases e : x = k
      · rw [if_pos e, hn e]; simp [hg]
      · rw [if_neg e]; exact zG_look k h.tail
    | some t =>
      show look k ((x, t) :: zG g l) = _
      rw [look_cons]
      by_cases e : x = k
      · rw [if_pos e, if_pos e]; simp [hg]
      · rw [if_neg e, if_neg e]; exact zG_look k h.tail

def gM (a b : Option T) : Option T := match b with
  | none => a
  | some t => if kd t = 0 then none else some (mrgT t (a.getD T0))
def gC (a b : Option T) : Option T := match b with
  | none => a
  | some t => match a with
    | none => some t
    | some u => some (cpoT t u)
def gD (a b : Option T) : Option T := match b with
  | none => some T0
  | some t => match a with
    | none => some t
    | some u => if kd u = 5 ∧ kd t = 5 then (if fls (difT t u) = [] then none else some (difT t u)) else if cmpT u t = 0 then none else some t
theorem zip_mrg {A B : List (Str × T)} (hA : SSrt A) (hB : SSrt B) {n : Nat} (hn : A.length + B.length ≤ n) : zG gM (prs n A B) = mrgF B A := by
  refine ssrt_unique (zG_srt (prs_srt hA hB)) (mrgF_srt hA) (fun k => ?_)
  rw [zG_look k (prs_srt hA hB), prs_look k hn hA hB, mrgF_look k hB hA]
  cases look k A <;> cases look k B <;> rfl
theorem zip_cpo {A B : List (Str × T)} (hA : SSrt A) (hB : SSrt B) {n : Nat} (hn : A.length + B.length ≤ n) : zG gC (prs n A B) = cpoF B A A := by
  refine ssrt_unique (zG_srt (prs_srt hA hB)) (cpoF_srt hA) (fun k => ?_)
  rw [zG_look k (prs_srt hA hB), prs_look k hn hA hB, cpoF_look k hB hA]
  cases look k A <;> cases look k B <;> rfl
theorem dif_nil {t u : T} (ht : Mp t) (hu : Mp u) (t5 : kd t = 5) (u5 : kd u = 5) : fls (difT t u) = [] ↔ cmpT u t = 0 := by
  constructor
  · intro h
    have hn : SSrt (nulF (fls u) (fls t) []) := nulF_srt List.Pairwise.nil
    rw [difT_map t5 u5, fls_map] at h
    have e : u = t := by
      rw [ht.form t5, hu.form u5]
      refine map_eq hu.fls ht.fls (fun k => ?_)
      have hk := difF_look (A := fls u) k ht.fls hn
      rw [h, nulF_look k List.Pairwise.nil] at hk
      cases hT : look k (fls t) with
      | none =>
        rw [hT] at hk
        cases hU : look k (fls u) with
        | none => rfl
        | some x => rw [hU] at hk; simp [look] at hk
      | some y =>
        rw [hT] at hk
        cases hU : look k (fls u) with
        | none => rw [hU] at hk; simp [look] at hk
        | some x =>
          rw [hU] at hk
          simp only at hk
          by_cases e : cmpT x y = 0
          · rw [cmpT_eq e]
          · rw [if_neg e] at hk; simp [look] at hk
    rw [e]; exact cmpT_refl t
  · intro h
    rw [cmpT_eq h, dif_self ht t5]; rfl
theorem zip_dif {A B : List (Str × T)} (hA : SSrt A) (hB : SSrt B) (hA2 : ∀ p ∈ A, Mp p.2) (hB2 : ∀ p ∈ B, Mp p.2) {n : Nat} (hn : A.length + B.length ≤ n) : zG gD (prs n A B) = difF B A (nulF A B []) := by
  have hs : SSrt (nulF A B []) := nulF_srt List.Pairwise.nil
  refine ssrt_unique (zG_srt (prs_srt hA hB)) (difF_srt hs) (fun k => ?_)
  rw [zG_look k (prs_srt hA hB), prs_look k hn hA hB, difF_look k hB hs, nulF_look k List.Pairwise.nil]
  cases hb : look k B with
  | none =>
    cases ha : look k A with
    | none => rfl
    | some u => simp [both, gD]
  | some t =>
    cases ha : look k A with
    | none => rfl
    | some u =>
      show gD (some u) (some t) = _
      unfold gD
      simp only
      by_cases h5 : kd u = 5 ∧ kd t = 5
      · have hd := dif_nil (hB2 _ (look_mem hb)) (hA2 _ (look_mem ha)) h5.2 h5.1
        simp only at hd
        rw [if_pos h5]
        by_cases e : cmpT u t = 0
        · rw [if_pos e, if_pos (hd.2 e)]; simp [look]
        · rw [if_neg e, if_neg (fun h => e (hd.1 h))]
      · rw [if_neg h5]
        by_cases e : cmpT u t = 0
        · rw [if_pos e, if_pos e]; simp [look]
        · rw [if_neg e, if_neg e, difT_leaf (fun h => h5 ⟨h.2, h.1⟩)]
end Go.Proofs.Ytinenbgdkchghaa
