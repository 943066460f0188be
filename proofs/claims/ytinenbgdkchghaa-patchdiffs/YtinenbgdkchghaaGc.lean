/- Merge patches: sizes of what is merged, of differences and of compositions, also while they are made: plain mathematics. -/
import Derived.Test.YtinenbgdkchghaaGb
set_option linter.unusedSimpArgs false
set_option linter.unusedVariables false
namespace Go.Proofs.Ytinenbgdkchghaa

theorem sizeF_otH (nm : Str) : ∀ f : List (Str × T), sizeF (oth nm f) ≤ sizeF f
  | [] => by simp [oth, sizeF]
  | (x, t) :: f => by
    have ih := sizeF_otH nm f
    have := size_pos t
    unfold oth at *
    rw [List.filter_cons]
    split <;> simp only [sizeF] <;> omega
theorem sizeF_otH_look {nm : Str} : ∀ {f : List (Str × T)} {u : T}, look nm f = some u → sizeF (oth nm f) + u.size ≤ sizeF f
  | [], u, h => by simp [look] at h
  | (x, t) :: f, u, h => by
    rw [look_cons] at h
    have h1 := sizeF_otH nm f
    unfold oth at *
    rw [List.filter_cons]
    by_cases e : x = nm
    · rw [if_pos e] at h
      cases h
      rw [if_neg (by simp [e])]
      simp only [sizeF]; omega
    · rw [if_neg e] at h
      have ih := sizeF_otH_look h
      unfold oth at ih
      rw [if_pos (by simp [e])]
      simp only [sizeF]; omega
theorem wo_size (x : Str) (M : List (Str × T)) : sizeF (wo x M) ≤ sizeF M := Int.le_trans (mapL_of _).size.1 (sizeF_otH x M)
theorem wi_size (x : Str) (t : T) (M : List (Str × T)) : sizeF (wi x t M) ≤ sizeF (oth x M) + t.size := by
  have h := (mapL_of (oth x M ++ [(x, t)])).size.1
  rw [sizeF_append] at h
  unfold wi
  simp only [sizeF] at h
  omega
theorem wi_size2 (x : Str) (t : T) (M : List (Str × T)) : sizeF (wi x t M) ≤ sizeF M + t.size := by
  have := wi_size x t M; have := sizeF_otH x M; omega
theorem fls_size (v : T) : sizeF (fls v) + 1 ≤ v.size := by
  by_cases h5 : kd v = 5
  · obtain ⟨k, n, s, l, f⟩ := v
    have := sizeL_nonneg l; have := sizeF_nonneg f
    have h5' : k = 5 := h5
    rw [fls_is h5']
    simp only [T.size]; omega
  · have := size_pos v
    rw [fls_not h5]
    simp only [sizeF]; omega
theorem fls_mem_size {v : T} {p : Str × T} (h : p ∈ fls v) : SizeOf.sizeOf p.2 < SizeOf.sizeOf v := by
  by_cases h5 : kd v = 5
  · obtain ⟨k', n, s, l, f⟩ := v
    have h5' : k' = 5 := h5
    rw [fls_is h5'] at h
    exact sizeOf_f h
  · rw [fls_not h5] at h; cases h
theorem mrgF_size_of : ∀ {f M : List (Str × T)}, (∀ p ∈ f, ∀ v, (mrgT p.2 v).size ≤ p.2.size + sizeF (fls v)) → sizeF (mrgF f M) ≤ sizeF f + sizeF M
  | [], M, _ => by rw [mrgF]; simp [sizeF]
  | (x, t) :: r, M, h => by
    rw [mrgF]
    have ih := mrgF_size_of (f := r) (M := if kd t = 0 then wo x M else wi x (mrgT t ((look x M).getD T0)) M) (fun p hp => h p (by simp [hp]))
    have hp := size_pos t
    have hM : sizeF (if kd t = 0 then wo x M else wi x (mrgT t ((look x M).getD T0)) M) ≤ sizeF M + t.size := by
      split
      · have := wo_size x M; omega
      · have h1 := wi_size x (mrgT t ((look x M).getD T0)) M
        have h2 := h (x, t) (by simp) ((look x M).getD T0)
        simp only at h2
        cases hl : look x M with
        | none =>
          rw [hl] at h1 h2
          simp only [Option.getD_none, fls_T0, sizeF] at h1 h2 ⊢
          have := sizeF_otH x M
          omega
        | some u =>
          rw [hl] at h1 h2
          simp only [Option.getD_some] at h1 h2 ⊢
          have := sizeF_otH_look hl
          have := fls_size u
          omega
    simp only [sizeF]
    omega
theorem mrg_size : ∀ (N : Nat) (t v : T), SizeOf.sizeOf t ≤ N → (mrgT t v).size ≤ t.size + sizeF (fls v)
  | 0, t, v, h => by cases t; simp at h
  | N + 1, t, v, h => by
    have hv := sizeF_nonneg (fls v)
    by_cases h5 : kd t = 5
    case neg => rw [mrgT_leaf h5]; omega
    rw [mrgT_map h5]
    have h1 := mrgF_size_of (f := fls t) (M := fls v) (fun p hp v => mrg_size N p.2 v (by have := fls_mem_size hp; omega))
    have h2 := fls_size t
    simp only [T.size, sizeL]
    omega
theorem mrgT_size (t v : T) : (mrgT t v).size ≤ t.size + sizeF (fls v) := mrg_size _ t v (Nat.le_refl _)
theorem mrgT_size2 (t v : T) : (mrgT t v).size ≤ t.size + v.size := by have := mrgT_size t v; have := fls_size v; omega
theorem mrgF_size (f M : List (Str × T)) : sizeF (mrgF f M) ≤ sizeF f + sizeF M := mrgF_size_of (fun p _ v => mrgT_size p.2 v)

theorem look_oth {x y : Str} {A : List (Str × T)} (h : ¬ x = y) : look y (oth x A) = look y A := by
  have := look_filter x y A
  unfold oth; rw [this, if_neg h]
theorem difF_oth {x : Str} : ∀ {f A M : List (Str × T)}, (∀ p ∈ f, ¬ x = p.1) → difF f (oth x A) M = difF f A M
  | [], A, M, _ => by rw [difF, difF]
  | (y, t) :: r, A, M, h => by
    rw [difF, difF, look_oth (h (y, t) (by simp)), difF_oth (fun p hp => h p (by simp [hp]))]
theorem cpoF_oth {x : Str} : ∀ {f A M : List (Str × T)}, (∀ p ∈ f, ¬ x = p.1) → cpoF f (oth x A) M = cpoF f A M
  | [], A, M, _ => by rw [cpoF, cpoF]
  | (y, t) :: r, A, M, h => by
    rw [cpoF, cpoF, look_oth (h (y, t) (by simp)), cpoF_oth (fun p hp => h p (by simp [hp]))]
theorem oth_mem' {x : Str} {A : List (Str × T)} {p : Str × T} (h : p ∈ oth x A) : p ∈ A := (List.mem_filter.1 h).1
theorem difF_size_of : ∀ {f A M : List (Str × T)}, SSrt f → (∀ p ∈ f, ∀ q ∈ A, (difT p.2 q.2).size ≤ p.2.size + q.2.size) → sizeF (difF f A M) ≤ sizeF f + sizeF A + sizeF M
  | [], A, M, _, _ => by have := sizeF_nonneg A; rw [difF]; simp only [sizeF]; omega
  | (x, t) :: r, A, M, hs, h => by
    rw [difF, ← difF_oth (x := x) (fun p hp => cmpS_ne (hs.head p hp))]
    have ih := fun M' => difF_size_of (f := r) (A := oth x A) (M := M') hs.tail (fun p hp q hq => h p (by simp [hp]) q (oth_mem' hq))
    have hp := size_pos t
    have ho := sizeF_otH x A
    simp only [sizeF]
    cases hl : look x A with
    | none =>
      dsimp only
      have := wi_size2 x t M
      have := ih (wi x t M); omega
    | some u =>
      have h1 := sizeF_otH_look hl
      have h2 := size_pos u
      have h4 := h (x, t) (by simp) (x, u) (look_mem hl)
      simp only at h4
      dsimp only
      split
      · have := ih M; omega
      · have h3 := wi_size2 x (difT t u) M
        have := ih (wi x (difT t u) M); omega
theorem cpoF_size_of : ∀ {f A M : List (Str × T)}, SSrt f → (∀ p ∈ f, ∀ q ∈ A, (cpoT p.2 q.2).size ≤ p.2.size + q.2.size) → sizeF (cpoF f A M) ≤ sizeF f + sizeF A + sizeF M
  | [], A, M, _, _ => by have := sizeF_nonneg A; rw [cpoF]; simp only [sizeF]; omega
  | (x, t) :: r, A, M, hs, h => by
    rw [cpoF, ← cpoF_oth (x := x) (fun p hp => cmpS_ne (hs.head p hp))]
    have ih := fun M' => cpoF_size_of (f := r) (A := oth x A) (M := M') hs.tail (fun p hp q hq => h p (by simp [hp]) q (oth_mem' hq))
    have hp := size_pos t
    have ho := sizeF_otH x A
    simp only [sizeF]
    cases hl : look x A with
    | none =>
      dsimp only
      have := wi_size2 x t M
      have := ih (wi x t M); omega
    | some u =>
      have h1 := sizeF_otH_look hl
      have h2 := size_pos u
      have h4 := h (x, t) (by simp) (x, u) (look_mem hl)
      simp only at h4
      dsimp only
      have h3 := wi_size2 x (cpoT t u) M
      have := ih (wi x (cpoT t u) M); omega
def szO : Option T → Int
  | none => 0
  | some t => t.size
def szP : List (Str × (Option T × Option T)) → Int
  | [] => 0
  | (_, (a, b)) :: r => szO a + szO b + szP r
theorem szO_nonneg (a : Option T) : 0 ≤ szO a := by cases a with
  | none => exact Int.le_refl _
  | some t => have := size_pos t; simp only [szO]; omega
theorem prs_size : ∀ (n : Nat) (A B : List (Str × T)), szP (prs n A B) ≤ sizeF A + sizeF B
  | 0, A, B => by have := sizeF_nonneg A; have := sizeF_nonneg B; simp only [prs, szP]; omega
  | n + 1, [], [] => by simp [prs, szP, sizeF]
  | n + 1, (x, t) :: A, [] => by have := prs_size n A []; simp only [prs, szP, szO, sizeF] at this ⊢; omega
  | n + 1, [], (y, u) :: B => by have := prs_size n [] B; simp only [prs, szP, szO, sizeF] at this ⊢; omega
  | n + 1, (x, t) :: A, (y, u) :: B => by
    have h1 := prs_size n A ((y, u) :: B)
    have h2 := prs_size n A B
    have h3 := prs_size n ((x, t) :: A) B
    rw [prs]
    split
    · simp only [szP, szO, sizeF] at *; omega
    · split
      · simp only [szP, szO, sizeF] at *; omega
      · simp only [szP, szO, sizeF] at *; omega
theorem zG_size {g : Option T → Option T → Option T} : ∀ {l : List (Str × (Option T × Option T))}, (∀ q ∈ l, ∀ r, g q.2.1 q.2.2 = some r → r.size ≤ szO q.2.1 + szO q.2.2) → sizeF (zG g l) ≤ szP l
  | [], _ => by simp [zG, sizeF, szP]
  | (x, (a, b)) :: l, h => by
    have ih := zG_size (l := l) (fun q hq => h q (by simp [hq]))
    have h0 := h (x, (a, b)) (by simp)
    simp only at h0
    rw [zG_cons, sizeF_append]
    have := szO_nonneg a; have := szO_nonneg b
    cases hg : g a b with
    | none => simp only [Option.map_none, Option.toList, sizeF, szP]; omega
    | some r =>
      have := h0 r hg
      simp only [Option.map_some, Option.toList, sizeF, szP]; omega
theorem prs_some : ∀ {n : Nat} {A B : List (Str × T)} {q : Str × (Option T × Option T)}, q ∈ prs n A B → (∀ t, q.2.1 = some t → ∃ x, (x, t) ∈ A) ∧ (∀ u, q.2.2 = some u → ∃ x, (x, u) ∈ B) ∧ ¬ (q.2.1 = none ∧ q.2.2 = none)
  | 0, _, _, q, h => by cases h
  | n + 1, [], [], q, h => by rw [prs_nil] at h; cases h
  | n + 1, (x, t) :: A, [], q, h => by
    rw [prs] at h
    rcases List.mem_cons.1 h with rfl | h
    · exact ⟨fun y hy => (by cases hy; exact ⟨x, by simp⟩), fun y hy => (by cases hy), by simp⟩
    · obtain ⟨h1, h2, h3⟩ := prs_some h
      exact ⟨fun y hy => by obtain ⟨z, hz⟩ := h1 y hy; exact ⟨z, by simp [hz]⟩, h2, h3⟩
  | n + 1, [], (y, u) :: B, q, h => by
    rw [prs] at h
    rcases List.mem_cons.1 h with rfl | h
    · exact ⟨fun z hz => (by cases hz), fun z hz => (by cases hz; exact ⟨y, by simp⟩), by simp⟩
    · obtain ⟨h1, h2, h3⟩ := prs_some h
      exact ⟨h1, fun z hz => by obtain ⟨a, ha⟩ := h2 z hz; exact ⟨a, by simp [ha]⟩, h3⟩
  | n + 1, (x, t) :: A, (y, u) :: B, q, h => by
    rw [prs] at h
    have up1 : (∃ z, (z, t) ∈ (x, t) :: A) := ⟨x, by simp⟩
    have up2 : (∃ z, (z, u) ∈ (y, u) :: B) := ⟨y, by simp⟩
    split at h
    · rcases List.mem_cons.1 h with rfl | h
      · exact ⟨fun z hz => (by cases hz; exact up1), fun z hz => (by cases hz), by simp⟩
      · obtain ⟨h1, h2, h3⟩ := prs_some h
        exact ⟨fun z hz => by obtain ⟨a, ha⟩ := h1 z hz; exact ⟨a, List.mem_cons_of_mem _ ha⟩, h2, h3⟩
    · split at h
      · rcases List.mem_cons.1 h with rfl | h
        · exact ⟨fun z hz => (by cases hz; exact up1), fun z hz => (by cases hz; exact up2), by simp⟩
        · obtain ⟨h1, h2, h3⟩ := prs_some h
          exact ⟨fun z hz => by obtain ⟨a, ha⟩ := h1 z hz; exact ⟨a, List.mem_cons_of_mem _ ha⟩, fun z hz => by obtain ⟨a, ha⟩ := h2 z hz; exact ⟨a, List.mem_cons_of_mem _ ha⟩, h3⟩
      · rcases List.mem_cons.1 h with rfl | h
        · exact ⟨fun z hz => (by cases hz), fun z hz => (by cases hz; exact up2), by simp⟩
        · obtain ⟨h1, h2, h3⟩ := prs_some h
          exact ⟨h1, fun z hz => by obtain ⟨a, ha⟩ := h2 z hz; exact ⟨a, List.mem_cons_of_mem _ ha⟩, h3⟩
theorem T0_size : T0.size = 1 := by simp [T0, T.size, sizeL, sizeF]
theorem cpo_size : ∀ (N : Nat) (t p : T), SizeOf.sizeOf t ≤ N → Mp t → Mp p → (cpoT t p).size ≤ t.size + p.size
  | 0, t, p, h, _, _ => by cases t; simp at h
  | N + 1, t, p, h, ht, hp => by
    have hv := size_pos p
    by_cases h5 : kd t = 5
    case neg => rw [cpoT_leaf h5]; omega
    by_cases p5 : kd p = 5
    case neg => rw [cpoT_null h5 p5]; have := mrgT_size t T0; rw [fls_T0] at this; simp only [sizeF] at this; omega
    rw [cpoT_map h5 p5, ← zip_cpo hp.fls ht.fls (Nat.le_refl _)]
    have h1 := zG_size (g := gC) (l := prs ((fls p).length + (fls t).length) (fls p) (fls t)) (fun q hq r hr => by
      obtain ⟨g1, g2, -⟩ := prs_some hq
      obtain ⟨x, a, b⟩ := q
      simp only at g1 g2 hr ⊢
      cases b with
      | none =>
        cases a with
        | none => cases hr
        | some u => cases hr; simp only [szO]; omega
      | some y =>
        cases a with
        | none => cases hr; simp only [szO]; omega
        | some u =>
          obtain ⟨z, hz⟩ := g2 y rfl
          obtain ⟨z2, hz2⟩ := g1 u rfl
          cases hr
          have := cpo_size N y u (by have := fls_mem_size hz; simp only at this; omega) (ht.kid hz) (hp.kid hz2)
          simp only [szO]; omega)
    have h2 := prs_size ((fls p).length + (fls t).length) (fls p) (fls t)
    have h3 := fls_size t; have h4 := fls_size p
    simp only [T.size, sizeL]
    omega
theorem dif_size : ∀ (N : Nat) (t p : T), SizeOf.sizeOf t ≤ N → Mp t → Mp p → (difT t p).size ≤ t.size + p.size
  | 0, t, p, h, _, _ => by cases t; simp at h
  | N + 1, t, p, h, ht, hp => by
    have hv := size_pos p
    by_cases h5 : kd t = 5 ∧ kd p = 5
    case neg => rw [difT_leaf h5]; omega
    rw [difT_map h5.1 h5.2, ← zip_dif hp.fls ht.fls (fun q hq => hp.kid hq) (fun q hq => ht.kid hq) (Nat.le_refl _)]
    have h1 := zG_size (g := gD) (l := prs ((fls p).length + (fls t).length) (fls p) (fls t)) (fun q hq r hr => by
      obtain ⟨g1, g2, g3⟩ := prs_some hq
      obtain ⟨x, a, b⟩ := q
      simp only at g1 g2 g3 hr ⊢
      unfold gD at hr
      cases b with
      | none =>
        cases a with
        | none => exact absurd ⟨rfl, rfl⟩ g3
        | some u => cases hr; have := size_pos u; rw [T0_size]; simp only [szO]; omega
      | some y =>
        cases a with
        | none => cases hr; simp only [szO]; omega
        | some u =>
          obtain ⟨z, hz⟩ := g2 y rfl
          obtain ⟨z2, hz2⟩ := g1 u rfl
          have ih := dif_size N y u (by have := fls_mem_size hz; simp only at this; omega) (ht.kid hz) (hp.kid hz2)
          have := size_pos u
          simp only [szO]
          simp only at hr
          split at hr
          · split at hr
            · cases hr
            · cases hr; omega
          · split at hr
            · cases hr
            · cases hr; omega)
    have h2 := prs_size ((fls p).length + (fls t).length) (fls p) (fls t)
    have h3 := fls_size t; have h4 := fls_size p
    simp only [T.size, sizeL]
    omega
theorem nulF_size : ∀ (f B M : List (Str × T)), sizeF (nulF f B M) ≤ sizeF f + sizeF M
  | [], B, M => by rw [nulF]; simp [sizeF]
  | (x, t) :: r, B, M => by
    rw [nulF]
    have ih := fun M' => nulF_size r B M'
    have hp := size_pos t
    simp only [sizeF]
    split
    · have h1 := wi_size2 x T0 M
      rw [T0_size] at h1
      have := ih (wi x T0 M); omega
    · have := ih M; omega
theorem difF_size {f A M : List (Str × T)} (hs : SSrt f) (hf : ∀ p ∈ f, Mp p.2) (hA : ∀ p ∈ A, Mp p.2) : sizeF (difF f A M) ≤ sizeF f + sizeF A + sizeF M :=
  difF_size_of hs (fun p hp q hq => dif_size _ _ _ (Nat.le_refl _) (hf p hp) (hA q hq))
theorem cpoF_size {f A M : List (Str × T)} (hs : SSrt f) (hf : ∀ p ∈ f, Mp p.2) (hA : ∀ p ∈ A, Mp p.2) : sizeF (cpoF f A M) ≤ sizeF f + sizeF A + sizeF M :=
  cpoF_size_of hs (fun p hp q hq => cpo_size _ _ _ (Nat.le_refl _) (hf p hp) (hA q hq))
theorem mrgF_snoc : ∀ (f : List (Str × T)) (x : Str) (t : T) (M : List (Str × T)), mrgF (f ++ [(x, t)]) M = if kd t = 0 then wo x (mrgF f M) else wi x (mrgT t ((look x (mrgF f M)).getD T0)) (mrgF f M)
  | [], x, t, M => by simp only [List.nil_append, mrgF]
  | (y, u) :: r, x, t, M => by rw [List.cons_append, mrgF, mrgF, mrgF_snoc r x t]
theorem nulF_snoc : ∀ (f : List (Str × T)) (x : Str) (t : T) (B M : List (Str × T)), nulF (f ++ [(x, t)]) B M = match look x B with
    | none => wi x T0 (nulF f B M)
    | some _ => nulF f B M
  | [], x, t, B, M => by simp only [List.nil_append, nulF]; cases look x B <;> rfl
  | (y, u) :: r, x, t, B, M => by rw [List.cons_append, nulF, nulF, nulF_snoc r x t]
theorem difF_snoc : ∀ (f : List (Str × T)) (x : Str) (t : T) (A M : List (Str × T)), difF (f ++ [(x, t)]) A M = match look x A with
    | none => wi x t (difF f A M)
    | some u => if cmpT u t = 0 then difF f A M else wi x (difT t u) (difF f A M)
  | [], x, t, A, M => by simp only [List.nil_append, difF]; cases look x A <;> rfl
  | (y, u) :: r, x, t, A, M => by rw [List.cons_append, difF, difF, difF_snoc r x t]
theorem cpoF_snoc : ∀ (f : List (Str × T)) (x : Str) (t : T) (A M : List (Str × T)), cpoF (f ++ [(x, t)]) A M = match look x A with
    | none => wi x t (cpoF f A M)
    | some u => wi x (cpoT t u) (cpoF f A M)
  | [], x, t, A, M => by simp only [List.nil_append, cpoF]; cases look x A <;> rfl
  | (y, u) :: r, x, t, A, M => by rw [List.cons_append, cpoF, cpoF, cpoF_snoc r x t]
end Go.Proofs.Ytinenbgdkchghaa
