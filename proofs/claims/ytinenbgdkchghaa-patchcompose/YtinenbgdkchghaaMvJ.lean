/- What the law of maps says of maps of fields: plain mathematics. JSON texts: sizes of what is read: plain mathematics. -/
import Derived.Test.YtinenbgdkchghaaMu
import Derived.Test.YtinenbgdkchghaaMaJ
import Derived.Test.YtinenbgdkchghaaCaJ
import Derived.Test.YtinenbgdkchghaaJa
set_option linter.unusedSimpArgs false
set_option linter.unusedVariables false
namespace Go.Proofs.Ytinenbgdkchghaa

theorem ssrt_of_nm {f : List (Str × T)} (h : NmTo f f.length) : SSrt f := by
  have key : ∀ (d i : Nat) (p q : Str × T), f[i]? = some p → f[i + d + 1]? = some q → cmpS p.1 q.1 = -1 := by
    intro d
    induction d with
    | zero =>
      intro i p q hp hq
      exact (h (i + 1) q (List.getElem?_eq_some_iff.1 hq).1 hq).2 p (by omega) hp
    | succ d ih =>
      intro i p q hp hq
      have hl := (List.getElem?_eq_some_iff.1 hq).1
      obtain ⟨r, hr⟩ : ∃ r, f[i + d + 1]? = some r := ⟨_, List.getElem?_eq_getElem (by omega)⟩
      exact cmpS_trans (ih i p r hp hr) ((h (i + (d + 1) + 1) q hl hq).2 r (by omega) (by rw [show i + (d + 1) + 1 - 1 = i + d + 1 by omega]; exact hr))
  refine List.pairwise_iff_getElem.2 fun i j hi hj hij => ?_
  exact key (j - i - 1) i f[i] f[j] (List.getElem?_eq_getElem hi) (by rw [show i + (j - i - 1) + 1 = j by omega]; exact List.getElem?_eq_getElem hj)
theorem look_self {l : List (Str × T)} (h : SSrt l) {p : Str × T} (hp : p ∈ l) : look p.1 l = some p.2 := by
  induction l with
  | nil => cases hp
  | cons q r ih =>
    obtain ⟨x, t⟩ := q
    rw [look_cons]
    rcases List.mem_cons.1 hp with rfl | hp
    · rw [if_pos rfl]
    · rw [if_neg (cmpS_ne (h.head p hp)), ih h.tail hp]
theorem lastOf_mem {l : List (Str × T)} {k : Str} {t : T} (h : lastOf k l = some t) : (k, t) ∈ l := by
  unfold lastOf at h
  cases hq : (l.filter (fun p => decide (p.1 = k))).getLast? with
  | none => rw [hq] at h; cases h
  | some p =>
    rw [hq] at h
    have h1 := List.mem_of_getLast? hq
    obtain ⟨h2, h3⟩ := List.mem_filter.1 h1
    obtain ⟨a, b⟩ := p
    simp at h h3
    subst h h3
    exact h2
theorem MapOf.mem {l M : List (Str × T)} (h : MapOf l M) {p : Str × T} (hp : p ∈ M) : p ∈ l := by
  have := look_self h.srt hp
  rw [h.look] at this
  exact lastOf_mem this
theorem sub_size {M : List (Str × T)} (hs : SSrt M) : ∀ {l : List (Str × T)}, (∀ p ∈ M, p ∈ l) → sizeF M ≤ sizeF l ∧ M.length ≤ l.length := by
  induction M with
  | nil => intro l _; have := sizeF_nonneg l; simp [sizeF]; exact this
  | cons p r ih =>
    obtain ⟨x, t⟩ := p
    intro l h
    obtain ⟨l1, l2, rfl⟩ := List.append_of_mem (h (x, t) List.mem_cons_self)
    have := ih hs.tail (l := l1 ++ l2) (fun q hq => by
      have h1 := h q (List.mem_cons_of_mem _ hq)
      rcases List.mem_append.1 h1 with h1 | h1
      · exact List.mem_append_left _ h1
      · rcases List.mem_cons.1 h1 with rfl | h1
        · exact absurd rfl (cmpS_ne (hs.head _ hq))
        · exact List.mem_append_right _ h1)
    rw [sizeF_append] at this ⊢
    simp [sizeF] at this ⊢
    omega
theorem MapOf.size {l M : List (Str × T)} (h : MapOf l M) : sizeF M ≤ sizeF l ∧ M.length ≤ l.length := sub_size h.srt (fun _ hp => h.mem hp)
theorem oth_size (nm : Str) (f : List (Str × T)) : sizeF (oth nm f) ≤ sizeF f := by
  induction f with
  | nil => simp [oth, sizeF]
  | cons p r ih =>
    obtain ⟨x, t⟩ := p
    have := size_pos t
    unfold oth at ih ⊢
    rw [List.filter_cons]
    split
    · simp [sizeF]; omega
    · simp [sizeF]; omega
/- the law's parts -/
section
variable {f M1 : List (Str × T)} {nm : Str} {x : T}
theorem law_found (h : MapOf (oth nm f ++ [(nm, x)]) M1) : look nm M1 = some x := by rw [h.look, lastOf_snoc, if_pos rfl]
theorem law_without (h : MapOf (oth nm f ++ [(nm, x)]) M1) {M2 M3 : List (Str × T)} (h2 : MapOf (oth nm M1) M2) (h3 : MapOf (oth nm f) M3) : M2 = M3 :=
  ssrt_unique h2.srt h3.srt (fun k => by
    rw [h2.look, h3.look, lastOf_oth, lastOf_oth]
    by_cases e : nm = k
    · rw [if_pos e, if_pos e]
    · rw [if_neg e, if_neg e, lastOf_ssrt h.srt, h.look, lastOf_snoc, if_neg e, lastOf_oth, if_neg e])
theorem law_gone {M3 : List (Str × T)} (h3 : MapOf (oth nm f) M3) : look nm M3 = none := by rw [h3.look, lastOf_oth, if_pos rfl]
theorem law_same (hs : SSrt f) (hx : look nm f = some x) {M4 : List (Str × T)} (h4 : MapOf (oth nm f ++ [(nm, x)]) M4) : M4 = f :=
  ssrt_unique h4.srt hs (fun k => by
    rw [h4.look, lastOf_snoc]
    by_cases e : nm = k
    · subst e; rw [if_pos rfl, hx]
    · rw [if_neg e, lastOf_oth, if_neg e, lastOf_ssrt hs])
theorem law_other (hs : SSrt f) (h : MapOf (oth nm f ++ [(nm, x)]) M1) {o : Str} (ho : ¬ nm = o) : look o f = look o M1 := by
  rw [h.look, lastOf_snoc, if_neg ho, lastOf_oth, if_neg ho, lastOf_ssrt hs]
end
end Go.Proofs.Ytinenbgdkchghaa
namespace Go.Proofs.Ytinenbgdkchghaa

theorem skp_skp (r : Str) : skp (skp r) = skp r := by
  induction r with
  | nil => rfl
  | cons c r ih =>
    cases h : blk c
    · simp [skp, h]
    · simpa [skp, h] using ih
structure PVOk (pv : PV) : Prop where
  skp : ∀ full n r, pv full n (skp r) = pv full n r
  full : ∀ n r p, pv true n r ≠ .ok p
  size : ∀ full n r t n' r', n ≤ 600 → pv full n r = .ok (t, n', r') → n' ≤ 600 ∧ t.size ≤ (n' : Int) - n

theorem elemsR_size {pv : PV} (H : PVOk pv) : ∀ (m n : Nat) (r : Str) (l : List T) (n' : Nat) (r' : Str), n ≤ 600 → elemsR pv m n r = .ok (l, n', r') → n' ≤ 600 ∧ sizeL l ≤ (n' : Int) - n := by
  intro m
  induction m with
  | zero =>
    intro n r l n' r' hn h
    unfold elemsR at h
    cases hp : pv (decide (0 = 0)) n r with
    | er a b => rw [hp] at h; cases h
    | ok p => exact absurd hp (H.full n r p)
  | succ m ih =>
    intro n r l n' r' hn h
    unfold elemsR at h
    cases hp : pv (decide (m + 1 = 0)) n r with
    | er a b => rw [hp] at h; cases h
    | ok p =>
      obtain ⟨t, n1, r1⟩ := p
      obtain ⟨h1, h2⟩ := H.size _ _ _ _ _ _ hn hp
      rw [hp] at h
      simp only at h
      cases hs : skp r1 with
      | nil => rw [hs] at h; cases h
      | cons c r2 =>
        rw [hs] at h
        simp only at h
        split at h
        · cases h; simp [sizeL]; exact ⟨h1, by omega⟩
        · split at h
          · cases he : elemsR pv m n1 r2 with
            | er a b => rw [he] at h; cases h
            | ok q =>
              obtain ⟨l2, n2, r3⟩ := q
              rw [he] at h
              cases h
              obtain ⟨h3, h4⟩ := ih _ _ _ _ _ h1 he
              exact ⟨h3, by simp only [sizeL]; omega⟩
          · cases h
theorem fieldR_size {pv : PV} (H : PVOk pv) {m : Nat} {seen : List Str} {n : Nat} {r : Str} {p : Str × T} {n' : Nat} {r' : Str} (hn : n ≤ 600) (h : fieldR pv m seen n r = .ok (p, n', r')) : ¬ m = 0 ∧ n' ≤ 600 ∧ p.2.size ≤ (n' : Int) - n := by
  unfold fieldR at h
  split at h
  · cases h
  · split at h
    · cases h
    · split at h
      · cases h
      · rename_i hm
        split at h
        · cases h
        · split at h
          · cases h
          · split at h
            · cases h
            · split at h
              · cases h
              · rename_i hp
                cases h
                exact ⟨hm, H.size _ _ _ _ _ _ hn hp⟩
theorem membersR_size {pv : PV} (H : PVOk pv) : ∀ (m : Nat) (seen : List Str) (n : Nat) (r : Str) (l : List (Str × T)) (n' : Nat) (r' : Str), n ≤ 600 → membersR pv m seen n r = .ok (l, n', r') → n' ≤ 600 ∧ sizeF l ≤ (n' : Int) - n := by
  intro m
  induction m with
  | zero =>
    intro seen n r l n' r' hn h
    unfold membersR at h
    cases hp : fieldR pv 0 seen n r with
    | er a b => rw [hp] at h; cases h
    | ok p => obtain ⟨q, n1, r1⟩ := p; exact absurd rfl (fieldR_size H hn hp).1
  | succ m ih =>
    intro seen n r l n' r' hn h
    unfold membersR at h
    cases hp : fieldR pv (m + 1) seen n r with
    | er a b => rw [hp] at h; cases h
    | ok p =>
      obtain ⟨q, n1, r1⟩ := p
      obtain ⟨-, h1, h2⟩ := fieldR_size H hn hp
      rw [hp] at h
      simp only at h
      cases hs : skp r1 with
      | nil => rw [hs] at h; cases h
      | cons c r2 =>
        rw [hs] at h
        simp only at h
        split at h
        · cases h; obtain ⟨x, t⟩ := q; simp [sizeF] at h2 ⊢; exact ⟨h1, by omega⟩
        · split at h
          · cases he : membersR pv m (seen ++ [q.1]) n1 r2 with
            | er a b => rw [he] at h; cases h
            | ok q2 =>
              obtain ⟨l2, n2, r3⟩ := q2
              rw [he] at h
              cases h
              obtain ⟨h3, h4⟩ := ih _ _ _ _ _ _ h1 he
              obtain ⟨x, t⟩ := q
              exact ⟨h3, by simp only [sizeF] at h2 ⊢; omega⟩
          · cases h
theorem mapL_of_aux : ∀ (l l0 M0 : List (Str × T)), MapOf l0 M0 → MapOf (l0 ++ l) (l.foldl (fun M p => pf p.1 p.2 false M) M0) := by
  intro l
  induction l with
  | nil => intro l0 M0 h; simpa using h
  | cons p l ih =>
    intro l0 M0 h
    have := ih (l0 ++ [p]) _ (h.put p.1 p.2)
    simpa using this
theorem mapL_of (l : List (Str × T)) : MapOf l (mapL l) := by
  have := mapL_of_aux l [] [] (mapOf_self List.Pairwise.nil)
  simpa [mapL] using this
theorem listR_size {pv : PV} (H : PVOk pv) {n : Nat} {r : Str} {t : T} {n' : Nat} {r' : Str} (hn : n ≤ 600) (h : listR pv n r = .ok (t, n', r')) : n' ≤ 600 ∧ t.size ≤ (n' : Int) - n + 1 := by
  unfold listR at h
  split at h
  · cases h
  · split at h
    · cases h; simp [T.size, sizeL, sizeF]; exact hn
    · split at h
      · cases h
      · rename_i he
        cases h
        obtain ⟨h1, h2⟩ := elemsR_size H _ _ _ _ _ _ hn he
        exact ⟨h1, by simp only [T.size, sizeF]; omega⟩
theorem mapR_size {pv : PV} (H : PVOk pv) {n : Nat} {r : Str} {t : T} {n' : Nat} {r' : Str} (hn : n ≤ 600) (h : mapR pv n r = .ok (t, n', r')) : n' ≤ 600 ∧ t.size ≤ (n' : Int) - n + 1 := by
  unfold mapR at h
  split at h
  · cases h
  · split at h
    · cases h; simp [T.size, sizeL, sizeF]; exact hn
    · split at h
      · cases h
      · rename_i l _ _ he
        cases h
        obtain ⟨h1, h2⟩ := membersR_size H _ _ _ _ _ _ _ hn he
        have h3 := (mapL_of l).size.1
        exact ⟨h1, by simp only [T.size, sizeL]; omega⟩
theorem wordV_size {n : Nat} {t t' : T} {x : R Str} {n' : Nat} {r' : Str} (ht : t.size = 1) (h : wordV n t x = .ok (t', n', r')) : n' = n ∧ t'.size = 1 := by
  cases x <;> simp only [wordV] at h <;> cases h
  exact ⟨rfl, ht⟩
theorem wrapR_size {α : Type} {n : Nat} {f : α → T} {x : R (α × Str)} {t' : T} {n' : Nat} {r' : Str} (hf : ∀ a, (f a).size = 1) (h : wrapR n f x = .ok (t', n', r')) : n' = n ∧ t'.size = 1 := by
  cases x with
  | er a b => cases h
  | ok p => obtain ⟨a, r⟩ := p; cases h; exact ⟨rfl, hf a⟩
theorem bodyR_size {pv : PV} (H : PVOk pv) {n : Nat} {c : UInt8} {r : Str} {t : T} {n' : Nat} {r' : Str} (hn : n + 1 ≤ 600) (h : bodyR pv (n + 1) c r = .ok (t, n', r')) : n' ≤ 600 ∧ t.size ≤ (n' : Int) - n := by
  have one : ∀ k m s, (T.mk k m s [] []).size = 1 := fun k m s => by simp [T.size, sizeL, sizeF]
  unfold bodyR at h
  split at h
  · obtain ⟨rfl, h2⟩ := wordV_size (one _ _ _) h; exact ⟨hn, by omega⟩
  split at h
  · obtain ⟨rfl, h2⟩ := wordV_size (one _ _ _) h; exact ⟨hn, by omega⟩
  split at h
  · obtain ⟨rfl, h2⟩ := wordV_size (one _ _ _) h; exact ⟨hn, by omega⟩
  split at h
  · obtain ⟨rfl, h2⟩ := wrapR_size (fun _ => one _ _ _) h; exact ⟨hn, by omega⟩
  split at h
  · obtain ⟨h1, h2⟩ := listR_size H hn h; exact ⟨h1, by omega⟩
  split at h
  · obtain ⟨h1, h2⟩ := mapR_size H hn h; exact ⟨h1, by omega⟩
  · obtain ⟨rfl, h2⟩ := wrapR_size (fun _ => one _ _ _) h; exact ⟨hn, by omega⟩
theorem valR_zero (full : Bool) (n : Nat) (r : Str) : valR 0 full n r = match skp r with
    | [] => .er 0 3
    | c :: r1 => if bgn c = false then .er (r1.length + 1) 2 else .er (r1.length + 1) 4 := by
  unfold valR
  cases skp r with
  | nil => rfl
  | cons c r1 => simp
theorem valR_succ (f : Nat) (full : Bool) (n : Nat) (r : Str) : valR (f + 1) full n r = match skp r with
    | [] => .er 0 3
    | c :: r1 => if bgn c = false then .er (r1.length + 1) 2 else if full = true ∨ n = 600 then .er (r1.length + 1) 4 else bodyR (valR f) (n + 1) c r1 := by
  rw [valR]
  cases skp r with
  | nil => rfl
  | cons c r1 => simp
theorem valR_ok : ∀ f, PVOk (valR f) := by
  intro f
  induction f with
  | zero =>
    refine ⟨fun full n r => ?_, fun n r p h => ?_, fun full n r t n' r' hn h => ?_⟩
    · rw [valR_zero, valR_zero, skp_skp]
    · rw [valR_zero] at h
      split at h
      · cases h
      · split at h <;> cases h
    · rw [valR_zero] at h
      split at h
      · cases h
      · split at h <;> cases h
  | succ f ih =>
    refine ⟨fun full n r => ?_, fun n r p h => ?_, fun full n r t n' r' hn h => ?_⟩
    · rw [valR_succ, valR_succ, skp_skp]
    · rw [valR_succ] at h
      split at h
      · cases h
      · split at h
        · cases h
        · simp at h
    · rw [valR_succ] at h
      split at h
      · cases h
      · split at h
        · cases h
        · split at h
          · cases h
          · exact bodyR_size ih (by omega) h
end Go.Proofs.Ytinenbgdkchghaa
