/- Merge patches of value trees: merging, differences, composition: plain mathematics. -/
import Derived.Test.YtinenbgdkchghaaMvJ
import Derived.Test.YtinenbgdkchghaaCeJ
set_option linter.unusedSimpArgs false
set_option linter.unusedVariables false
namespace Go.Proofs.Ytinenbgdkchghaa

theorem mapl_look (l : List (Str × T)) (k : Str) : look k (mapL l) = lastOf k l := (mapL_of l).look k
theorem mapl_srt (l : List (Str × T)) : SSrt (mapL l) := (mapL_of l).srt
def kd : T → Int
  | .mk k _ _ _ _ => k
/-- the fields of a map; what is not a map has none -/
def fls : T → List (Str × T)
  | .mk k _ _ _ f => if k = 5 then f else []
theorem fls_T0 : fls T0 = [] := by simp [T0, fls]
theorem fls_not {t : T} (h : ¬ kd t = 5) : fls t = [] := by
  obtain ⟨k, n, s, l, f⟩ := t
  have h' : ¬ k = 5 := h
  show (if k = 5 then f else []) = []
  rw [if_neg h']
theorem fls_is {k n : Int} {s : Str} {l : List T} {f : List (Str × T)} (h : k = 5) : fls (.mk k n s l f) = f := by
  show (if k = 5 then f else []) = f
  rw [if_pos h]
theorem kd_T0 : kd T0 = 0 := rfl
/-- maps have their fields in order and nothing else, as far as maps alone lead -/
inductive Mp : T → Prop
  | leaf {t : T} (h : ¬ kd t = 5) : Mp t
  | map {f : List (Str × T)} (h : SSrt f) (h2 : ∀ p ∈ f, Mp p.2) : Mp (.mk 5 0 [] [] f)
theorem Mp.fls {t : T} (h : Mp t) : SSrt (fls t) := by
  cases h with
  | leaf h => rw [fls_not h]; exact List.Pairwise.nil
  | map h h2 => rw [fls_is rfl]; exact h
theorem Mp.kid {t : T} (h : Mp t) {p : Str × T} (hp : p ∈ Go.Proofs.Ytinenbgdkchghaa.fls t) : Mp p.2 := by
  cases h with
  | leaf h => rw [fls_not h] at hp; cases hp
  | map h h2 => rw [fls_is rfl] at hp; exact h2 p hp
theorem Mp.form {t : T} (h : Mp t) (hk : kd t = 5) : t = .mk 5 0 [] [] (Go.Proofs.Ytinenbgdkchghaa.fls t) := by
  cases h with
  | leaf h => exact absurd hk h
  | map h h2 => rw [fls_is rfl]
theorem mp_T0 : Mp T0 := .leaf (by rw [kd_T0]; omega)
theorem look_mem {k : Str} {t : T} {l : List (Str × T)} (h : look k l = some t) : (k, t) ∈ l := by
  unfold look at h
  cases hf : l.find? (fun p => decide (p.1 = k)) with
  | none => rw [hf] at h; cases h
  | some p =>
    rw [hf] at h
    have h1 := List.find?_some hf
    have h2 := List.mem_of_find?_eq_some hf
    simp only [decide_eq_true_eq] at h1
    simp only [Option.map_some, Option.some.injEq] at h
    rw [← h1, ← h]; exact h2
theorem Mp.look {t u : T} {k : Str} (h : Mp t) (hk : Go.Proofs.Ytinenbgdkchghaa.look k (Go.Proofs.Ytinenbgdkchghaa.fls t) = some u) : Mp u := h.kid (look_mem hk)
theorem Mp.getD {t : T} {k : Str} (h : Mp t) : Mp ((Go.Proofs.Ytinenbgdkchghaa.look k (Go.Proofs.Ytinenbgdkchghaa.fls t)).getD T0) := by
  cases hk : Go.Proofs.Ytinenbgdkchghaa.look k (Go.Proofs.Ytinenbgdkchghaa.fls t) with
  | none => exact mp_T0
  | some u => exact h.look hk
theorem val_mp : ∀ {d : Nat} {t : T}, Val d t → Mp t
  | 0, t, h => by cases t; exact absurd h (by simp [Val])
  | d + 1, .mk k n s l f, h => by
    by_cases hk : k = 5
    · subst hk
      rw [Val] at h
      obtain ⟨a1, a2, a3, a4, a5, a6, a7, a8⟩ := h
      obtain ⟨rfl, rfl⟩ : n = 0 ∧ s = [] := by
        rcases a1 with ⟨a, -⟩ | ⟨a, -⟩ | ⟨a, -⟩ | ⟨-, b, c⟩
        · omega
        · omega
        · omega
        · exact ⟨b, c⟩
      obtain rfl : l = [] := by
        rcases a4 with a | a
        · omega
        · exact List.eq_nil_of_length_eq_zero a
      exact .map (ssrt_of_nm a6) (fun p hp => val_mp (a8 p hp))
    · exact .leaf hk

/-- the reference's Without and With, as fields -/
def wo (x : Str) (M : List (Str × T)) : List (Str × T) := mapL (oth x M)
def wi (x : Str) (t : T) (M : List (Str × T)) : List (Str × T) := mapL (oth x M ++ [(x, t)])
theorem wo_look {x k : Str} {M : List (Str × T)} (h : SSrt M) : look k (wo x M) = if x = k then none else look k M := by
  unfold wo; rw [mapl_look, lastOf_oth]; split
  · rfl
  · rw [lastOf_ssrt h]
theorem wi_look {x k : Str} {t : T} {M : List (Str × T)} (h : SSrt M) : look k (wi x t M) = if x = k then some t else look k M := by
  unfold wi; rw [mapl_look, lastOf_snoc, lastOf_oth]; split
  · rfl
  · rw [lastOf_ssrt h]
theorem wo_srt (x : Str) (M : List (Str × T)) : SSrt (wo x M) := mapl_srt _
theorem wi_srt (x : Str) (t : T) (M : List (Str × T)) : SSrt (wi x t M) := mapl_srt _

mutual
/-- what a patch (the first) makes of a value -/
def mrgT : T → T → T
  | .mk k n s l f, v => if k = 5 then .mk 5 0 [] [] (mrgF f (fls v)) else .mk k n s l f
def mrgF : List (Str × T) → List (Str × T) → List (Str × T)
  | [], M => M
  | (x, t) :: r, M => mrgF r (if kd t = 0 then wo x M else wi x (mrgT t ((look x M).getD T0)) M)
end
mutual
/-- the patch that leads to the first from the second -/
def difT : T → T → T
  | .mk k n s l f, a => if k = 5 ∧ kd a = 5 then .mk 5 0 [] [] (difF f (fls a) (nulF (fls a) f [])) else .mk k n s l f
def difF : List (Str × T) → List (Str × T) → List (Str × T) → List (Str × T)
  | [], _, M => M
  | (x, t) :: r, A, M => difF r A (match look x A with
    | none => wi x t M
    | some u => if cmpT u t = 0 then M else wi x (difT t u) M)
/-- a null for each name that the second list lacks -/
def nulF : List (Str × T) → List (Str × T) → List (Str × T) → List (Str × T)
  | [], _, M => M
  | (x, _) :: r, B, M => nulF r B (match look x B with
    | none => wi x T0 M
    | some _ => M)
end
mutual
/-- the patch that does what the second and then the first does -/
def cpoT : T → T → T
  | .mk k n s l f, p => if k = 5 then (if kd p = 5 then .mk 5 0 [] [] (cpoF f (fls p) (fls p)) else mrgT (.mk k n s l f) T0) else .mk k n s l f
def cpoF : List (Str × T) → List (Str × T) → List (Str × T) → List (Str × T)
  | [], _, M => M
  | (x, t) :: r, A, M => cpoF r A (match look x A with
    | none => wi x t M
    | some u => wi x (cpoT t u) M)
end
mutual
def clnT : T → Bool
  | .mk k _ _ _ f => if k = 5 then clnF f else true
def clnF : List (Str × T) → Bool
  | [] => true
  | (_, t) :: r => !decide (kd t = 0) && (clnT t && clnF r)
end
mutual
/-- can the second patch be composed with the first behind it -/
def cptT : T → T → Bool
  | .mk k _ _ _ f, p => if k = 5 then (if kd p = 5 then cptF f (fls p) else false) else true
def cptF : List (Str × T) → List (Str × T) → Bool
  | [], _ => true
  | (x, t) :: r, A => (match look x A with
    | none => true
    | some u => cptT t u) && cptF r A
end

theorem mrgF_srt : ∀ {f M : List (Str × T)}, SSrt M → SSrt (mrgF f M)
  | [], M, h => by rw [mrgF]; exact h
  | (x, t) :: r, M, h => by
    rw [mrgF]
    refine mrgF_srt ?_
    split
    · exact wo_srt _ _
    · exact wi_srt _ _ _
theorem mrgF_look : ∀ {f M : List (Str × T)} (k : Str), SSrt f → SSrt M → look k (mrgF f M) = (match look k f with
    | none => look k M
    | some t => if kd t = 0 then none else some (mrgT t ((look k M).getD T0)))
  | [], M, k, _, h => by rw [mrgF]; rfl
  | (x, t) :: r, M, k, hf, h => by
    rw [mrgF]
    have hM : SSrt (if kd t = 0 then wo x M else wi x (mrgT t ((look x M).getD T0)) M) := by
      split
      · exact wo_srt _ _
      · exact wi_srt _ _ _
    rw [mrgF_look k hf.tail hM, look_cons]
    by_cases e : x = k
    · subst e
      have hn : look x r = none := look_none (fun p hp => Ne.symm (cmpS_ne (hf.head p hp)))
      rw [hn, if_pos rfl]
      by_cases h0 : kd t = 0
      · simp only [if_pos h0]; rw [wo_look h, if_pos rfl]
      · simp only [if_neg h0]; rw [wi_look h, if_pos rfl]
    · rw [if_neg e]
      have hk : look k (if kd t = 0 then wo x M else wi x (mrgT t ((look x M).getD T0)) M) = look k M := by
        split
        · rw [wo_look h, if_neg e]
        · rw [wi_look h, if_neg e]
      rw [hk]
theorem nulF_srt : ∀ {f B M : List (Str × T)}, SSrt M → SSrt (nulF f B M)
  | [], B, M, h => by rw [nulF]; exact h
  | (x, t) :: r, B, M, h => by
    rw [nulF]
    refine nulF_srt ?_
    split
    · exact wi_srt _ _ _
    · exact h
theorem nulF_look : ∀ {f B M : List (Str × T)} (k : Str), SSrt M → look k (nulF f B M) = if look k B = none ∧ ¬ look k f = none then some T0 else look k M
  | [], B, M, k, h => by rw [nulF]; rw [if_neg (fun h => h.2 rfl)]
  | (x, t) :: r, B, M, k, h => by
    rw [nulF]
    have hM : SSrt (match look x B with
      | none => wi x T0 M
      | some _ => M) := by
      split
      · exact wi_srt _ _ _
      · exact h
    rw [nulF_look k hM, look_cons]
    by_cases e : x = k
    · subst e
      rw [if_pos rfl]
      cases hB : look x B with
      | none =>
        simp only
        rw [wi_look h, if_pos rfl]
        simp
      | some u => simp
    · rw [if_neg e]
      have hk : look k (match look x B with
        | none => wi x T0 M
        | some _ => M) = look k M := by
        split
        · rw [wi_look h, if_neg e]
        · rfl
      rw [hk]
theorem difF_srt : ∀ {f A M : List (Str × T)}, SSrt M → SSrt (difF f A M)
  | [], A, M, h => by rw [difF]; exact h
  | (x, t) :: r, A, M, h => by
    rw [difF]
    refine difF_srt ?_
    split
    · exact wi_srt _ _ _
    · split
      · exact h
      · exact wi_srt _ _ _
theorem difF_look : ∀ {f A M : List (Str × T)} (k : Str), SSrt f → SSrt M → look k (difF f A M) = (match look k f with
    | none => look k M
    | some t => match look k A with
      | none => some t
      | some u => if cmpT u t = 0 then look k M else some (difT t u))
  | [], A, M, k, _, h => by rw [difF]; rfl
  | (x, t) :: r, A, M, k, hf, h => by
    rw [difF]
    have hM : SSrt (match look x A with
      | none => wi x t M
      | some u => if cmpT u t = 0 then M else wi x (difT t u) M) := by
      split
      · exact wi_srt _ _ _
      · split
        · exact h
        · exact wi_srt _ _ _
    rw [difF_look k hf.tail hM, look_cons]
    by_cases e : x = k
    · subst e
      have hn : look x r = none := look_none (fun p hp => Ne.symm (cmpS_ne (hf.head p hp)))
      rw [hn, if_pos rfl]
      cases hA : look x A with
      | none => simp only; rw [wi_look h, if_pos rfl]
      | some u =>
        simp only
        split
        · rfl
        · rw [wi_look h, if_pos rfl]
    · rw [if_neg e]
      have hk : look k (match look x A with
        | none => wi x t M
        | some u => if cmpT u t = 0 then M else wi x (difT t u) M) = look k M := by
        split
        · rw [wi_look h, if_neg e]
        · split
          · rfl
          · rw [wi_look h, if_neg e]
      rw [hk]
theorem cpoF_srt : ∀ {f A M : List (Str × T)}, SSrt M → SSrt (cpoF f A M)
  | [], A, M, h => by rw [cpoF]; exact h
  | (x, t) :: r, A, M, h => by
    rw [cpoF]
    refine cpoF_srt ?_
    split <;> exact wi_srt _ _ _
theorem cpoF_look : ∀ {f A M : List (Str × T)} (k : Str), SSrt f → SSrt M → look k (cpoF f A M) = (match look k f with
    | none => look k M
    | some t => match look k A with
      | none => some t
      | some u => some (cpoT t u))
  | [], A, M, k, _, h => by rw [cpoF]; rfl
  | (x, t) :: r, A, M, k, hf, h => by
    rw [cpoF]
    have hM : SSrt (match look x A with
      | none => wi x t M
      | some u => wi x (cpoT t u) M) := by
      split <;> exact wi_srt _ _ _
    rw [cpoF_look k hf.tail hM, look_cons]
    by_cases e : x = k
    · subst e
      have hn : look x r = none := look_none (fun p hp => Ne.symm (cmpS_ne (hf.head p hp)))
      rw [hn, if_pos rfl]
      cases hA : look x A with
      | none => simp only; rw [wi_look h, if_pos rfl]
      | some u => simp only; rw [wi_look h, if_pos rfl]
    · rw [if_neg e]
      have hk : look k (match look x A with
        | none => wi x t M
        | some u => wi x (cpoT t u) M) = look k M := by
        split <;> rw [wi_look h, if_neg e]
      rw [hk]

theorem mrgT_map {t v : T} (h : kd t = 5) : mrgT t v = .mk 5 0 [] [] (mrgF (fls t) (fls v)) := by
  obtain ⟨k, n, s, l, f⟩ := t
  have h' : k = 5 := h
  rw [mrgT, if_pos h', fls_is h']
theorem mrgT_leaf {t v : T} (h : ¬ kd t = 5) : mrgT t v = t := by
  obtain ⟨k, n, s, l, f⟩ := t
  have h' : ¬ k = 5 := h
  rw [mrgT, if_neg h']
theorem difT_map {t a : T} (h : kd t = 5) (ha : kd a = 5) : difT t a = .mk 5 0 [] [] (difF (fls t) (fls a) (nulF (fls a) (fls t) [])) := by
  obtain ⟨k, n, s, l, f⟩ := t
  have h' : k = 5 := h
  rw [difT, if_pos ⟨h', ha⟩]
  have e : fls (.mk k n s l f) = f := fls_is h'
  rw [e]
theorem difT_leaf {t a : T} (h : ¬ (kd t = 5 ∧ kd a = 5)) : difT t a = t := by
  obtain ⟨k, n, s, l, f⟩ := t
  have h' : ¬ (k = 5 ∧ kd a = 5) := h
  rw [difT, if_neg h']
theorem cpoT_map {t p : T} (h : kd t = 5) (hp : kd p = 5) : cpoT t p = .mk 5 0 [] [] (cpoF (fls t) (fls p) (fls p)) := by
  obtain ⟨k, n, s, l, f⟩ := t
  have h' : k = 5 := h
  rw [cpoT, if_pos h', if_pos hp]
  have e : fls (.mk k n s l f) = f := fls_is h'
  rw [e]
theorem cpoT_null {t p : T} (h : kd t = 5) (hp : ¬ kd p = 5) : cpoT t p = mrgT t T0 := by
  obtain ⟨k, n, s, l, f⟩ := t
  have h' : k = 5 := h
  rw [cpoT, if_pos h', if_neg hp]
theorem cpoT_leaf {t p : T} (h : ¬ kd t = 5) : cpoT t p = t := by
  obtain ⟨k, n, s, l, f⟩ := t
  have h' : ¬ k = 5 := h
  rw [cpoT, if_neg h']
theorem cptT_map {t p : T} (h : kd t = 5) : cptT t p = (if kd p = 5 then cptF (fls t) (fls p) else false) := by
  obtain ⟨k, n, s, l, f⟩ := t
  have h' : k = 5 := h
  rw [cptT, if_pos h']
  have e : fls (.mk k n s l f) = f := fls_is h'
  rw [e]
theorem cptF_look : ∀ {f A : List (Str × T)} {k : Str} {t u : T}, cptF f A = true → look k f = some t → look k A = some u → cptT t u = true
  | [], A, k, t, u, _, h, _ => by cases h
  | (x, y) :: r, A, k, t, u, hc, h, hA => by
    rw [cptF, Bool.and_eq_true] at hc
    rw [look_cons] at h
    by_cases e : x = k
    · subst e
      rw [if_pos rfl] at h; cases h
      rw [hA] at hc; exact hc.1
    · rw [if_neg e] at h
      exact cptF_look hc.2 h hA
theorem clnT_map {t : T} (h : kd t = 5) : clnT t = clnF (fls t) := by
  obtain ⟨k, n, s, l, f⟩ := t
  have h' : k = 5 := h
  rw [clnT, if_pos h']
  have e : fls (.mk k n s l f) = f := fls_is h'
  rw [e]
theorem clnT_leaf {t : T} (h : ¬ kd t = 5) : clnT t = true := by
  obtain ⟨k, n, s, l, f⟩ := t
  have h' : ¬ k = 5 := h
  rw [clnT, if_neg h']
theorem clnF_iff : ∀ {f : List (Str × T)}, clnF f = true ↔ ∀ p ∈ f, ¬ kd p.2 = 0 ∧ clnT p.2 = true
  | [] => by simp [clnF]
  | (x, t) :: r => by
    rw [clnF, Bool.and_eq_true, Bool.and_eq_true, clnF_iff (f := r)]
    simp
    constructor
    · rintro ⟨h1, h2, h3⟩; exact ⟨⟨h1, h2⟩, h3⟩
    · rintro ⟨⟨h1, h2⟩, h3⟩; exact ⟨h1, h2, h3⟩
theorem cln_look {t u : T} {k : Str} (h : clnT t = true) (hk : look k (fls t) = some u) : ¬ kd u = 0 ∧ clnT u = true := by
  by_cases h5 : kd t = 5
  · rw [clnT_map h5, clnF_iff] at h
    exact h _ (look_mem hk)
  · rw [fls_not h5] at hk; cases hk
theorem mp_size {t u : T} {k : Str} (hk : look k (fls t) = some u) : SizeOf.sizeOf u < SizeOf.sizeOf t := by
  by_cases h5 : kd t = 5
  · obtain ⟨k', n, s, l, f⟩ := t
    have h5' : k' = 5 := h5
    rw [fls_is h5'] at hk
    exact sizeOf_f (look_mem hk)
  · rw [fls_not h5] at hk; cases hk
theorem kd_mrg (t v : T) : kd (mrgT t v) = kd t := by
  by_cases h : kd t = 5
  · rw [mrgT_map h, h]; rfl
  · rw [mrgT_leaf h]
theorem kd_dif (t a : T) : kd (difT t a) = kd t := by
  by_cases h : kd t = 5 ∧ kd a = 5
  · rw [difT_map h.1 h.2, h.1]; rfl
  · rw [difT_leaf h]
theorem kd_cpo (t p : T) : kd (cpoT t p) = kd t := by
  by_cases h : kd t = 5
  · by_cases hp : kd p = 5
    · rw [cpoT_map h hp, h]; rfl
    · rw [cpoT_null h hp, kd_mrg]
  · rw [cpoT_leaf h]
theorem map_eq {f g : List (Str × T)} (hf : SSrt f) (hg : SSrt g) (h : ∀ k, look k f = look k g) : T.mk 5 0 [] [] f = .mk 5 0 [] [] g := by
  rw [ssrt_unique hf hg h]
theorem fls_map (f : List (Str × T)) : fls (.mk 5 0 [] [] f) = f := fls_is rfl

/-- P9.3 -/
theorem mrg_cpo : ∀ (N : Nat) (q p v : T), SizeOf.sizeOf q ≤ N → Mp q → Mp p → Mp v → cptT q p = true → mrgT q (mrgT p v) = mrgT (cpoT q p) v
  | 0, q, p, v, h, _, _, _, _ => by cases q; simp at h
  | N + 1, q, p, v, h, hq, hp, hv, hc => by
    by_cases h5 : kd q = 5
    case neg => rw [mrgT_leaf h5, cpoT_leaf h5, mrgT_leaf h5]
    rw [cptT_map h5] at hc
    by_cases p5 : kd p = 5
    case neg => rw [if_neg p5] at hc; cases hc
    rw [if_pos p5] at hc
    have hcs := cpoF_srt (f := fls q) (A := fls p) hp.fls
    rw [cpoT_map h5 p5, mrgT_map h5, mrgT_map p5, mrgT_map (t := .mk 5 0 [] [] _) rfl, fls_map, fls_map]
    have hms := mrgF_srt (f := fls p) hv.fls
    refine map_eq (mrgF_srt hms) (mrgF_srt hv.fls) (fun k => ?_)
    rw [mrgF_look k hq.fls hms, mrgF_look k hcs hv.fls, cpoF_look k hq.fls hp.fls, mrgF_look k hp.fls hv.fls]
    cases hk : look k (fls q) with
    | none => rfl
    | some t =>
      cases hu : look k (fls p) with
      | none => rfl
      | some u =>
        have ct := cptF_look hc hk hu
        simp only
        rw [kd_cpo]
        by_cases t0 : kd t = 0
        · rw [if_pos t0, if_pos t0]
        · rw [if_neg t0, if_neg t0]
          congr 1
          by_cases u0 : kd u = 0
          · rw [if_pos u0]
            have t5 : ¬ kd t = 5 := fun t5 => by rw [cptT_map t5, if_neg (by omega)] at ct; cases ct
            rw [mrgT_leaf t5, cpoT_leaf t5, mrgT_leaf t5]
          · rw [if_neg u0, Option.getD_some]
            exact mrg_cpo N t u _ (by have := mp_size hk; omega) (hq.look hk) (hp.look hu) hv.getD ct
/-- a clean value is what it makes, as a patch, of what is no map -/
theorem mrg_clean : ∀ (N : Nat) (b a : T), SizeOf.sizeOf b ≤ N → Mp b → clnT b = true → fls a = [] → mrgT b a = b
  | 0, b, a, h, _, _, _ => by cases b; simp at h
  | N + 1, b, a, h, hb, hc, ha => by
    by_cases h5 : kd b = 5
    case neg => exact mrgT_leaf h5
    rw [mrgT_map h5, ha]
    conv => rhs; rw [hb.form h5]
    refine map_eq (mrgF_srt List.Pairwise.nil) hb.fls (fun k => ?_)
    rw [mrgF_look k hb.fls List.Pairwise.nil]
    cases hk : look k (fls b) with
    | none => rfl
    | some t =>
      have c := cln_look hc hk
      simp only
      rw [if_neg c.1]
      congr 1
      exact mrg_clean N t _ (by have := mp_size hk; omega) (hb.look hk) c.2 rfl
/-- P9.2 -/
theorem mrg_dif : ∀ (N : Nat) (b a : T), SizeOf.sizeOf b ≤ N → Mp b → Mp a → clnT b = true → mrgT (difT b a) a = b
  | 0, b, a, h, _, _, _ => by cases b; simp at h
  | N + 1, b, a, h, hb, ha, hc => by
    by_cases h5 : kd b = 5
    case neg => rw [difT_leaf (fun h => h5 h.1), mrgT_leaf h5]
    by_cases a5 : kd a = 5
    case neg =>
      rw [difT_leaf (fun h => a5 h.2)]
      exact mrg_clean _ b a h hb hc (fls_not a5)
    have hn : SSrt (nulF (fls a) (fls b) []) := nulF_srt List.Pairwise.nil
    rw [difT_map h5 a5, mrgT_map (t := .mk 5 0 [] [] _) rfl, fls_map]
    conv => rhs; rw [hb.form h5]
    refine map_eq (mrgF_srt ha.fls) hb.fls (fun k => ?_)
    rw [mrgF_look k (difF_srt hn) ha.fls, difF_look k hb.fls hn, nulF_look k List.Pairwise.nil]
    cases hk : look k (fls b) with
    | none =>
      simp only
      cases hA : look k (fls a) with
      | none => simp [look]
      | some u => simp [kd_T0]
    | some t =>
      have c := cln_look hc hk
      cases hA : look k (fls a) with
      | none =>
        simp only
        rw [if_neg c.1]
        congr 1
        exact mrg_clean N t _ (by have := mp_size hk; omega) (hb.look hk) c.2 rfl
      | some u =>
        simp only
        by_cases e : cmpT u t = 0
        · rw [if_pos e]
          simp [look, cmpT_eq e]
        · rw [if_neg e]
          simp only
          rw [kd_dif, if_neg c.1, Option.getD_some]
          congr 1
          exact mrg_dif N t u (by have := mp_size hk; omega) (hb.look hk) (ha.look hA) c.2
theorem mrg_cln : ∀ (N : Nat) (p v : T), SizeOf.sizeOf p ≤ N → Mp p → Mp v → clnT v = true → clnT (mrgT p v) = true
  | 0, p, v, h, _, _, _ => by cases p; simp at h
  | N + 1, p, v, h, hp, hv, hc => by
    by_cases h5 : kd p = 5
    case neg => rw [mrgT_leaf h5]; exact clnT_leaf h5
    rw [mrgT_map h5, clnT_map (t := .mk 5 0 [] [] _) rfl, fls_map, clnF_iff]
    rintro ⟨k, x⟩ hm
    have hs := mrgF_srt (f := fls p) hv.fls
    have hk := look_self hs hm
    simp only at hk
    rw [mrgF_look k hp.fls hv.fls] at hk
    cases hq : look k (fls p) with
    | none => rw [hq] at hk; exact cln_look hc hk
    | some t =>
      rw [hq] at hk
      simp only at hk
      by_cases t0 : kd t = 0
      · rw [if_pos t0] at hk; cases hk
      · rw [if_neg t0] at hk
        cases hk
        refine ⟨by rw [kd_mrg]; exact t0, mrg_cln N t _ (by have := mp_size hq; omega) (hp.look hq) hv.getD ?_⟩
        cases hv' : look k (fls v) with
        | none => rfl
        | some u => exact (cln_look hc hv').2
/-- P9.4 -/
theorem mrg_again : ∀ (N : Nat) (p v : T), SizeOf.sizeOf p ≤ N → Mp p → Mp v → mrgT p (mrgT p v) = mrgT p v
  | 0, p, v, h, _, _ => by cases p; simp at h
  | N + 1, p, v, h, hp, hv => by
    by_cases h5 : kd p = 5
    case neg => rw [mrgT_leaf h5, mrgT_leaf h5]
    have hms := mrgF_srt (f := fls p) hv.fls
    rw [mrgT_map h5, mrgT_map h5, fls_map]
    refine map_eq (mrgF_srt hms) hms (fun k => ?_)
    rw [mrgF_look k hp.fls hms, mrgF_look k hp.fls hv.fls]
    cases hk : look k (fls p) with
    | none => rfl
    | some t =>
      simp only
      by_cases t0 : kd t = 0
      · simp only [if_pos t0]
      · rw [if_neg t0, if_neg t0, Option.getD_some]
        congr 1
        exact mrg_again N t _ (by have := mp_size hk; omega) (hp.look hk) hv.getD
theorem dif_self {a : T} (ha : Mp a) (h5 : kd a = 5) : difT a a = .mk 5 0 [] [] [] := by
  have hn : SSrt (nulF (fls a) (fls a) []) := nulF_srt List.Pairwise.nil
  rw [difT_map h5 h5]
  refine map_eq (difF_srt hn) List.Pairwise.nil (fun k => ?_)
  rw [difF_look k ha.fls hn, nulF_look k List.Pairwise.nil]
  cases hk : look k (fls a) with
  | none => simp [look]
  | some u =>
    simp only
    rw [if_pos (cmpT_refl u)]
    simp [look]
/-- a field appears in a patch between maps only if they differ in it -/
theorem dif_field {a b : T} (ha : Mp a) (hb : Mp b) (a5 : kd a = 5) (b5 : kd b = 5) {p : Str × T} (hp : p ∈ fls (difT b a)) :
    ¬ look p.1 (fls a) = look p.1 (fls b) ∧ (kd p.2 = 0 → ∀ y, look p.1 (fls b) = some y → kd y = 0) := by
  have hn : SSrt (nulF (fls a) (fls b) []) := nulF_srt List.Pairwise.nil
  rw [difT_map b5 a5, fls_map] at hp
  have hk := look_self (difF_srt hn) hp
  obtain ⟨k, x⟩ := p
  simp only at hk ⊢
  rw [difF_look k hb.fls hn, nulF_look k List.Pairwise.nil] at hk
  cases hB : look k (fls b) with
  | none =>
    rw [hB] at hk
    simp only at hk
    cases hA : look k (fls a) with
    | none => rw [hA] at hk; simp [look] at hk
    | some u => exact ⟨by simp, fun _ y hy => by cases hy⟩
  | some t =>
    rw [hB] at hk
    cases hA : look k (fls a) with
    | none =>
      rw [hA] at hk
      simp only at hk
      cases hk
      exact ⟨by simp, fun h0 y hy => by cases hy; exact h0⟩
    | some u =>
      rw [hA] at hk
      simp only at hk
      by_cases e : cmpT u t = 0
      · rw [if_pos e] at hk
        simp [look] at hk
      · rw [if_neg e] at hk
        cases hk
        rw [kd_dif]
        exact ⟨fun h => e (by cases h; exact cmpT_refl _), fun h0 y hy => by cases hy; exact h0⟩
end Go.Proofs.Ytinenbgdkchghaa
