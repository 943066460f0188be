/- The contract of otherFields. The contract of Get. -/
import Derived.Test.YtinenbgdkchghaaCc
import Derived.Test.YtinenbgdkchghaaPdJ
import Derived.Deep.Cut
set_option linter.unusedSimpArgs false
set_option linter.unusedVariables false
namespace Go.Proofs.Ytinenbgdkchghaa
open Go.RowKit Go.Sort Go.Proofs.LawFrame

theorem row_weak {w : World} {base base' : Nat} {e : TypeId} {size : Nat} {v : Value} {n : Nat} {xs : List Value} (h : w.ownsRow base e size v n xs) (hb : base' ≤ base) : w.ownsRow base' e size v n xs := by
  refine ⟨h.1, ?_⟩
  rcases h.2 with h | ⟨g, cap, cur, h1, h2, h3⟩
  · exact Or.inl h
  · exact Or.inr ⟨g, cap, cur, h1, Nat.le_trans hb h2, h3⟩
/-- these cells are those fields, in w -/
structure PW (w : World) (cs : List FC) (l : List (Str × T)) : Prop where
  len : cs.length = l.length
  all : ∀ (i : Nat) (x : FC) (p : Str × T), cs[i]? = some x → l[i]? = some p → x.x = p.1 ∧ Is w x.v p.2
theorem PW.nil (w : World) : PW w [] [] := ⟨rfl, fun i x p h => by simp at h⟩
theorem PW.under {w w' : World} {cs : List FC} {l : List (Str × T)} (h : PW w cs l) (hb : Below w.heap.size w w') : PW w' cs l := ⟨h.len, fun i x p hx hp => ⟨(h.all i x p hx hp).1, (h.all i x p hx hp).2.all hb⟩⟩
theorem PW.snoc {w : World} {cs : List FC} {l : List (Str × T)} {c : FC} {t : Str × T} (h : PW w cs l) (hc : c.x = t.1 ∧ Is w c.v t.2) : PW w (cs ++ [c]) (l ++ [t]) := by
  refine ⟨by rw [List.length_append, List.length_append, h.len]; rfl, fun i c' t' hc' ht' => ?_⟩
  rcases Nat.lt_or_ge i cs.length with hlt | hge
  · rw [List.getElem?_append_left hlt] at hc'
    rw [List.getElem?_append_left (by rw [← h.len]; exact hlt)] at ht'
    exact h.all i c' t' hc' ht'
  · have hi := (List.getElem?_eq_some_iff.1 hc').1
    rw [List.length_append] at hi
    have e : i = cs.length := by simp at hi; omega
    subst e
    rw [List.getElem?_append_right (Nat.le_refl _), Nat.sub_self] at hc'
    rw [List.getElem?_append_right (by rw [h.len]; exact Nat.le_refl _), h.len, Nat.sub_self] at ht'
    simp at hc' ht'
    subst hc' ht'
    exact hc
/-- a row of the call's own that holds those fields -/
structure RowF (w0 w : World) (base : Nat) (v : Value) (l : List (Str × T)) : Prop where
  out : ∃ cs : List FC, PW w0 cs l ∧ w.ownsRow base 33 6 v cs.length (cs.flatMap FC.cells)
theorem RowF.under {w0 w w' : World} {base : Nat} {v : Value} {l : List (Str × T)} (h : RowF w0 w base v l) (hb : Below w.heap.size w w') : RowF w0 w' base v l := by
  obtain ⟨cs, h1, h2⟩ := h.out
  exact ⟨cs, h1, own_below h2 hb⟩
theorem RowF.flds {w0 w : World} {base : Nat} {v : Value} {l : List (Str × T)} (h : RowF w0 w base v l) (hb : Below w0.heap.size w0 w) : Flds w v l := by
  obtain ⟨cs, h1, h2⟩ := h.out
  have hF := Flat.of_own h2
  rw [h1.len] at hF
  have h3 := h1.under hb
  exact ⟨cs, h1.len, hF, fun i x p hx hp => (h3.all i x p hx hp).1, fun i x p hx hp => (h3.all i x p hx hp).2⟩
theorem RowF.slice {w0 w : World} {base : Nat} {v : Value} {l : List (Str × T)} (h : RowF w0 w base v l) : ∃ a n c, v = .slice a n c := by
  obtain ⟨cs, h1, h2⟩ := h.out
  rcases h2.2 with ⟨rfl, -⟩ | ⟨g, cap, cur, rfl, -⟩
  · exact ⟨_, _, _, rfl⟩
  · exact ⟨_, _, _, rfl⟩
def othK (k : Int) (nm : Str) (f : List (Str × T)) : List (Str × T) := if k = 5 then oth nm f else []
theorem oth_snoc {nm : Str} {f : List (Str × T)} {q : Nat} {p : Str × T} (h : f[q]? = some p) : oth nm (f.take (q + 1)) = oth nm (f.take q) ++ (if p.1 = nm then [] else [p]) := by
  rw [take_snoc h]; unfold oth; rw [List.filter_append]; by_cases e : p.1 = nm <;> simp [e]
theorem oth_len (nm : Str) (f : List (Str × T)) : (oth nm f).length ≤ f.length := List.length_filter_le _ _

end Go.Proofs.Ytinenbgdkchghaa
namespace Go.Proofs.Ytinenbgdkchghaa
open Go.RowKit Go.Sort Go.Proofs.LawFrame

def T0 : T := .mk 0 0 [] [] []
def getK (k : Int) (nm : Str) (f : List (Str × T)) : Option T := if k = 5 then look nm f else none
theorem isA_zero (w : World) (A : Nat → Prop) : IsA w A VC0 T0 :=
  .mk (c := VC0) [] [] rfl (FlatA.nil _ _ _) (fun i x t h => by simp at h) rfl (FlatA.nil _ _ _) (fun i x t h => by simp at h) (fun i x t h => by simp at h)
theorem look_at {nm : Str} {f : List (Str × T)} {q : Nat} {p : Str × T} (h : f[q]? = some p) (hp : p.1 = nm) (hn : ∀ (j : Nat) (r : Str × T), j < q → f[j]? = some r → ¬ r.1 = nm) : look nm f = some p.2 := by
  unfold look
  have : f.find? (fun r => decide (r.1 = nm)) = some p := by
    rw [List.find?_eq_some_iff_append]
    obtain ⟨hq, rfl⟩ := List.getElem?_eq_some_iff.1 h
    refine ⟨by simpa using hp, f.take q, f.drop (q + 1), ?_, fun r hr => ?_⟩
    · rw [← List.drop_eq_getElem_cons hq, List.take_append_drop]
    · obtain ⟨j, hj, gj⟩ := mem_take_get hr
      simpa using hn j r hj gj
  rw [this]; rfl
theorem look_miss {nm : Str} {f : List (Str × T)} (hn : ∀ (j : Nat) (r : Str × T), j < f.length → f[j]? = some r → ¬ r.1 = nm) : look nm f = none :=
  look_none (fun p hp => by
    obtain ⟨j, hj, rfl⟩ := List.mem_iff_getElem.1 hp
    exact hn j _ hj (List.getElem?_eq_getElem hj))

end Go.Proofs.Ytinenbgdkchghaa
