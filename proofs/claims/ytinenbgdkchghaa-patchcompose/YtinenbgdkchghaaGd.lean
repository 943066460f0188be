/- Rows of pairs (a name and what two maps have under it), and what is left of a list of fields: no function of the program. -/
import Derived.Test.YtinenbgdkchghaaGc
import Derived.Test.YtinenbgdkchghaaPdJ
set_option linter.unusedSimpArgs false
set_option linter.unusedVariables false
namespace Go.Proofs.Ytinenbgdkchghaa
open Go.RowKit Go.Sort Go.Proofs.LawFrame

/-- a pair's thirteen cells -/
structure PC where
  x : Str
  a : VC
  b : VC
  ia : Bool
  ib : Bool
abbrev PC.cells (c : PC) : List Value := [sV c.x, .int .i64 c.a.k, .int .i64 c.a.n, sV c.a.s, .slice c.a.la c.a.ln c.a.lc, .slice c.a.fa c.a.fn c.a.fc, .int .i64 c.b.k, .int .i64 c.b.n, sV c.b.s, .slice c.b.la c.b.ln c.b.lc, .slice c.b.fa c.b.fn c.b.fc, .bool c.ia, .bool c.ib]
theorem PC.one (c : PC) : ∀ v ∈ PC.cells c, v.oneCell' = true := by
  intro v hv; simp at hv; rcases hv with rfl | rfl | rfl | rfl | rfl | rfl | rfl | rfl | rfl | rfl | rfl | rfl | rfl <;> rfl
abbrev Pq : Type := Str × (Option T × Option T)
/-- these cells are that pair -/
structure PrOk (w : World) (c : PC) (q : Pq) : Prop where
  nm : c.x = q.1
  ia : c.ia = q.2.1.isSome
  ib : c.ib = q.2.2.isSome
  a : Is w c.a (q.2.1.getD T0)
  b : Is w c.b (q.2.2.getD T0)
theorem PrOk.all {w w' : World} {c : PC} {q : Pq} (h : PrOk w c q) (hb : Below w.heap.size w w') : PrOk w' c q := ⟨h.nm, h.ia, h.ib, h.a.all hb, h.b.all hb⟩
/-- the slice v holds these pairs -/
structure Prs (w : World) (v : Value) (l : List Pq) : Prop where
  out : ∃ cs : List PC, cs.length = l.length ∧ Flat w v l.length (cs.flatMap PC.cells) ∧ ∀ (i : Nat) (x : PC) (q : Pq), cs[i]? = some x → l[i]? = some q → PrOk w x q
theorem Prs.all {w w' : World} {v : Value} {l : List Pq} (h : Prs w v l) (hb : Below w.heap.size w w') : Prs w' v l := by
  obtain ⟨cs, h1, h2, h3⟩ := h.out
  exact ⟨cs, h1, h2.all hb, fun i x t hx ht => (h3 i x t hx ht).all hb⟩
theorem Prs.form {w : World} {v : Value} {l : List Pq} (h : Prs w v l) : ∃ ao cap, v = .slice ao l.length cap ∧ l.length ≤ cap ∧ cap ≤ maxLen := by
  obtain ⟨cs, h1, h2, h3⟩ := h.out
  obtain ⟨ao', cap', h4, h5, h6, -⟩ := h2.out
  exact ⟨ao', cap', h4, h5, h6⟩
theorem Prs.at {w wr : World} {ao : Option Addr} {n cap : Nat} {l : List Pq} (h : Prs w (.slice ao n cap) l) (hb : Below w.heap.size w wr) {i : Nat} {q : Pq} (hk : l[i]? = some q) :
    ∃ (b off : Nat) (c : PC), ao = some ⟨b, off, none⟩ ∧ b < w.heap.size ∧ PrOk wr c q ∧ ∀ (j : Nat) (x : Value), c.cells[j]? = some x → wr.cell? ⟨b, off + i * 13 + j, none⟩ = some x := by
  obtain ⟨cs, g1, g2, g3⟩ := h.out
  obtain ⟨ao', cap', h1, h2, h3, h4⟩ := g2.out
  cases h1
  obtain ⟨hk', -⟩ := List.getElem?_eq_some_iff.1 hk
  obtain ⟨b, off, rfl, h6, h7⟩ := h4 (by omega)
  have hc : cs[i]? = some cs[i] := List.getElem?_eq_getElem (by omega)
  generalize cs[i] = c at hc
  refine ⟨b, off, c, rfl, h6, (g3 i c q hc hk).all hb, fun j x hx => ?_⟩
  have hj : j < 13 := (List.getElem?_eq_some_iff.1 hx).1
  rw [hb.cell (p := ⟨b, off + i * 13 + j, none⟩) h6, Nat.add_assoc]
  exact h7 (i * 13 + j) x (by rw [flat_get PC.cells (m := 13) (fun _ => rfl) cs i j c hc hj]; exact hx)
theorem prs_of_own {w0 w : World} {base : Nat} {ty : TypeId} {v : Value} {n : Nat} {cs : List PC} {l : List Pq} (h : w.ownsRow base ty 13 v n (cs.flatMap PC.cells)) (hn : n = l.length) (hc : cs.length = l.length) (hI : ∀ (i : Nat) (x : PC) (q : Pq), cs[i]? = some x → l[i]? = some q → PrOk w0 x q) (hb : Below w0.heap.size w0 w) : Prs w v l := by
  subst hn
  exact ⟨cs, hc, Flat.of_own h, fun i x q h1 h2 => (hI i x q h1 h2).all hb⟩
theorem prOk_snoc {w : World} {cs : List PC} {l : List Pq} (hc : cs.length = l.length) (h : ∀ (i : Nat) (x : PC) (q : Pq), cs[i]? = some x → l[i]? = some q → PrOk w x q) {c : PC} {q : Pq} (hq : PrOk w c q) :
    ∀ (i : Nat) (x : PC) (r : Pq), (cs ++ [c])[i]? = some x → (l ++ [q])[i]? = some r → PrOk w x r := by
  intro j x r hx hr
  rcases Nat.lt_or_ge j l.length with h' | h'
  · rw [List.getElem?_append_left (by omega)] at hx
    rw [List.getElem?_append_left h'] at hr
    exact h j x r hx hr
  · have hj : j = l.length := by have := (List.getElem?_eq_some_iff.1 hr).1; simp at this; omega
    subst hj
    rw [List.getElem?_append_right (by omega)] at hx
    rw [List.getElem?_append_right h'] at hr
    simp [hc] at hx hr
    subst hx hr; exact hq
theorem snocP (l : List PC) (c : PC) : (l ++ [c]).flatMap PC.cells = l.flatMap PC.cells ++ PC.cells c := by simp
/-- what is left behind the first field -/
theorem Flds.tail {w : World} {b off cap n : Nat} {s : Str × T} {p : List (Str × T)} (h : Flds w (.slice (some ⟨b, off, none⟩) n cap) (s :: p)) : Flds w (.slice (some ⟨b, off + 6, none⟩) p.length (cap - 1)) p := by
  obtain ⟨cs, g1, g2, g3, g4⟩ := h.out
  obtain ⟨ao, cap', h1, h2, h3, h4⟩ := g2.out
  cases h1
  obtain ⟨b', off', h5, h6, h7⟩ := h4 (by simp)
  cases h5
  cases cs with
  | nil => simp at g1
  | cons c cs =>
    refine ⟨cs, by simpa using g1, ⟨_, _, rfl, by simp at h2; omega, by omega, fun _ => ⟨b, off + 6, rfl, h6, fun j x hx => ?_⟩⟩, fun i x q hx hq => g3 (i + 1) x q (by simpa using hx) (by simpa using hq), fun i x q hx hq => g4 (i + 1) x q (by simpa using hx) (by simpa using hq)⟩
    have := h7 (6 + j) x (by rw [List.flatMap_cons, List.getElem?_append_right (by simp)]; simpa using hx)
    rw [show off + (6 + j) = off + 6 + j by omega] at this
    exact this
theorem Flds.tailIf {w : World} {b off cap n : Nat} {s : Str × T} {p : List (Str × T)} (h : Flds w (.slice (some ⟨b, off, none⟩) n cap) (s :: p)) : Flds w (.slice (if cap = 1 then some ⟨b, off, none⟩ else some ⟨b, off + 6, none⟩) p.length (cap - 1)) p := by
  split
  · rename_i hc
    have h2 := h.slice
    have : p = [] := by cases p with
      | nil => rfl
      | cons a p => simp at h2; omega
    subst this
    exact ⟨[], rfl, ⟨_, _, rfl, by simp, by omega, fun h => absurd h (by simp)⟩, fun i x q h => by simp at h, fun i x q h => by simp at h⟩
  · exact h.tail
theorem prs_nilL (n : Nat) (y : Str) (u : T) (B : List (Str × T)) : prs (n + 1) [] ((y, u) :: B) = (y, (none, some u)) :: prs n [] B := rfl
theorem prs_nilR (n : Nat) (x : Str) (t : T) (A : List (Str × T)) : prs (n + 1) ((x, t) :: A) [] = (x, (some t, none)) :: prs n A [] := rfl
theorem prs_lt {n : Nat} {x y : Str} {t u : T} {A B : List (Str × T)} (h : cmpS x y = -1) : prs (n + 1) ((x, t) :: A) ((y, u) :: B) = (x, (some t, none)) :: prs n A ((y, u) :: B) := by rw [prs, if_pos h]
theorem prs_eq {n : Nat} {x y : Str} {t u : T} {A B : List (Str × T)} (h : cmpS x y = 0) : prs (n + 1) ((x, t) :: A) ((y, u) :: B) = (y, (some t, some u)) :: prs n A B := by rw [prs, if_neg (by omega), if_pos h]
theorem prs_gt {n : Nat} {x y : Str} {t u : T} {A B : List (Str × T)} (h : cmpS x y = 1) : prs (n + 1) ((x, t) :: A) ((y, u) :: B) = (y, (none, some u)) :: prs n ((x, t) :: A) B := by rw [prs, if_neg (by omega), if_neg (by omega)]
/-- on which side the next name is -/
def sideP : List (Str × T) → List (Str × T) → Int
  | _, [] => -1
  | [], _ :: _ => 1
  | (x, _) :: _, (y, _) :: _ => cmpS x y
theorem prs_len : ∀ (n : Nat) (A B : List (Str × T)), (prs n A B).length ≤ A.length + B.length
  | 0, A, B => by simp [prs]
  | n + 1, [], [] => by simp [prs]
  | n + 1, (x, t) :: A, [] => by have := prs_len n A []; simp [prs] at this ⊢; omega
  | n + 1, [], (y, u) :: B => by have := prs_len n [] B; simp [prs] at this ⊢; omega
  | n + 1, (x, t) :: A, (y, u) :: B => by
    have h1 := prs_len n A ((y, u) :: B)
    have h2 := prs_len n A B
    have h3 := prs_len n ((x, t) :: A) B
    rw [prs]
    split
    · simp at h1 ⊢; omega
    · split
      · simp at h2 ⊢; omega
      · simp at h3 ⊢; omega
end Go.Proofs.Ytinenbgdkchghaa
