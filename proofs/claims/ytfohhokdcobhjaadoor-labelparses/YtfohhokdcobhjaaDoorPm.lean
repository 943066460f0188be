/- Slices of strings, labels and requirements in memory. -/
import Derived.Test.YtfohhokdcobhjaaDoorMa
import Derived.Test.YtfohhokdcobhjaaDoorOw
import Derived.Laws.AppendOwn
namespace Go.Proofs.YtfohhokdcobhjaaDoor
open Go.RowKit Go.Proofs.LawFrame

/-- a string as a value -/
abbrev sV (x : Str) : Value := .string ⟨x.toArray⟩

/-- the slice v has n elements, whose cells are xs -/
structure Flat (w : World) (v : Value) (n : Nat) (xs : List Value) : Prop where
  out : ∃ (ao : Option Addr) (cap : Nat), v = .slice ao n cap ∧ n ≤ cap ∧ cap ≤ maxLen ∧ (0 < n → ∃ b off, ao = some ⟨b, off, none⟩ ∧ b < w.heap.size ∧ ∀ j x, xs[j]? = some x → w.cell? ⟨b, off + j, none⟩ = some x)

theorem Flat.below {w w' : World} {v : Value} {n : Nat} {xs : List Value} (h : Flat w v n xs) {B : Nat} (hB : w.heap.size ≤ B) (hb : Below B w w') : Flat w' v n xs := by
  obtain ⟨ao, cap, h1, h2, h3, h4⟩ := h.out
  refine ⟨ao, cap, h1, h2, h3, fun hl => ?_⟩
  obtain ⟨b, off, h5, h6, h7⟩ := h4 hl
  refine ⟨b, off, h5, Nat.lt_of_lt_of_le h6 hb.size, fun j x hx => ?_⟩
  rw [hb.cell (p := ⟨b, off + j, none⟩) (Nat.lt_of_lt_of_le h6 hB)]
  exact h7 j x hx
theorem Flat.all {w w' : World} {v : Value} {n : Nat} {xs : List Value} (h : Flat w v n xs) (hb : Below w.heap.size w w') : Flat w' v n xs := h.below (Nat.le_refl _) hb
theorem Flat.nil (w : World) (ao : Option Addr) (cap : Nat) (h : cap ≤ maxLen) (xs : List Value) : Flat w (.slice ao 0 cap) 0 xs := ⟨ao, cap, rfl, Nat.zero_le _, h, fun h => absurd h (by omega)⟩

theorem flat_get {α : Type} (f : α → List Value) {m : Nat} (hf : ∀ a, (f a).length = m) : ∀ (l : List α) (k j : Nat) (a : α), l[k]? = some a → j < m → (l.flatMap f)[k * m + j]? = (f a)[j]? := by
  intro l
  induction l with
  | nil => intro k j a h; simp at h
  | cons b l ih =>
    intro k j a hk hj
    rw [List.flatMap_cons]
    cases k with
    | zero =>
      simp at hk; subst hk
      rw [Nat.zero_mul, Nat.zero_add, List.getElem?_append_left (by rw [hf]; exact hj)]
    | succ k =>
      rw [List.getElem?_append_right (by rw [hf, Nat.succ_mul]; omega), hf, show (k + 1) * m + j - m = k * m + j by rw [Nat.succ_mul]; omega]
      exact ih k j a (by simpa using hk) hj

/-- the slice v holds these strings -/
abbrev Strs (w : World) (v : Value) (l : List Str) : Prop := Flat w v l.length (l.map sV)
theorem Strs.at {w wr : World} {ao : Option Addr} {n cap : Nat} {l : List Str} (h : Strs w (.slice ao n cap) l) (hb : Below w.heap.size w wr) {k : Nat} {x : Str} (hk : l[k]? = some x) :
    ∃ b off, ao = some ⟨b, off, none⟩ ∧ wr.cell? ⟨b, off + k, none⟩ = some (sV x) := by
  obtain ⟨ao', cap', h1, h2, h3, h4⟩ := h.out
  cases h1
  obtain ⟨hk', -⟩ := List.getElem?_eq_some_iff.1 hk
  obtain ⟨b, off, rfl, h6, h7⟩ := h4 (by omega)
  refine ⟨b, off, rfl, ?_⟩
  rw [hb.cell (p := ⟨b, off + k, none⟩) h6]
  exact h7 k _ (by rw [List.getElem?_map, hk]; rfl)

/-- a label: key and value -/
abbrev Lab := Str × Str
def labC (p : Lab) : List Value := [sV p.1, sV p.2]
/-- the slice v holds these labels -/
abbrev Labs (w : World) (v : Value) (l : List Lab) : Prop := Flat w v l.length (l.flatMap labC)
theorem Labs.at {w wr : World} {ao : Option Addr} {n cap : Nat} {l : List Lab} (h : Labs w (.slice ao n cap) l) (hb : Below w.heap.size w wr) {k : Nat} {x : Lab} (hk : l[k]? = some x) :
    ∃ b off, ao = some ⟨b, off, none⟩ ∧ wr.cell? ⟨b, off + k * 2, none⟩ = some (sV x.1) ∧ wr.cell? ⟨b, off + k * 2 + 1, none⟩ = some (sV x.2) := by
  obtain ⟨ao', cap', h1, h2, h3, h4⟩ := h.out
  cases h1
  obtain ⟨hk', -⟩ := List.getElem?_eq_some_iff.1 hk
  obtain ⟨b, off, rfl, h6, h7⟩ := h4 (by omega)
  refine ⟨b, off, rfl, ?_, ?_⟩
  · rw [hb.cell (p := ⟨b, off + k * 2, none⟩) h6]
    exact h7 (k * 2 + 0) _ (by rw [flat_get labC (m := 2) (fun _ => rfl) l k 0 x hk (by omega)]; rfl)
  · rw [hb.cell (p := ⟨b, off + k * 2 + 1, none⟩) h6, Nat.add_assoc]
    exact h7 (k * 2 + 1) _ (by rw [flat_get labC (m := 2) (fun _ => rfl) l k 1 x hk (by omega)]; rfl)

/-- a requirement -/
structure Req where
  key : Str
  op : Int
  vals : List Str
/-- a requirement's three cells -/
structure RC where
  key : Str
  op : Int
  ao : Option Addr
  n : Nat
  cap : Nat
def RC.cells (c : RC) : List Value := [sV c.key, .int .i64 c.op, .slice c.ao c.n c.cap]
/-- these cells are that requirement -/
structure RIs (w : World) (c : RC) (r : Req) : Prop where
  key : c.key = r.key
  op : c.op = r.op
  vals : Strs w (.slice c.ao c.n c.cap) r.vals
theorem RIs.all {w w' : World} {c : RC} {r : Req} (h : RIs w c r) (hb : Below w.heap.size w w') : RIs w' c r := ⟨h.key, h.op, h.vals.all hb⟩
/-- the slice v holds these requirements -/
structure Reqs (w : World) (v : Value) (l : List Req) : Prop where
  out : ∃ cs : List RC, cs.length = l.length ∧ Flat w v l.length (cs.flatMap RC.cells) ∧ ∀ (k : Nat) (c : RC) (r : Req), cs[k]? = some c → l[k]? = some r → RIs w c r
theorem Reqs.all {w w' : World} {v : Value} {l : List Req} (h : Reqs w v l) (hb : Below w.heap.size w w') : Reqs w' v l := by
  obtain ⟨cs, h1, h2, h3⟩ := h.out
  exact ⟨cs, h1, h2.all hb, fun k c r hc hr => (h3 k c r hc hr).all hb⟩
theorem Reqs.slice {w : World} {v : Value} {l : List Req} (h : Reqs w v l) : ∃ ao cap, v = .slice ao l.length cap ∧ l.length ≤ cap ∧ cap ≤ maxLen := by
  obtain ⟨cs, h1, h2, h3⟩ := h.out
  obtain ⟨ao, cap, h4, h5, h6, -⟩ := h2.out
  exact ⟨ao, cap, h4, h5, h6⟩
theorem Reqs.at {w wr : World} {ao : Option Addr} {n cap : Nat} {l : List Req} (h : Reqs w (.slice ao n cap) l) (hb : Below w.heap.size w wr) {k : Nat} {r : Req} (hk : l[k]? = some r) :
    ∃ b off c, ao = some ⟨b, off, none⟩ ∧ RIs wr c r ∧ wr.cell? ⟨b, off + k * 3, none⟩ = some (sV r.key) ∧ wr.cell? ⟨b, off + k * 3 + 1, none⟩ = some (.int .i64 r.op) ∧ wr.cell? ⟨b, off + k * 3 + 2, none⟩ = some (.slice c.ao c.n c.cap) := by
  obtain ⟨cs, g1, g2, g3⟩ := h.out
  obtain ⟨ao', cap', h1, h2, h3, h4⟩ := g2.out
  cases h1
  obtain ⟨hk', -⟩ := List.getElem?_eq_some_iff.1 hk
  obtain ⟨b, off, rfl, h6, h7⟩ := h4 (by omega)
  have hc : cs[k]? = some cs[k] := List.getElem?_eq_getElem (by omega)
  generalize cs[k] = c at hc
  have hi := g3 k c r hc hk
  refine ⟨b, off, c, rfl, hi.all hb, ?_, ?_, ?_⟩
  · rw [hb.cell (p := ⟨b, off + k * 3, none⟩) h6, ← hi.key]
    exact h7 (k * 3 + 0) _ (by rw [flat_get RC.cells (m := 3) (fun _ => rfl) cs k 0 c hc (by omega)]; rfl)
  · rw [hb.cell (p := ⟨b, off + k * 3 + 1, none⟩) h6, Nat.add_assoc, ← hi.op]
    exact h7 (k * 3 + 1) _ (by rw [flat_get RC.cells (m := 3) (fun _ => rfl) cs k 1 c hc (by omega)]; rfl)
  · rw [hb.cell (p := ⟨b, off + k * 3 + 2, none⟩) h6, Nat.add_assoc]
    exact h7 (k * 3 + 2) _ (by rw [flat_get RC.cells (m := 3) (fun _ => rfl) cs k 2 c hc (by omega)]; rfl)

/-- what the call owns can be read -/
theorem Flat.of_own {w : World} {base : Nat} {e : TypeId} {size : Nat} {v : Value} {n : Nat} {xs : List Value} (h : w.ownsRow base e size v n xs) : Flat w v n xs := by
  rcases h.2 with ⟨rfl, rfl⟩ | ⟨g, cap, cur, rfl, hb, hg, h1, h2, h3, h4⟩
  · exact Flat.nil w none 0 (Nat.zero_le _) xs
  · refine ⟨some ⟨g, 0, none⟩, cap, rfl, h1, h2, fun _ => ⟨g, 0, rfl, ?_, fun j x hx => ?_⟩⟩
    · rcases Nat.lt_or_ge g w.heap.size with hlt | hge
      · exact hlt
      · rw [Array.getElem?_eq_none hge] at hg; cases hg
    · rw [Nat.zero_add, cell_of_row w g j cur e (0, 0) hg, ← Array.getElem?_toList]
      rw [← h4] at hx
      rw [List.getElem?_take] at hx
      split at hx
      · exact hx
      · cases hx
end Go.Proofs.YtfohhokdcobhjaaDoor
