/- Lists of containers in memory, and the sums of their amounts. -/
import Derived.Test.YtjjkihohmgpgdaaMa
import Derived.Test.YtjjkihohmgpgdaaOw
namespace Go.Proofs.Ytjjkihohmgpgdaa
open Go.RowKit Go.Proofs.LawFrame

def sumZ (l : List Int) : Int := l.foldl addZ 0
theorem sumZ_snoc (l : List Int) (x : Int) : sumZ (l ++ [x]) = addZ (sumZ l) x := by unfold sumZ; simp
theorem sumZ_nil : sumZ [] = 0 := rfl
theorem foldl_bd (l : List Int) : ∀ s, clampZ s = s → clampZ (l.foldl addZ s) = l.foldl addZ s := by
  induction l with
  | nil => intro s h; exact h
  | cons x l ih => intro s _; exact ih _ (clampZ_addZ _ _)
theorem sumZ_clamped (l : List Int) : clampZ (sumZ l) = sumZ l := foldl_bd l 0 (by decide)
theorem foldl_addZ (l : List Int) : ∀ s, clampZ s = s → l.foldl addZ s = addZ s (l.foldl addZ 0) := by
  induction l with
  | nil => intro s h; rw [List.foldl_nil, List.foldl_nil, addZ_zero, h]
  | cons x l ih =>
    intro s hs
    rw [List.foldl_cons, List.foldl_cons, ih _ (clampZ_addZ _ _), ih (addZ 0 x) (clampZ_addZ _ _), ← addZ_assoc, ← addZ_assoc]
    congr 1
    rw [addZ_assoc s 0 x, addZ_comm 0 x, ← addZ_assoc, addZ_addZ_zero]
theorem sumZ_append (a b : List Int) : addZ (sumZ a) (sumZ b) = sumZ (a ++ b) := by
  have h := foldl_addZ b _ (sumZ_clamped a)
  unfold sumZ at *; rw [List.foldl_append, h]

/-- a container's eleven cells -/
structure CV where
  x0 : ByteArray
  x1 : ByteArray
  r0 : Int
  r1 : Int
  r2 : Int
  l0 : Int
  l1 : Int
  l2 : Int
  a8 : Option Addr
  n8 : Nat
  c8 : Nat
  a9 : Option Addr
  n9 : Nat
  c9 : Nat
  a10 : Option Addr
  n10 : Nat
  c10 : Nat
def CV.cells (c : CV) : List Value := [.string c.x0, .string c.x1, .int .i64 c.r0, .int .i64 c.r1, .int .i64 c.r2, .int .i64 c.l0, .int .i64 c.l1, .int .i64 c.l2, .slice c.a8 c.n8 c.c8, .slice c.a9 c.n9 c.c9, .slice c.a10 c.n10 c.c10]

/-- the slice v holds these containers -/
structure Conts (w : World) (v : Value) (l : List CV) : Prop where
  out : ∃ (ao : Option Addr) (cap : Nat), v = .slice ao l.length cap ∧ l.length ≤ cap ∧ cap ≤ maxLen ∧ (l ≠ [] → ∃ b off, ao = some ⟨b, off, none⟩ ∧ b < w.heap.size ∧ ∀ i c, l[i]? = some c → ∀ j x, c.cells[j]? = some x → w.cell? ⟨b, off + (i * 11 + j), none⟩ = some x)

theorem Conts.below {w w' : World} {v : Value} {l : List CV} (h : Conts w v l) {B : Nat} (hB : w.heap.size ≤ B) (hb : Below B w w') : Conts w' v l := by
  obtain ⟨ao, cap, h1, h2, h3, h4⟩ := h.out
  refine ⟨ao, cap, h1, h2, h3, fun hl => ?_⟩
  obtain ⟨b, off, h5, h6, h7⟩ := h4 hl
  refine ⟨b, off, h5, Nat.lt_of_lt_of_le h6 hb.size, fun i c hi j x hx => ?_⟩
  rw [hb.cell (p := ⟨b, off + (i * 11 + j), none⟩) (Nat.lt_of_lt_of_le h6 hB)]
  exact h7 i c hi j x hx
theorem Conts.all {w w' : World} {v : Value} {l : List CV} (h : Conts w v l) (hb : Below w.heap.size w w') : Conts w' v l := h.below (Nat.le_refl _) hb

/-- the k-th container, cell by cell, in a later world -/
theorem Conts.at {w wr : World} {ao : Option Addr} {n cap : Nat} {l : List CV} (h : Conts w (.slice ao n cap) l) (hb : Below w.heap.size w wr) {k : Nat} (hk : k < l.length) :
    ∃ b off c, ao = some ⟨b, off, none⟩ ∧ l[k]? = some c ∧ wr.cell? ⟨b, off + k * 11, none⟩ = some (.string c.x0) ∧ wr.cell? ⟨b, off + k * 11 + 1, none⟩ = some (.string c.x1) ∧
      wr.cell? ⟨b, off + k * 11 + 2, none⟩ = some (.int .i64 c.r0) ∧ wr.cell? ⟨b, off + k * 11 + 3, none⟩ = some (.int .i64 c.r1) ∧ wr.cell? ⟨b, off + k * 11 + 4, none⟩ = some (.int .i64 c.r2) ∧
      wr.cell? ⟨b, off + k * 11 + 5, none⟩ = some (.int .i64 c.l0) ∧ wr.cell? ⟨b, off + k * 11 + 6, none⟩ = some (.int .i64 c.l1) ∧ wr.cell? ⟨b, off + k * 11 + 7, none⟩ = some (.int .i64 c.l2) ∧
      wr.cell? ⟨b, off + k * 11 + 8, none⟩ = some (.slice c.a8 c.n8 c.c8) ∧ wr.cell? ⟨b, off + k * 11 + 9, none⟩ = some (.slice c.a9 c.n9 c.c9) ∧ wr.cell? ⟨b, off + k * 11 + 10, none⟩ = some (.slice c.a10 c.n10 c.c10) := by
  obtain ⟨ao', cap', h1, h2, h3, h4⟩ := h.out
  cases h1
  obtain ⟨b, off, rfl, h6, h7⟩ := h4 (by intro h; rw [h] at hk; simp at hk)
  have hck : l[k]? = some l[k] := List.getElem?_eq_getElem hk
  generalize l[k] = c at hck
  have hc : ∀ j x, c.cells[j]? = some x → wr.cell? ⟨b, off + k * 11 + j, none⟩ = some x := fun j x hx => by
    rw [show off + k * 11 + j = off + (k * 11 + j) by omega, hb.cell (p := ⟨b, off + (k * 11 + j), none⟩) h6]; exact h7 k c hck j x hx
  exact ⟨b, off, c, rfl, hck, hc 0 _ rfl, hc 1 _ rfl, hc 2 _ rfl, hc 3 _ rfl, hc 4 _ rfl, hc 5 _ rfl, hc 6 _ rfl, hc 7 _ rfl, hc 8 _ rfl, hc 9 _ rfl, hc 10 _ rfl⟩
theorem Conts.take {w : World} {ao : Option Addr} {cap : Nat} {l : List CV} (h : Conts w (.slice ao l.length cap) l) {j : Nat} (hj : j ≤ l.length) : Conts w (.slice ao j cap) (l.take j) := by
  obtain ⟨ao', cap', h1, h2, h3, h4⟩ := h.out
  cases h1
  refine ⟨ao, cap, by rw [List.length_take, Nat.min_eq_left hj], by rw [List.length_take]; omega, h3, fun hne => ?_⟩
  obtain ⟨b, off, h5, h6, h7⟩ := h4 (by intro h; rw [h] at hne; simp at hne)
  refine ⟨b, off, h5, h6, fun i c hi => h7 i c ?_⟩
  rw [List.getElem?_take] at hi
  split at hi
  · exact hi
  · cases hi
theorem Conts.drop {w : World} {ao : Option Addr} {cap : Nat} {l : List CV} (h : Conts w (.slice ao l.length cap) l) (j : Nat) : Conts w (.slice (Option.map (fun x => x.add (j * 11)) ao) (l.length - j) (cap - j)) (l.drop j) := by
  obtain ⟨ao', cap', h1, h2, h3, h4⟩ := h.out
  cases h1
  refine ⟨_, cap - j, by rw [List.length_drop], by rw [List.length_drop]; omega, by omega, fun hne => ?_⟩
  obtain ⟨b, off, rfl, h6, h7⟩ := h4 (by intro h; rw [h] at hne; simp at hne)
  refine ⟨b, off + j * 11, by simp [Addr.add], h6, fun i c hi jj x hx => ?_⟩
  rw [List.getElem?_drop] at hi
  rw [show off + j * 11 + (i * 11 + jj) = off + ((j + i) * 11 + jj) by omega]
  exact h7 (j + i) c hi jj x hx
theorem conts_empty {w : World} {ao : Option Addr} {l : List CV} {j : Nat} (hj : l.length ≤ j) (n c : Nat) (hn : n = 0) (hc : c ≤ maxLen) : Conts w (.slice ao n c) (l.drop j) := by
  subst hn
  rw [List.drop_eq_nil_of_le hj]
  exact ⟨ao, c, rfl, Nat.zero_le _, hc, fun hne => absurd rfl hne⟩

/-- the sum of an amount of all containers; of the first k -/
def sumC (f : CV → Int) (l : List CV) : Int := sumZ (l.map f)
def sumTo (f : CV → Int) (l : List CV) (k : Nat) : Int := sumZ ((l.take k).map f)
theorem sumC_append (f : CV → Int) (a b : List CV) : addZ (sumC f a) (sumC f b) = sumC f (a ++ b) := by unfold sumC; rw [List.map_append, sumZ_append]
theorem sumTo_zero (f : CV → Int) (l : List CV) : sumTo f l 0 = 0 := rfl
theorem sumTo_all (f : CV → Int) (l : List CV) {k : Nat} (h : l.length ≤ k) : sumTo f l k = sumC f l := by unfold sumTo sumC; rw [List.take_of_length_le h]
theorem take_snoc {l : List CV} {k : Nat} {c : CV} (h : l[k]? = some c) : l.take (k + 1) = l.take k ++ [c] := by
  obtain ⟨hk, rfl⟩ := List.getElem?_eq_some_iff.1 h
  exact List.take_succ_eq_append_getElem hk
theorem sumTo_succ (f : CV → Int) {l : List CV} {k : Nat} {c : CV} (h : l[k]? = some c) : sumTo f l (k + 1) = addZ (sumTo f l k) (f c) := by
  unfold sumTo; rw [take_snoc h, List.map_append]; exact sumZ_snoc _ _
end Go.Proofs.Ytjjkihohmgpgdaa
