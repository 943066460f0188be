/- Trees and the blocks that they lie in, rows, and stores of five cells: no function of the program. -/
import Derived.Test.YtinenbgdkchghaaPdJ
import Derived.Test.YtinenbgdkchghaaCeJ
import Derived.Test.YtinenbgdkchghaaKcJ
import Derived.Test.YtinenbgdkchghaaEgJ
set_option linter.unusedSimpArgs false
set_option linter.unusedVariables false
namespace Go.Proofs.Ytinenbgdkchghaa
open Go.RowKit Go.Sort Go.Proofs.LawFrame

theorem below_put5 {B b : Nat} {w W : World} (h : Below B w W) (hb : B ≤ b) (v0 v1 v2 v3 v4 : Value) : Below B w (put5 W b v0 v1 v2 v3 v4) := below_set (below_set (below_set (below_set (below_set h hb _) hb _) hb _) hb _) hb _
theorem below_rowq {w w' w'' : World} {row : Option Nat} (h : Below w.heap.size w w') (hg : w'.grownBy w'' row) (hr : ∀ k, row = some k → w.heap.size ≤ k) : Below w.heap.size w w'' :=
  ⟨hg.os.trans h.os, hg.tape.trans h.tape, hg.output.trans h.output, Nat.le_trans h.size hg.size, fun k hk => (hg.block k (Nat.lt_of_lt_of_le hk h.size) (fun e => by have := hr k e.symm; omega)).trans (h.block k hk)⟩
theorem Own.put5n {W : World} {b c : Nat} {cs : List Value} {t : TypeId} (o : Own W b cs t) (hb : b ≠ c) (v0 v1 v2 v3 v4 : Value) : Own (put5 W c v0 v1 v2 v3 v4) b cs t :=
  ((((o.set_ne hb _ _).set_ne hb _ _).set_ne hb _ _).set_ne hb _ _).set_ne hb _ _
theorem FlatA.of_own {w : World} {base : Nat} {A : Nat → Prop} {e : TypeId} {size : Nat} {v : Value} {n : Nat} {xs : List Value} (h : w.ownsRow base e size v n xs) (hA : ∀ b, base ≤ b → A b) : FlatA w A v n xs := by
  rcases h.2 with ⟨rfl, rfl⟩ | ⟨g, cap, cur, rfl, hb, hg, h1, h2, h3, h4⟩
  · exact FlatA.nil w A xs
  · refine ⟨some ⟨g, 0, none⟩, cap, rfl, h1, h2, fun _ => ⟨g, 0, rfl, ?_, hA g hb, fun j x hx => ?_⟩⟩
    · rcases Nat.lt_or_ge g w.heap.size with hlt | hge
      · exact hlt
      · rw [Array.getElem?_eq_none hge] at hg; cases hg
    · rw [Nat.zero_add, cell_of_row w g j cur e (0, 0) hg, ← Array.getElem?_toList]
      rw [← h4] at hx
      rw [List.getElem?_take] at hx
      split at hx
      · exact hx
      · cases hx
theorem Flat.isA {w : World} {v : Value} {n : Nat} {xs : List Value} (h : Flat w v n xs) : FlatA w (fun b => b < w.heap.size) v n xs := by
  obtain ⟨ao, cap, h1, h2, h3, h4⟩ := h.out
  refine ⟨ao, cap, h1, h2, h3, fun hl => ?_⟩
  obtain ⟨b, off, h5, h6, h7⟩ := h4 hl
  exact ⟨b, off, h5, h6, h6, h7⟩
theorem Is.isA {w : World} {c : VC} {t : T} (h : Is w c t) : IsA w (fun b => b < w.heap.size) c t := by
  induction h with
  | mk cs fs hl1 hl2 hl3 hf1 hf2 hf3 hf4 ih1 ih2 => exact .mk cs fs hl1 hl2.isA ih1 hf1 hf2.isA hf3 ih2
/-- the slice v holds these values, which lie in blocks of A -/
structure ValsA (w : World) (A : Nat → Prop) (v : Value) (l : List T) : Prop where
  out : ∃ cs : List VC, cs.length = l.length ∧ FlatA w A v l.length (cs.flatMap VC.cells) ∧ ∀ (i : Nat) (x : VC) (t : T), cs[i]? = some x → l[i]? = some t → IsA w A x t
structure FldsA (w : World) (A : Nat → Prop) (v : Value) (l : List (Str × T)) : Prop where
  out : ∃ cs : List FC, cs.length = l.length ∧ FlatA w A v l.length (cs.flatMap FC.cells) ∧ (∀ (i : Nat) (x : FC) (p : Str × T), cs[i]? = some x → l[i]? = some p → x.x = p.1) ∧
    ∀ (i : Nat) (x : FC) (p : Str × T), cs[i]? = some x → l[i]? = some p → IsA w A x.v p.2
theorem IsA.vals {w : World} {A : Nat → Prop} {c : VC} {k n : Int} {s : Str} {l : List T} {f : List (Str × T)} (h : IsA w A c (.mk k n s l f)) : ValsA w A (.slice c.la c.ln c.lc) l := by
  cases h with
  | mk cs fs hl1 hl2 hl3 hf1 hf2 hf3 hf4 => exact ⟨cs, hl1, hl2, hl3⟩
theorem IsA.flds {w : World} {A : Nat → Prop} {c : VC} {k n : Int} {s : Str} {l : List T} {f : List (Str × T)} (h : IsA w A c (.mk k n s l f)) : FldsA w A (.slice c.fa c.fn c.fc) f := by
  cases h with
  | mk cs fs hl1 hl2 hl3 hf1 hf2 hf3 hf4 => exact ⟨fs, hf1, hf2, hf3, hf4⟩
theorem IsA.same {w : World} {A : Nat → Prop} {c : VC} {k n : Int} {s : Str} {l : List T} {f : List (Str × T)} (h : IsA w A c (.mk k n s l f)) : c.k = k ∧ c.n = n ∧ c.s = s := by
  cases h; exact ⟨rfl, rfl, rfl⟩
theorem IsA.of {w : World} {A : Nat → Prop} {c : VC} {l : List T} {f : List (Str × T)} (h : ValsA w A (.slice c.la c.ln c.lc) l) (h' : FldsA w A (.slice c.fa c.fn c.fc) f) : IsA w A c (.mk c.k c.n c.s l f) := by
  obtain ⟨cs, h1, h2, h3⟩ := h.out
  obtain ⟨fs, g1, g2, g3, g4⟩ := h'.out
  exact .mk cs fs h1 h2 h3 g1 g2 g3 g4
theorem ValsA.keep {w w' : World} {A A' : Nat → Prop} {v : Value} {l : List T} (h : ValsA w A v l) (hs : w.heap.size ≤ w'.heap.size) (hA : ∀ b, A b → A' b) (hk : ∀ b, A b → b < w.heap.size → w'.heap[b]? = w.heap[b]?) : ValsA w' A' v l := by
  obtain ⟨cs, h1, h2, h3⟩ := h.out
  exact ⟨cs, h1, h2.keep hs hA hk, fun i x t hx ht => (h3 i x t hx ht).keep hs hA hk⟩
theorem FldsA.keep {w w' : World} {A A' : Nat → Prop} {v : Value} {l : List (Str × T)} (h : FldsA w A v l) (hs : w.heap.size ≤ w'.heap.size) (hA : ∀ b, A b → A' b) (hk : ∀ b, A b → b < w.heap.size → w'.heap[b]? = w.heap[b]?) : FldsA w' A' v l := by
  obtain ⟨cs, h1, h2, h3, h4⟩ := h.out
  exact ⟨cs, h1, h2.keep hs hA hk, h3, fun i x t hx ht => (h4 i x t hx ht).keep hs hA hk⟩
theorem ValsA.all {w w' : World} {A A' : Nat → Prop} {v : Value} {l : List T} (h : ValsA w A v l) (hb : Below w.heap.size w w') (hA : ∀ b, A b → A' b) : ValsA w' A' v l := h.keep hb.size hA (fun b _ hlt => hb.block b hlt)
theorem FldsA.all {w w' : World} {A A' : Nat → Prop} {v : Value} {l : List (Str × T)} (h : FldsA w A v l) (hb : Below w.heap.size w w') (hA : ∀ b, A b → A' b) : FldsA w' A' v l := h.keep hb.size hA (fun b _ hlt => hb.block b hlt)
theorem cells_len {α : Type} (f : α → List Value) {m : Nat} (hf : ∀ a, (f a).length = m) (cs : List α) : (cs.flatMap f).length = cs.length * m := flat_length f hf cs
/-- a part of a list's cells -/
theorem cells_part {α : Type} (f : α → List Value) {m : Nat} (hf : ∀ a, (f a).length = m) {w wr : World} {b off : Nat} {cs : List α} (h : ∀ j x, (cs.flatMap f)[j]? = some x → w.cell? ⟨b, off + j, none⟩ = some x) (hb : Below w.heap.size w wr) (hbl : b < w.heap.size) (k n : Nat) :
    ∀ j u, (((cs.drop k).take n).flatMap f)[j]? = some u → wr.cell? ((⟨b, off + k * m, none⟩ : Addr).add j) = some u := by
  intro j u hu
  rw [Addr.add_lit, hb.cell (p := ⟨b, off + k * m + j, none⟩) hbl, Nat.add_assoc]
  apply h
  have hj := (List.getElem?_eq_some_iff.1 hu).1
  rw [cells_len f hf] at hj
  have e : cs = cs.take k ++ ((cs.drop k).take n ++ (cs.drop k).drop n) := by rw [List.take_append_drop, List.take_append_drop]
  have hk : k ≤ cs.length := by
    rcases Nat.lt_or_ge cs.length k with h' | h'
    · rw [List.drop_eq_nil_of_le (by omega)] at hj; simp at hj
    · exact h'
  have hlk : ((cs.take k).flatMap f).length = k * m := by rw [cells_len f hf, List.length_take]; congr 1; omega
  have h2 : (cs.flatMap f)[k * m + j]? = (((cs.drop k).take n ++ (cs.drop k).drop n).flatMap f)[j]? := by
    conv => lhs; rw [e]
    rw [List.flatMap_append, List.getElem?_append_right (by omega)]
    congr 1; omega
  rw [h2, List.flatMap_append, List.getElem?_append_left (by rw [cells_len f hf]; exact hj)]
  exact hu
theorem one_all {α : Type} (f : α → List Value) (hf : ∀ a, ∀ u ∈ f a, u.oneCell' = true) (cs : List α) : ∀ u ∈ cs.flatMap f, u.oneCell' = true := by
  intro u hu
  rw [List.mem_flatMap] at hu
  obtain ⟨c, -, hc⟩ := hu
  exact hf c u hc
theorem row_lit0 {w : World} {b base : Nat} {e : TypeId} {size : Nat} (o : Own w b [] e) (hb : base ≤ b) : w.ownsRow base e size (.slice (some ⟨b, 0, none⟩) 0 0) 0 [] :=
  ⟨by simp, Or.inr ⟨b, 0, #[], rfl, hb, o, Nat.le_refl _, Nat.zero_le _, by simp, by simp⟩⟩
theorem set_parts {α : Type} {l : List α} {i : Nat} (c : α) (h : i < l.length) : l.take i ++ [c] ++ (l.drop (i + 1)).take (l.length - (i + 1)) = l.set i c := by
  have h1 : (l.drop (i + 1)).take (l.length - (i + 1)) = l.drop (i + 1) := List.take_of_length_le (by rw [List.length_drop]; omega)
  rw [List.set_eq_take_append_cons_drop, if_pos h, h1]; simp
theorem erase_parts {α : Type} {l : List α} {i : Nat} (h : i < l.length) : l.take i ++ (l.drop (i + 1)).take (l.length - (i + 1)) = l.eraseIdx i := by
  have h1 : (l.drop (i + 1)).take (l.length - (i + 1)) = l.drop (i + 1) := List.take_of_length_le (by rw [List.length_drop]; omega)
  rw [h1, List.eraseIdx_eq_take_drop_succ]
/-- one element changed -/
theorem valsA_set {w : World} {A : Nat → Prop} {v : Value} {n : Nat} {l : List T} {cs : List VC} {i : Nat} {c : VC} {t : T} (hF : FlatA w A v n ((cs.set i c).flatMap VC.cells)) (hn : n = l.length) (hc : cs.length = l.length) (hI : ∀ (j : Nat) (x : VC) (t : T), cs[j]? = some x → l[j]? = some t → IsA w A x t) (hT : IsA w A c t) : ValsA w A v (l.set i t) := by
  refine ⟨cs.set i c, by simp [hc], by simpa [hn] using hF, fun j x u hx hu => ?_⟩
  rw [List.getElem?_set] at hx hu
  by_cases e : i = j
  · rw [if_pos e] at hx hu
    split at hx
    · split at hu
      · cases hx; cases hu; exact hT
      · cases hu
    · cases hx
  · rw [if_neg e] at hx hu
    exact hI j x u hx hu
theorem valsA_erase {w : World} {A : Nat → Prop} {v : Value} {n : Nat} {l : List T} {cs : List VC} {i : Nat} (hF : FlatA w A v n ((cs.eraseIdx i).flatMap VC.cells)) (hn : n = (l.eraseIdx i).length) (hc : cs.length = l.length) (hI : ∀ (j : Nat) (x : VC) (t : T), cs[j]? = some x → l[j]? = some t → IsA w A x t) : ValsA w A v (l.eraseIdx i) := by
  subst hn
  refine ⟨cs.eraseIdx i, by simp [List.length_eraseIdx, hc], hF, fun j x u hx hu => ?_⟩
  rw [List.getElem?_eraseIdx] at hx hu
  split at hx
  · rw [if_pos (by assumption)] at hu; exact hI _ x u hx hu
  · rw [if_neg (by assumption)] at hu; exact hI _ x u hx hu
theorem valsA_snoc {w : World} {A : Nat → Prop} {v : Value} {n : Nat} {l : List T} {cs : List VC} {c : VC} {t : T} (hF : FlatA w A v n ((cs ++ [c]).flatMap VC.cells)) (hn : n = l.length + 1) (hc : cs.length = l.length) (hI : ∀ (j : Nat) (x : VC) (t : T), cs[j]? = some x → l[j]? = some t → IsA w A x t) (hT : IsA w A c t) : ValsA w A v (l ++ [t]) := by
  subst hn
  refine ⟨cs ++ [c], by simp [hc], by simpa using hF, fun j x u hx hu => ?_⟩
  rcases Nat.lt_or_ge j l.length with h | h
  · rw [List.getElem?_append_left (by omega)] at hx
    rw [List.getElem?_append_left h] at hu
    exact hI j x u hx hu
  · have hj : j = l.length := by have := (List.getElem?_eq_some_iff.1 hu).1; simp at this; omega
    subst hj
    rw [List.getElem?_append_right (by omega)] at hx
    rw [List.getElem?_append_right h] at hu
    simp [hc] at hx hu
    subst hx hu; exact hT
theorem fldsA_set {w : World} {A : Nat → Prop} {v : Value} {n : Nat} {l : List (Str × T)} {cs : List FC} {i : Nat} {c : FC} {t : Str × T} (hF : FlatA w A v n ((cs.set i c).flatMap FC.cells)) (hn : n = l.length) (hc : cs.length = l.length) (hX : ∀ (j : Nat) (x : FC) (p : Str × T), cs[j]? = some x → l[j]? = some p → x.x = p.1) (hI : ∀ (j : Nat) (x : FC) (p : Str × T), cs[j]? = some x → l[j]? = some p → IsA w A x.v p.2) (hN : c.x = t.1) (hT : IsA w A c.v t.2) : FldsA w A v (l.set i t) := by
  refine ⟨cs.set i c, by simp [hc], by simpa [hn] using hF, fun j x u hx hu => ?_, fun j x u hx hu => ?_⟩
  · rw [List.getElem?_set] at hx hu
    by_cases e : i = j
    · rw [if_pos e] at hx hu
      split at hx
      · split at hu
        · cases hx; cases hu; exact hN
        · cases hu
      · cases hx
    · rw [if_neg e] at hx hu
      exact hX j x u hx hu
  · rw [List.getElem?_set] at hx hu
    by_cases e : i = j
    · rw [if_pos e] at hx hu
      split at hx
      · split at hu
        · cases hx; cases hu; exact hT
        · cases hu
      · cases hx
    · rw [if_neg e] at hx hu
      exact hI j x u hx hu
theorem fldsA_erase {w : World} {A : Nat → Prop} {v : Value} {n : Nat} {l : List (Str × T)} {cs : List FC} {i : Nat} (hF : FlatA w A v n ((cs.eraseIdx i).flatMap FC.cells)) (hn : n = (l.eraseIdx i).length) (hc : cs.length = l.length) (hX : ∀ (j : Nat) (x : FC) (p : Str × T), cs[j]? = some x → l[j]? = some p → x.x = p.1) (hI : ∀ (j : Nat) (x : FC) (p : Str × T), cs[j]? = some x → l[j]? = some p → IsA w A x.v p.2) : FldsA w A v (l.eraseIdx i) := by
  subst hn
  refine ⟨cs.eraseIdx i, by simp [List.length_eraseIdx, hc], hF, fun j x u hx hu => ?_, fun j x u hx hu => ?_⟩
  · rw [List.getElem?_eraseIdx] at hx hu
    split at hx
    · rw [if_pos (by assumption)] at hu; exact hX _ x u hx hu
    · rw [if_neg (by assumption)] at hu; exact hX _ x u hx hu
  · rw [List.getElem?_eraseIdx] at hx hu
    split at hx
    · rw [if_pos (by assumption)] at hu; exact hI _ x u hx hu
    · rw [if_neg (by assumption)] at hu; exact hI _ x u hx hu
theorem ValsA.at {w wr : World} {A : Nat → Prop} {ao : Option Addr} {n cap : Nat} {l : List T} (h : ValsA w A (.slice ao n cap) l) (hb : Below w.heap.size w wr) {i : Nat} {t : T} (hk : l[i]? = some t) :
    ∃ (b off : Nat) (c : VC), ao = some ⟨b, off, none⟩ ∧ b < w.heap.size ∧ IsA wr A c t ∧ wr.cell? ⟨b, off + i * 5, none⟩ = some (.int .i64 c.k) ∧ wr.cell? ⟨b, off + i * 5 + 1, none⟩ = some (.int .i64 c.n) ∧
      wr.cell? ⟨b, off + i * 5 + 2, none⟩ = some (sV c.s) ∧ wr.cell? ⟨b, off + i * 5 + 3, none⟩ = some (.slice c.la c.ln c.lc) ∧ wr.cell? ⟨b, off + i * 5 + 4, none⟩ = some (.slice c.fa c.fn c.fc) := by
  obtain ⟨cs, g1, g2, g3⟩ := h.out
  obtain ⟨ao', cap', h1, h2, h3, h4⟩ := g2.out
  cases h1
  obtain ⟨hk', -⟩ := List.getElem?_eq_some_iff.1 hk
  obtain ⟨b, off, rfl, h6, -, h7⟩ := h4 (by omega)
  have hc : cs[i]? = some cs[i] := List.getElem?_eq_getElem (by omega)
  generalize cs[i] = c at hc
  have hq : ∀ j x, c.cells[j]? = some x → wr.cell? ⟨b, off + i * 5 + j, none⟩ = some x := fun j x hx => by
    have hj : j < 5 := (List.getElem?_eq_some_iff.1 hx).1
    rw [hb.cell (p := ⟨b, off + i * 5 + j, none⟩) h6, Nat.add_assoc]
    exact h7 (i * 5 + j) x (by rw [flat_get VC.cells (m := 5) (fun _ => rfl) cs i j c hc hj]; exact hx)
  exact ⟨b, off, c, rfl, h6, (g3 i c t hc hk).all hb, hq 0 _ rfl, hq 1 _ rfl, hq 2 _ rfl, hq 3 _ rfl, hq 4 _ rfl⟩
theorem FldsA.at {w wr : World} {A : Nat → Prop} {ao : Option Addr} {n cap : Nat} {l : List (Str × T)} (h : FldsA w A (.slice ao n cap) l) (hb : Below w.heap.size w wr) {i : Nat} {p : Str × T} (hk : l[i]? = some p) :
    ∃ (b off : Nat) (c : VC), ao = some ⟨b, off, none⟩ ∧ b < w.heap.size ∧ IsA wr A c p.2 ∧ wr.cell? ⟨b, off + i * 6, none⟩ = some (sV p.1) ∧ wr.cell? ⟨b, off + i * 6 + 1, none⟩ = some (.int .i64 c.k) ∧ wr.cell? ⟨b, off + i * 6 + 2, none⟩ = some (.int .i64 c.n) ∧
      wr.cell? ⟨b, off + i * 6 + 3, none⟩ = some (sV c.s) ∧ wr.cell? ⟨b, off + i * 6 + 4, none⟩ = some (.slice c.la c.ln c.lc) ∧ wr.cell? ⟨b, off + i * 6 + 5, none⟩ = some (.slice c.fa c.fn c.fc) := by
  obtain ⟨cs, g1, g2, g3, g4⟩ := h.out
  obtain ⟨ao', cap', h1, h2, h3, h4⟩ := g2.out
  cases h1
  obtain ⟨hk', -⟩ := List.getElem?_eq_some_iff.1 hk
  obtain ⟨b, off, rfl, h6, -, h7⟩ := h4 (by omega)
  have hc : cs[i]? = some cs[i] := List.getElem?_eq_getElem (by omega)
  generalize cs[i] = c at hc
  have hq : ∀ j x, c.cells[j]? = some x → wr.cell? ⟨b, off + i * 6 + j, none⟩ = some x := fun j x hx => by
    have hj : j < 6 := (List.getElem?_eq_some_iff.1 hx).1
    rw [hb.cell (p := ⟨b, off + i * 6 + j, none⟩) h6, Nat.add_assoc]
    exact h7 (i * 6 + j) x (by rw [flat_get FC.cells (m := 6) (fun _ => rfl) cs i j c hc hj]; exact hx)
  have hx := g3 i c p hc hk
  exact ⟨b, off, c.v, rfl, h6, (g4 i c p hc hk).all hb, by rw [← hx]; exact hq 0 _ rfl, hq 1 _ rfl, hq 2 _ rfl, hq 3 _ rfl, hq 4 _ rfl, hq 5 _ rfl⟩
theorem IsA.lt {w : World} {A : Nat → Prop} {c : VC} {t : T} (h : IsA w A c t) : IsA w (fun b => A b ∧ b < w.heap.size) c t := by
  induction h with
  | mk cs fs hl1 hl2 hl3 hf1 hf2 hf3 hf4 ih1 ih2 =>
    have g : ∀ {v : Value} {n : Nat} {xs : List Value}, FlatA w A v n xs → FlatA w (fun b => A b ∧ b < w.heap.size) v n xs := fun h => by
      obtain ⟨ao, cap, h1, h2, h3, h4⟩ := h.out
      refine ⟨ao, cap, h1, h2, h3, fun hl => ?_⟩
      obtain ⟨b, off, h5, h6, h7, h8⟩ := h4 hl
      exact ⟨b, off, h5, h6, ⟨h7, h6⟩, h8⟩
    exact .mk cs fs hl1 (g hl2) ih1 hf1 (g hf2) hf3 ih2
theorem IsA.upB {w w' : World} {A : Nat → Prop} {c : VC} {t : T} {m : Nat} (h : IsA w A c t) (hb : Below w.heap.size w w') : IsA w' (fun b => A b ∨ m ≤ b) c t := h.keep hb.size (fun b h => Or.inl h) (fun b _ hlt => hb.block b hlt)
theorem fldsA_oneP {w : World} {A : Nat → Prop} {b : Nat} {x : Str} {c : VC} {t : T} (o : Own w b (FC.cells ⟨x, c⟩) 33) (hA : A b) (hI : IsA w A c t) : FldsA w A (.slice (some ⟨b, 0, none⟩) 1 1) [(x, t)] := by
  refine ⟨[⟨x, c⟩], rfl, ⟨_, _, rfl, Nat.le_refl _, by decide, fun _ => ⟨b, 0, rfl, o.lt, hA, fun j u hu => by rw [Nat.zero_add]; exact o.cell (by simpa using hu)⟩⟩, fun i c' t' hc ht => ?_, fun i c' t' hc ht => ?_⟩
  · cases i with
    | zero => simp at hc ht; subst hc ht; rfl
    | succ i => simp at hc
  · cases i with
    | zero => simp at hc ht; subst hc ht; exact hI
    | succ i => simp at hc
theorem isA_leafP (w : World) (A : Nat → Prop) (k n : Int) (s : Str) : IsA w A ⟨k, n, s, none, 0, 0, none, 0, 0⟩ (.mk k n s [] []) :=
  .mk (c := ⟨k, n, s, none, 0, 0, none, 0, 0⟩) [] [] rfl (FlatA.nil _ _ _) (fun i x t h => by simp at h) rfl (FlatA.nil _ _ _) (fun i x t h => by simp at h) (fun i x t h => by simp at h)
theorem isA_mapP {w : World} {A : Nat → Prop} {a : Option Addr} {n c : Nat} {f : List (Str × T)} (h : FldsA w A (.slice a n c) f) : IsA w A ⟨5, 0, [], none, 0, 0, a, n, c⟩ (.mk 5 0 [] [] f) :=
  IsA.of (c := ⟨5, 0, [], none, 0, 0, a, n, c⟩) ⟨[], rfl, FlatA.nil _ _ _, fun i x t h => by simp at h⟩ h


end Go.Proofs.Ytinenbgdkchghaa
