/- Value trees in memory. Value trees in new memory. -/
import Derived.Test.YtinenbgdkchghaaMaJ
import Derived.Test.YtinenbgdkchghaaFrJ
import Derived.Laws.AppendOwn
import Derived.Laws.MakeOwn
set_option linter.unusedSimpArgs false
set_option linter.unusedVariables false
namespace Go.Proofs.Ytinenbgdkchghaa
open Go.RowKit Go.Proofs.LawFrame

/-- a string as a value -/
abbrev sV (x : Str) : Value := .string ⟨x.toArray⟩

/-- the slice v has n elements, whose cells are xs -/
structure Flat (w : World) (v : Value) (n : Nat) (xs : List Value) : Prop where
  out : ∃ (ao : Option Addr) (cap : Nat), v = .slice ao n cap ∧ n ≤ cap ∧ cap ≤ maxLen ∧ (0 < n → ∃ b off, ao = some ⟨b, off, none⟩ ∧ b < w.heap.size ∧ ∀ j x, xs[j]? = some x → w.cell? ⟨b, off + j, none⟩ = some x)

theorem Flat.below {w w' : World} {v : Value} {n : Nat} {xs : List Value} (h : Flat w v n xs) {B : Nat} (hB : w.heap.size ≤ B) (hb : Below B w w') : Flat w' v n xs := by
  obtain ⟨ao, cap, h1, h2, h3, h4⟩ := h.out
  refine ⟨ao, cap, h1, h2, h3, fun hl => ?_⟩
  obtain ⟨b, off, h5, h6, h7⟩ := h4 hl
  refine ⟨b, off, h5, Nat.lt_of_lt_of_le h6 hb.size, fun j x hx => ?_⟩
  rw [hb.cell (p := ⟨b, off + j, none⟩) (Nat.lt_of_lt_of_le h6 hB)]
  exact h7 j x hx
theorem Flat.all {w w' : World} {v : Value} {n : Nat} {xs : List Value} (h : Flat w v n xs) (hb : Below w.heap.size w w') : Flat w' v n xs := h.below (Nat.le_refl _) hb
theorem Flat.nil (w : World) (ao : Option Addr) (cap : Nat) (h : cap ≤ maxLen) (xs : List Value) : Flat w (.slice ao 0 cap) 0 xs := ⟨ao, cap, rfl, Nat.zero_le _, h, fun h => absurd h (by omega)⟩

theorem flat_get {α : Type} (f : α → List Value) {m : Nat} (hf : ∀ a, (f a).length = m) : ∀ (l : List α) (k j : Nat) (a : α), l[k]? = some a → j < m → (l.flatMap f)[k * m + j]? = (f a)[j]? := by
  intro l
  induction l with
  | nil => intro k j a h; simp at h
  | cons b l ih =>
    intro k j a hk hj
    rw [List.flatMap_cons]
    cases k with
    | zero =>
      simp at hk; subst hk
      rw [Nat.zero_mul, Nat.zero_add, List.getElem?_append_left (by rw [hf]; exact hj)]
    | succ k =>
      rw [List.getElem?_append_right (by rw [hf, Nat.succ_mul]; omega), hf, show (k + 1) * m + j - m = k * m + j by rw [Nat.succ_mul]; omega]
      exact ih k j a (by simpa using hk) hj

/-- a value's five cells -/
structure VC where
  k : Int
  n : Int
  s : Str
  la : Option Addr
  ln : Nat
  lc : Nat
  fa : Option Addr
  fn : Nat
  fc : Nat
abbrev VC.cells (c : VC) : List Value := [.int .i64 c.k, .int .i64 c.n, sV c.s, .slice c.la c.ln c.lc, .slice c.fa c.fn c.fc]
/-- a field's six cells -/
structure FC where
  x : Str
  v : VC
abbrev FC.cells (c : FC) : List Value := [sV c.x, .int .i64 c.v.k, .int .i64 c.v.n, sV c.v.s, .slice c.v.la c.v.ln c.v.lc, .slice c.v.fa c.v.fn c.v.fc]

/-- these cells are that tree -/
inductive Is (w : World) : VC → T → Prop
  | mk {c : VC} {l : List T} {f : List (Str × T)} (cs : List VC) (fs : List FC)
      (hl1 : cs.length = l.length) (hl2 : Flat w (.slice c.la c.ln c.lc) l.length (cs.flatMap VC.cells)) (hl3 : ∀ (i : Nat) (x : VC) (t : T), cs[i]? = some x → l[i]? = some t → Is w x t)
      (hf1 : fs.length = f.length) (hf2 : Flat w (.slice c.fa c.fn c.fc) f.length (fs.flatMap FC.cells)) (hf3 : ∀ (i : Nat) (x : FC) (p : Str × T), fs[i]? = some x → f[i]? = some p → x.x = p.1)
      (hf4 : ∀ (i : Nat) (x : FC) (p : Str × T), fs[i]? = some x → f[i]? = some p → Is w x.v p.2) : Is w c (.mk c.k c.n c.s l f)
theorem Is.under {w w' : World} {B : Nat} {c : VC} {t : T} (h : Is w c t) (hB : w.heap.size ≤ B) (hb : Below B w w') : Is w' c t := by
  induction h with
  | mk cs fs hl1 hl2 hl3 hf1 hf2 hf3 hf4 ih1 ih2 => exact .mk cs fs hl1 (hl2.below hB hb) ih1 hf1 (hf2.below hB hb) hf3 ih2
theorem Is.all {w w' : World} {c : VC} {t : T} (h : Is w c t) (hb : Below w.heap.size w w') : Is w' c t := h.under (Nat.le_refl _) hb

/-- the slice v holds these values -/
structure Vals (w : World) (v : Value) (l : List T) : Prop where
  out : ∃ cs : List VC, cs.length = l.length ∧ Flat w v l.length (cs.flatMap VC.cells) ∧ ∀ (i : Nat) (x : VC) (t : T), cs[i]? = some x → l[i]? = some t → Is w x t
/-- the slice v holds these fields -/
structure Flds (w : World) (v : Value) (l : List (Str × T)) : Prop where
  out : ∃ cs : List FC, cs.length = l.length ∧ Flat w v l.length (cs.flatMap FC.cells) ∧ (∀ (i : Nat) (x : FC) (p : Str × T), cs[i]? = some x → l[i]? = some p → x.x = p.1) ∧
    ∀ (i : Nat) (x : FC) (p : Str × T), cs[i]? = some x → l[i]? = some p → Is w x.v p.2
theorem Vals.all {w w' : World} {v : Value} {l : List T} (h : Vals w v l) (hb : Below w.heap.size w w') : Vals w' v l := by
  obtain ⟨cs, h1, h2, h3⟩ := h.out
  exact ⟨cs, h1, h2.all hb, fun i x t hx ht => (h3 i x t hx ht).all hb⟩
theorem Flds.all {w w' : World} {v : Value} {l : List (Str × T)} (h : Flds w v l) (hb : Below w.heap.size w w') : Flds w' v l := by
  obtain ⟨cs, h1, h2, h3, h4⟩ := h.out
  exact ⟨cs, h1, h2.all hb, h3, fun i x t hx ht => (h4 i x t hx ht).all hb⟩
theorem Is.vals {w : World} {c : VC} {k n : Int} {s : Str} {l : List T} {f : List (Str × T)} (h : Is w c (.mk k n s l f)) : Vals w (.slice c.la c.ln c.lc) l := by
  cases h with
  | mk cs fs hl1 hl2 hl3 hf1 hf2 hf3 hf4 => exact ⟨cs, hl1, hl2, hl3⟩
theorem Is.flds {w : World} {c : VC} {k n : Int} {s : Str} {l : List T} {f : List (Str × T)} (h : Is w c (.mk k n s l f)) : Flds w (.slice c.fa c.fn c.fc) f := by
  cases h with
  | mk cs fs hl1 hl2 hl3 hf1 hf2 hf3 hf4 => exact ⟨fs, hf1, hf2, hf3, hf4⟩
theorem Is.same {w : World} {c : VC} {k n : Int} {s : Str} {l : List T} {f : List (Str × T)} (h : Is w c (.mk k n s l f)) : c.k = k ∧ c.n = n ∧ c.s = s := by
  cases h; exact ⟨rfl, rfl, rfl⟩
theorem Is.of {w : World} {c : VC} {l : List T} {f : List (Str × T)} (h : Vals w (.slice c.la c.ln c.lc) l) (h' : Flds w (.slice c.fa c.fn c.fc) f) : Is w c (.mk c.k c.n c.s l f) := by
  obtain ⟨cs, h1, h2, h3⟩ := h.out
  obtain ⟨fs, g1, g2, g3, g4⟩ := h'.out
  exact .mk cs fs h1 h2 h3 g1 g2 g3 g4
theorem Vals.slice {w : World} {ao : Option Addr} {n cap : Nat} {l : List T} (h : Vals w (.slice ao n cap) l) : n = l.length ∧ l.length ≤ cap ∧ cap ≤ maxLen := by
  obtain ⟨cs, h1, h2, h3⟩ := h.out
  obtain ⟨ao', cap', h4, h5, h6, -⟩ := h2.out
  cases h4; exact ⟨rfl, h5, h6⟩
theorem Flds.slice {w : World} {ao : Option Addr} {n cap : Nat} {l : List (Str × T)} (h : Flds w (.slice ao n cap) l) : n = l.length ∧ l.length ≤ cap ∧ cap ≤ maxLen := by
  obtain ⟨cs, h1, h2, h3⟩ := h.out
  obtain ⟨ao', cap', h4, h5, h6, -⟩ := h2.out
  cases h4; exact ⟨rfl, h5, h6⟩
theorem Vals.form {w : World} {v : Value} {l : List T} (h : Vals w v l) : ∃ ao cap, v = .slice ao l.length cap ∧ l.length ≤ cap ∧ cap ≤ maxLen := by
  obtain ⟨cs, h1, h2, h3⟩ := h.out
  obtain ⟨ao', cap', h4, h5, h6, -⟩ := h2.out
  exact ⟨ao', cap', h4, h5, h6⟩
theorem Flds.form {w : World} {v : Value} {l : List (Str × T)} (h : Flds w v l) : ∃ ao cap, v = .slice ao l.length cap ∧ l.length ≤ cap ∧ cap ≤ maxLen := by
  obtain ⟨cs, h1, h2, h3⟩ := h.out
  obtain ⟨ao', cap', h4, h5, h6, -⟩ := h2.out
  exact ⟨ao', cap', h4, h5, h6⟩

theorem Vals.at {w wr : World} {ao : Option Addr} {n cap : Nat} {l : List T} (h : Vals w (.slice ao n cap) l) (hb : Below w.heap.size w wr) {i : Nat} {t : T} (hk : l[i]? = some t) :
    ∃ (b off : Nat) (c : VC), ao = some ⟨b, off, none⟩ ∧ b < w.heap.size ∧ Is wr c t ∧ wr.cell? ⟨b, off + i * 5, none⟩ = some (.int .i64 c.k) ∧ wr.cell? ⟨b, off + i * 5 + 1, none⟩ = some (.int .i64 c.n) ∧
      wr.cell? ⟨b, off + i * 5 + 2, none⟩ = some (sV c.s) ∧ wr.cell? ⟨b, off + i * 5 + 3, none⟩ = some (.slice c.la c.ln c.lc) ∧ wr.cell? ⟨b, off + i * 5 + 4, none⟩ = some (.slice c.fa c.fn c.fc) := by
  obtain ⟨cs, g1, g2, g3⟩ := h.out
  obtain ⟨ao', cap', h1, h2, h3, h4⟩ := g2.out
  cases h1
  obtain ⟨hk', -⟩ := List.getElem?_eq_some_iff.1 hk
  obtain ⟨b, off, rfl, h6, h7⟩ := h4 (by omega)
  have hc : cs[i]? = some cs[i] := List.getElem?_eq_getElem (by omega)
  generalize cs[i] = c at hc
  have hq : ∀ j x, c.cells[j]? = some x → wr.cell? ⟨b, off + i * 5 + j, none⟩ = some x := fun j x hx => by
    have hj : j < 5 := (List.getElem?_eq_some_iff.1 hx).1
    rw [hb.cell (p := ⟨b, off + i * 5 + j, none⟩) h6, Nat.add_assoc]
    exact h7 (i * 5 + j) x (by rw [flat_get VC.cells (m := 5) (fun _ => rfl) cs i j c hc hj]; exact hx)
  exact ⟨b, off, c, rfl, h6, (g3 i c t hc hk).all hb, hq 0 _ rfl, hq 1 _ rfl, hq 2 _ rfl, hq 3 _ rfl, hq 4 _ rfl⟩
theorem Flds.at {w wr : World} {ao : Option Addr} {n cap : Nat} {l : List (Str × T)} (h : Flds w (.slice ao n cap) l) (hb : Below w.heap.size w wr) {i : Nat} {p : Str × T} (hk : l[i]? = some p) :
    ∃ (b off : Nat) (c : VC), ao = some ⟨b, off, none⟩ ∧ b < w.heap.size ∧ Is wr c p.2 ∧ wr.cell? ⟨b, off + i * 6, none⟩ = some (sV p.1) ∧ wr.cell? ⟨b, off + i * 6 + 1, none⟩ = some (.int .i64 c.k) ∧ wr.cell? ⟨b, off + i * 6 + 2, none⟩ = some (.int .i64 c.n) ∧
      wr.cell? ⟨b, off + i * 6 + 3, none⟩ = some (sV c.s) ∧ wr.cell? ⟨b, off + i * 6 + 4, none⟩ = some (.slice c.la c.ln c.lc) ∧ wr.cell? ⟨b, off + i * 6 + 5, none⟩ = some (.slice c.fa c.fn c.fc) := by
  obtain ⟨cs, g1, g2, g3, g4⟩ := h.out
  obtain ⟨ao', cap', h1, h2, h3, h4⟩ := g2.out
  cases h1
  obtain ⟨hk', -⟩ := List.getElem?_eq_some_iff.1 hk
  obtain ⟨b, off, rfl, h6, h7⟩ := h4 (by omega)
  have hc : cs[i]? = some cs[i] := List.getElem?_eq_getElem (by omega)
  generalize cs[i] = c at hc
  have hq : ∀ j x, c.cells[j]? = some x → wr.cell? ⟨b, off + i * 6 + j, none⟩ = some x := fun j x hx => by
    have hj : j < 6 := (List.getElem?_eq_some_iff.1 hx).1
    rw [hb.cell (p := ⟨b, off + i * 6 + j, none⟩) h6, Nat.add_assoc]
    exact h7 (i * 6 + j) x (by rw [flat_get FC.cells (m := 6) (fun _ => rfl) cs i j c hc hj]; exact hx)
  have hx := g3 i c p hc hk
  exact ⟨b, off, c.v, rfl, h6, (g4 i c p hc hk).all hb, by rw [← hx]; exact hq 0 _ rfl, hq 1 _ rfl, hq 2 _ rfl, hq 3 _ rfl, hq 4 _ rfl, hq 5 _ rfl⟩

/-- what the call owns can be read -/
theorem Flat.of_own {w : World} {base : Nat} {e : TypeId} {size : Nat} {v : Value} {n : Nat} {xs : List Value} (h : w.ownsRow base e size v n xs) : Flat w v n xs := by
  rcases h.2 with ⟨rfl, rfl⟩ | ⟨g, cap, cur, rfl, hb, hg, h1, h2, h3, h4⟩
  · exact Flat.nil w none 0 (Nat.zero_le _) xs
  · refine ⟨some ⟨g, 0, none⟩, cap, rfl, h1, h2, fun _ => ⟨g, 0, rfl, ?_, fun j x hx => ?_⟩⟩
    · rcases Nat.lt_or_ge g w.heap.size with hlt | hge
      · exact hlt
      · rw [Array.getElem?_eq_none hge] at hg; cases hg
    · rw [Nat.zero_add, cell_of_row w g j cur e (0, 0) hg, ← Array.getElem?_toList]
      rw [← h4] at hx
      rw [List.getElem?_take] at hx
      split at hx
      · exact hx
      · cases hx
end Go.Proofs.Ytinenbgdkchghaa
namespace Go.Proofs.Ytinenbgdkchghaa
open Go.RowKit Go.Proofs.LawFrame

theorem cell_of_block {w w' : World} {b o : Nat} (h : w'.heap[b]? = w.heap[b]?) : w'.cell? ⟨b, o, none⟩ = w.cell? ⟨b, o, none⟩ := by
  unfold World.cell?; simp only [h]

/-- as Flat, the block being one of A -/
structure FlatA (w : World) (A : Nat → Prop) (v : Value) (n : Nat) (xs : List Value) : Prop where
  out : ∃ (ao : Option Addr) (cap : Nat), v = .slice ao n cap ∧ n ≤ cap ∧ cap ≤ maxLen ∧ (0 < n → ∃ b off, ao = some ⟨b, off, none⟩ ∧ b < w.heap.size ∧ A b ∧ ∀ j x, xs[j]? = some x → w.cell? ⟨b, off + j, none⟩ = some x)
theorem FlatA.keep {w w' : World} {A A' : Nat → Prop} {v : Value} {n : Nat} {xs : List Value} (h : FlatA w A v n xs) (hs : w.heap.size ≤ w'.heap.size) (hA : ∀ b, A b → A' b) (hk : ∀ b, A b → b < w.heap.size → w'.heap[b]? = w.heap[b]?) : FlatA w' A' v n xs := by
  obtain ⟨ao, cap, h1, h2, h3, h4⟩ := h.out
  refine ⟨ao, cap, h1, h2, h3, fun hl => ?_⟩
  obtain ⟨b, off, h5, h6, h7, h8⟩ := h4 hl
  refine ⟨b, off, h5, Nat.lt_of_lt_of_le h6 hs, hA b h7, fun j x hx => ?_⟩
  rw [cell_of_block (hk b h7 h6)]
  exact h8 j x hx
theorem FlatA.flat {w : World} {A : Nat → Prop} {v : Value} {n : Nat} {xs : List Value} (h : FlatA w A v n xs) : Flat w v n xs := by
  obtain ⟨ao, cap, h1, h2, h3, h4⟩ := h.out
  refine ⟨ao, cap, h1, h2, h3, fun hl => ?_⟩
  obtain ⟨b, off, h5, h6, h7, h8⟩ := h4 hl
  exact ⟨b, off, h5, h6, h8⟩
theorem FlatA.nil (w : World) (A : Nat → Prop) (xs : List Value) : FlatA w A (.slice none 0 0) 0 xs := ⟨none, 0, rfl, Nat.zero_le _, Nat.zero_le _, fun h => absurd h (by omega)⟩

/-- these cells are that tree, whose memory lies in blocks of A -/
inductive IsA (w : World) (A : Nat → Prop) : VC → T → Prop
  | mk {c : VC} {l : List T} {f : List (Str × T)} (cs : List VC) (fs : List FC)
      (hl1 : cs.length = l.length) (hl2 : FlatA w A (.slice c.la c.ln c.lc) l.length (cs.flatMap VC.cells)) (hl3 : ∀ (i : Nat) (x : VC) (t : T), cs[i]? = some x → l[i]? = some t → IsA w A x t)
      (hf1 : fs.length = f.length) (hf2 : FlatA w A (.slice c.fa c.fn c.fc) f.length (fs.flatMap FC.cells)) (hf3 : ∀ (i : Nat) (x : FC) (p : Str × T), fs[i]? = some x → f[i]? = some p → x.x = p.1)
      (hf4 : ∀ (i : Nat) (x : FC) (p : Str × T), fs[i]? = some x → f[i]? = some p → IsA w A x.v p.2) : IsA w A c (.mk c.k c.n c.s l f)
theorem IsA.is {w : World} {A : Nat → Prop} {c : VC} {t : T} (h : IsA w A c t) : Is w c t := by
  induction h with
  | mk cs fs hl1 hl2 hl3 hf1 hf2 hf3 hf4 ih1 ih2 => exact .mk cs fs hl1 hl2.flat ih1 hf1 hf2.flat hf3 ih2
theorem IsA.keep {w w' : World} {A A' : Nat → Prop} {c : VC} {t : T} (h : IsA w A c t) (hs : w.heap.size ≤ w'.heap.size) (hA : ∀ b, A b → A' b) (hk : ∀ b, A b → b < w.heap.size → w'.heap[b]? = w.heap[b]?) : IsA w' A' c t := by
  induction h with
  | mk cs fs hl1 hl2 hl3 hf1 hf2 hf3 hf4 ih1 ih2 => exact .mk cs fs hl1 (hl2.keep hs hA hk) ih1 hf1 (hf2.keep hs hA hk) hf3 ih2
theorem IsA.all {w w' : World} {A : Nat → Prop} {c : VC} {t : T} (h : IsA w A c t) (hb : Below w.heap.size w w') : IsA w' A c t := h.keep hb.size (fun _ h => h) (fun b _ hlt => hb.block b hlt)
theorem IsA.mono {w : World} {A A' : Nat → Prop} {c : VC} {t : T} (h : IsA w A c t) (hA : ∀ b, A b → A' b) : IsA w A' c t := h.keep (Nat.le_refl _) hA (fun _ _ _ => rfl)
/-- a store into a block that is none of A -/
theorem IsA.set {w : World} {A : Nat → Prop} {c : VC} {t : T} (h : IsA w A c t) {b : Nat} (hb : ¬ A b) (i : Nat) (v : Value) : IsA (w.setCell ⟨b, i, none⟩ v) A c t :=
  h.keep (Nat.le_of_eq (by unfold World.setCell; simp)) (fun _ h => h) (fun b' hA _ => Below.heap_setCell _ _ _ _ (by rintro rfl; exact hb hA))

/-- a list of values in new memory -/
structure NewL (w w' : World) (v : Value) (l : List T) : Prop where
  out : (l = [] ∧ v = .slice none 0 0) ∨ ∃ (b : Nat) (cs : List VC), v = .slice (some ⟨b, 0, none⟩) l.length l.length ∧ l.length ≤ maxLen ∧ w.heap.size ≤ b ∧ cs.length = l.length ∧ Own w' b (cs.flatMap VC.cells) 25 ∧
    ∀ (i : Nat) (x : VC) (t : T), cs[i]? = some x → l[i]? = some t → IsA w' (fun b' => b < b') x t
structure NewF (w w' : World) (v : Value) (l : List (Str × T)) : Prop where
  out : (l = [] ∧ v = .slice none 0 0) ∨ ∃ (b : Nat) (cs : List FC), v = .slice (some ⟨b, 0, none⟩) l.length l.length ∧ l.length ≤ maxLen ∧ w.heap.size ≤ b ∧ cs.length = l.length ∧ Own w' b (cs.flatMap FC.cells) 33 ∧
    (∀ (i : Nat) (x : FC) (p : Str × T), cs[i]? = some x → l[i]? = some p → x.x = p.1) ∧ ∀ (i : Nat) (x : FC) (p : Str × T), cs[i]? = some x → l[i]? = some p → IsA w' (fun b' => b < b') x.v p.2
theorem NewL.all {w w' w'' : World} {v : Value} {l : List T} (h : NewL w w' v l) (hb : Below w'.heap.size w' w'') : NewL w w'' v l := by
  rcases h.out with h | ⟨b, cs, h1, h2, h3, h4, h5, h6⟩
  · exact ⟨Or.inl h⟩
  · exact ⟨Or.inr ⟨b, cs, h1, h2, h3, h4, h5.all hb, fun i x t hx ht => (h6 i x t hx ht).all hb⟩⟩
theorem NewF.all {w w' w'' : World} {v : Value} {l : List (Str × T)} (h : NewF w w' v l) (hb : Below w'.heap.size w' w'') : NewF w w'' v l := by
  rcases h.out with h | ⟨b, cs, h1, h2, h3, h4, h5, h7, h6⟩
  · exact ⟨Or.inl h⟩
  · exact ⟨Or.inr ⟨b, cs, h1, h2, h3, h4, h5.all hb, h7, fun i x t hx ht => (h6 i x t hx ht).all hb⟩⟩
/-- a store into an older block -/
theorem NewL.set {w w' : World} {v : Value} {l : List T} (h : NewL w w' v l) {b : Nat} (hb : b < w.heap.size) (i : Nat) (x : Value) : NewL w (w'.setCell ⟨b, i, none⟩ x) v l := by
  rcases h.out with h | ⟨b', cs, h1, h2, h3, h4, h5, h6⟩
  · exact ⟨Or.inl h⟩
  · exact ⟨Or.inr ⟨b', cs, h1, h2, h3, h4, h5.set_ne (by omega) _ _, fun i x t hx ht => (h6 i x t hx ht).set (by omega) _ _⟩⟩
theorem NewF.set {w w' : World} {v : Value} {l : List (Str × T)} (h : NewF w w' v l) {b : Nat} (hb : b < w.heap.size) (i : Nat) (x : Value) : NewF w (w'.setCell ⟨b, i, none⟩ x) v l := by
  rcases h.out with h | ⟨b', cs, h1, h2, h3, h4, h5, h7, h6⟩
  · exact ⟨Or.inl h⟩
  · exact ⟨Or.inr ⟨b', cs, h1, h2, h3, h4, h5.set_ne (by omega) _ _, h7, fun i x t hx ht => (h6 i x t hx ht).set (by omega) _ _⟩⟩
theorem NewL.slice {w w' : World} {v : Value} {l : List T} (h : NewL w w' v l) : ∃ ao n cap, v = .slice ao n cap := by
  rcases h.out with ⟨-, h⟩ | ⟨b, cs, h1, -⟩
  · exact ⟨_, _, _, h⟩
  · exact ⟨_, _, _, h1⟩
theorem NewF.slice {w w' : World} {v : Value} {l : List (Str × T)} (h : NewF w w' v l) : ∃ ao n cap, v = .slice ao n cap := by
  rcases h.out with ⟨-, h⟩ | ⟨b, cs, h1, -⟩
  · exact ⟨_, _, _, h⟩
  · exact ⟨_, _, _, h1⟩
theorem NewL.flatA {w w' : World} {v : Value} {l : List T} (h : NewL w w' v l) : ∃ cs : List VC, cs.length = l.length ∧ FlatA w' (fun b => w.heap.size ≤ b) v l.length (cs.flatMap VC.cells) ∧ ∀ (i : Nat) (x : VC) (t : T), cs[i]? = some x → l[i]? = some t → IsA w' (fun b => w.heap.size ≤ b) x t := by
  rcases h.out with ⟨rfl, rfl⟩ | ⟨b, cs, h1, h2, h3, h4, h5, h6⟩
  · exact ⟨[], rfl, FlatA.nil _ _ _, fun i x t hx => by simp at hx⟩
  · refine ⟨cs, h4, ⟨_, _, h1, Nat.le_refl _, h2, fun _ => ⟨b, 0, rfl, h5.lt, h3, fun j x hx => by rw [Nat.zero_add]; exact h5.cell hx⟩⟩, fun i x t hx ht => (h6 i x t hx ht).mono (fun b' hb' => by omega)⟩
theorem NewF.flatA {w w' : World} {v : Value} {l : List (Str × T)} (h : NewF w w' v l) : ∃ cs : List FC, cs.length = l.length ∧ FlatA w' (fun b => w.heap.size ≤ b) v l.length (cs.flatMap FC.cells) ∧ (∀ (i : Nat) (x : FC) (p : Str × T), cs[i]? = some x → l[i]? = some p → x.x = p.1) ∧ ∀ (i : Nat) (x : FC) (t : Str × T), cs[i]? = some x → l[i]? = some t → IsA w' (fun b => w.heap.size ≤ b) x.v t.2 := by
  rcases h.out with ⟨rfl, rfl⟩ | ⟨b, cs, h1, h2, h3, h4, h5, h7, h6⟩
  · exact ⟨[], rfl, FlatA.nil _ _ _, fun i x t hx => by simp at hx, fun i x t hx => by simp at hx⟩
  · refine ⟨cs, h4, ⟨_, _, h1, Nat.le_refl _, h2, fun _ => ⟨b, 0, rfl, h5.lt, h3, fun j x hx => by rw [Nat.zero_add]; exact h5.cell hx⟩⟩, h7, fun i x t hx ht => (h6 i x t hx ht).mono (fun b' hb' => by omega)⟩
theorem FlatA.up {w : World} {A A' : Nat → Prop} {v : Value} {n : Nat} {xs : List Value} (h : FlatA w A v n xs) (hA : ∀ b, A b → A' b) : FlatA w A' v n xs := h.keep (Nat.le_refl _) hA (fun _ _ _ => rfl)
/-- a value out of a new list and new fields -/
theorem IsA.new {W w1 w2 w' : World} {c : VC} {l : List T} {f : List (Str × T)} (h1 : NewL w1 w' (.slice c.la c.ln c.lc) l) (h2 : NewF w2 w' (.slice c.fa c.fn c.fc) f) (hw1 : W.heap.size ≤ w1.heap.size) (hw2 : W.heap.size ≤ w2.heap.size) :
    IsA w' (fun b => W.heap.size ≤ b) c (.mk c.k c.n c.s l f) := by
  obtain ⟨cs, a1, a2, a3⟩ := h1.flatA
  obtain ⟨fs, b1, b2, b3, b4⟩ := h2.flatA
  exact .mk cs fs a1 (a2.up (fun b hb => by omega)) (fun i x t hx ht => (a3 i x t hx ht).mono (fun b hb => by omega)) b1 (b2.up (fun b hb => by omega)) b3 (fun i x t hx ht => (b4 i x t hx ht).mono (fun b hb => by omega))

def VC0 : VC := ⟨0, 0, [], none, 0, 0, none, 0, 0⟩
def FC0 : FC := ⟨[], VC0⟩
theorem flatMap_set {α : Type} (f : α → List Value) {m : Nat} (hf : ∀ a, (f a).length = m) (l : List α) (k : Nat) (a : α) (hk : k < l.length) :
    (l.set k a).flatMap f = (l.flatMap f).take (k * m) ++ f a ++ (l.flatMap f).drop (k * m + m) := by
  induction l generalizing k with
  | nil => simp at hk
  | cons b l ih =>
    cases k with
    | zero =>
      simp only [List.set_cons_zero, List.flatMap_cons, Nat.zero_mul, List.take_zero, Nat.zero_add, List.nil_append]
      rw [List.drop_append_of_le_length (by rw [hf]; exact Nat.le_refl _), List.drop_eq_nil_of_le (by rw [hf]; exact Nat.le_refl _), List.nil_append]
    | succ k =>
      simp only [List.set_cons_succ, List.flatMap_cons]
      rw [ih k (by simpa using hk), List.take_append, List.drop_append, hf, List.take_of_length_le (l := f b) (by rw [hf, Nat.succ_mul]; omega), List.drop_eq_nil_of_le (as := f b) (by rw [hf, Nat.succ_mul]; omega)]
      rw [show (k + 1) * m - m = k * m by rw [Nat.succ_mul]; omega, show (k + 1) * m + m - m = k * m + m by rw [Nat.succ_mul]; omega]
      simp
theorem set5 : ∀ (o : Nat) (xs : List Value) (a b c d e : Value), o + 5 ≤ xs.length → ((((xs.set o a).set (o + 1) b).set (o + 2) c).set (o + 3) d).set (o + 4) e = xs.take o ++ [a, b, c, d, e] ++ xs.drop (o + 5) := by
  intro o
  induction o with
  | zero =>
    intro xs a b c d e h
    match xs, h with
    | _ :: _ :: _ :: _ :: _ :: t, _ => simp
  | succ o ih =>
    intro xs a b c d e h
    cases xs with
    | nil => simp at h
    | cons x xs =>
      have := ih xs a b c d e (by simp at h; omega)
      simp only [List.set_cons_succ, show o + 1 + 1 = (o + 1) + 1 from rfl, show o + 1 + 2 = (o + 2) + 1 by omega, show o + 1 + 3 = (o + 3) + 1 by omega, show o + 1 + 4 = (o + 4) + 1 by omega, show o + 1 + 5 = (o + 5) + 1 by omega, List.take_succ_cons, List.drop_succ_cons, List.cons_append, this]
theorem set6 : ∀ (o : Nat) (xs : List Value) (a b c d e g : Value), o + 6 ≤ xs.length → (((((xs.set o a).set (o + 1) b).set (o + 2) c).set (o + 3) d).set (o + 4) e).set (o + 5) g = xs.take o ++ [a, b, c, d, e, g] ++ xs.drop (o + 6) := by
  intro o
  induction o with
  | zero =>
    intro xs a b c d e g h
    match xs, h with
    | _ :: _ :: _ :: _ :: _ :: _ :: t, _ => simp
  | succ o ih =>
    intro xs a b c d e g h
    cases xs with
    | nil => simp at h
    | cons x xs =>
      have := ih xs a b c d e g (by simp at h; omega)
      simp only [List.set_cons_succ, show o + 1 + 1 = (o + 1) + 1 from rfl, show o + 1 + 2 = (o + 2) + 1 by omega, show o + 1 + 3 = (o + 3) + 1 by omega, show o + 1 + 4 = (o + 4) + 1 by omega, show o + 1 + 5 = (o + 5) + 1 by omega, show o + 1 + 6 = (o + 6) + 1 by omega, List.take_succ_cons, List.drop_succ_cons, List.cons_append, this]
theorem flat_length {α : Type} (f : α → List Value) {m : Nat} (hf : ∀ a, (f a).length = m) (l : List α) : (l.flatMap f).length = l.length * m := by
  induction l with
  | nil => simp
  | cons a l ih => rw [List.flatMap_cons, List.length_append, ih, hf, List.length_cons, Nat.succ_mul]; omega
/-- the k-th element of a row of values, set -/
theorem Own.setV {w : World} {b : Nat} {cs : List VC} {t : TypeId} (h : Own w b (cs.flatMap VC.cells) t) {k : Nat} (hk : k < cs.length) (c : VC) :
    Own (((((w.setCell ⟨b, k * 5, none⟩ (.int .i64 c.k)).setCell ⟨b, k * 5 + 1, none⟩ (.int .i64 c.n)).setCell ⟨b, k * 5 + 2, none⟩ (sV c.s)).setCell ⟨b, k * 5 + 3, none⟩ (.slice c.la c.ln c.lc)).setCell ⟨b, k * 5 + 4, none⟩ (.slice c.fa c.fn c.fc)) b ((cs.set k c).flatMap VC.cells) t := by
  have := ((((h.set (k * 5) (.int .i64 c.k)).set (k * 5 + 1) (.int .i64 c.n)).set (k * 5 + 2) (sV c.s)).set (k * 5 + 3) (.slice c.la c.ln c.lc)).set (k * 5 + 4) (.slice c.fa c.fn c.fc)
  rw [set5 _ _ _ _ _ _ _ (by rw [flat_length VC.cells (m := 5) (fun _ => rfl)]; omega)] at this
  rw [flatMap_set VC.cells (m := 5) (fun _ => rfl) cs k c hk]
  exact this
theorem Own.setF {w : World} {b : Nat} {cs : List FC} {t : TypeId} (h : Own w b (cs.flatMap FC.cells) t) {k : Nat} (hk : k < cs.length) (c : FC) :
    Own ((((((w.setCell ⟨b, k * 6, none⟩ (sV c.x)).setCell ⟨b, k * 6 + 1, none⟩ (.int .i64 c.v.k)).setCell ⟨b, k * 6 + 2, none⟩ (.int .i64 c.v.n)).setCell ⟨b, k * 6 + 3, none⟩ (sV c.v.s)).setCell ⟨b, k * 6 + 4, none⟩ (.slice c.v.la c.v.ln c.v.lc)).setCell ⟨b, k * 6 + 5, none⟩ (.slice c.v.fa c.v.fn c.v.fc)) b ((cs.set k c).flatMap FC.cells) t := by
  have := (((((h.set (k * 6) (sV c.x)).set (k * 6 + 1) (.int .i64 c.v.k)).set (k * 6 + 2) (.int .i64 c.v.n)).set (k * 6 + 3) (sV c.v.s)).set (k * 6 + 4) (.slice c.v.la c.v.ln c.v.lc)).set (k * 6 + 5) (.slice c.v.fa c.v.fn c.v.fc)
  rw [set6 _ _ _ _ _ _ _ _ (by rw [flat_length FC.cells (m := 6) (fun _ => rfl)]; omega)] at this
  rw [flatMap_set FC.cells (m := 6) (fun _ => rfl) cs k c hk]
  exact this
theorem made_row {α : Type} (f : α → List Value) {m : Nat} (hf : ∀ a, (f a).length = m) (a : α) (z : Array Value) (hz : z.toList = f a) (n : Nat) : (madeCells z (n * m)).toList = (List.replicate n a).flatMap f := by
  have hzs : z.size = m := by rw [← Array.length_toList, hz, hf]
  apply List.ext_getElem?
  intro i
  unfold madeCells
  rcases Nat.lt_or_ge i (n * m) with h | h
  · have hm : 0 < m := by rcases Nat.eq_zero_or_pos m with h0 | h0; rw [h0] at h; simp at h; exact h0
    have e : i = (i / m) * m + i % m := by rw [Nat.mul_comm]; exact (Nat.div_add_mod i m).symm
    have hq : i / m < n := (Nat.div_lt_iff_lt_mul hm).2 h
    rw [e, flat_get f hf (List.replicate n a) (i / m) (i % m) a (by simp [hq]) (Nat.mod_lt _ hm)]
    rw [← e, ← hz]
    have hlt : i % z.size < z.size := by rw [hzs]; exact Nat.mod_lt _ hm
    simp [h, hzs]
    rw [Array.getElem?_eq_getElem (by rw [hzs]; exact Nat.mod_lt _ hm), getElem!_pos z (i % m) (by rw [hzs]; exact Nat.mod_lt _ hm)]
  · rw [List.getElem?_eq_none (by simp; exact h), List.getElem?_eq_none (by rw [flat_length f hf]; simpa using h)]
end Go.Proofs.Ytinenbgdkchghaa
