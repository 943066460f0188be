/- Value trees in memory. -/
import Derived.Test.YtmmembmohkideaaMa
import Derived.Test.YtmmembmohkideaaOw
import Derived.Laws.AppendOwn
namespace Go.Proofs.Ytmmembmohkideaa
open Go.RowKit Go.Proofs.LawFrame

/-- a string as a value -/
abbrev sV (x : Str) : Value := .string ⟨x.toArray⟩

/-- the slice v has n elements, whose cells are xs -/
structure Flat (w : World) (v : Value) (n : Nat) (xs : List Value) : Prop where
  out : ∃ (ao : Option Addr) (cap : Nat), v = .slice ao n cap ∧ n ≤ cap ∧ cap ≤ maxLen ∧ (0 < n → ∃ b off, ao = some ⟨b, off, none⟩ ∧ b < w.heap.size ∧ ∀ j x, xs[j]? = some x → w.cell? ⟨b, off + j, none⟩ = some x)

theorem Flat.below {w w' : World} {v : Value} {n : Nat} {xs : List Value} (h : Flat w v n xs) {B : Nat} (hB : w.heap.size ≤ B) (hb : Below B w w') : Flat w' v n xs := by
  obtain ⟨ao, cap, h1, h2, h3, h4⟩ := h.out
  refine ⟨ao, cap, h1, h2, h3, fun hl => ?_⟩
  obtain ⟨b, off, h5, h6, h7⟩ := h4 hl
  refine ⟨b, off, h5, Nat.lt_of_lt_of_le h6 hb.size, fun j x hx => ?_⟩
  rw [hb.cell (p := ⟨b, off + j, none⟩) (Nat.lt_of_lt_of_le h6 hB)]
  exact h7 j x hx
theorem Flat.all {w w' : World} {v : Value} {n : Nat} {xs : List Value} (h : Flat w v n xs) (hb : Below w.heap.size w w') : Flat w' v n xs := h.below (Nat.le_refl _) hb
theorem Flat.nil (w : World) (ao : Option Addr) (cap : Nat) (h : cap ≤ maxLen) (xs : List Value) : Flat w (.slice ao 0 cap) 0 xs := ⟨ao, cap, rfl, Nat.zero_le _, h, fun h => absurd h (by omega)⟩

theorem flat_get {α : Type} (f : α → List Value) {m : Nat} (hf : ∀ a, (f a).length = m) : ∀ (l : List α) (k j : Nat) (a : α), l[k]? = some a → j < m → (l.flatMap f)[k * m + j]? = (f a)[j]? := by
  intro l
  induction l with
  | nil => intro k j a h; simp at h
  | cons b l ih =>
    intro k j a hk hj
    rw [List.flatMap_cons]
    cases k with
    | zero =>
      simp at hk; subst hk
      rw [Nat.zero_mul, Nat.zero_add, List.getElem?_append_left (by rw [hf]; exact hj)]
    | succ k =>
      rw [List.getElem?_append_right (by rw [hf, Nat.succ_mul]; omega), hf, show (k + 1) * m + j - m = k * m + j by rw [Nat.succ_mul]; omega]
      exact ih k j a (by simpa using hk) hj

/-- a value's five cells -/
structure VC where
  k : Int
  n : Int
  s : Str
  la : Option Addr
  ln : Nat
  lc : Nat
  fa : Option Addr
  fn : Nat
  fc : Nat
abbrev VC.cells (c : VC) : List Value := [.int .i64 c.k, .int .i64 c.n, sV c.s, .slice c.la c.ln c.lc, .slice c.fa c.fn c.fc]
/-- a field's six cells -/
structure FC where
  x : Str
  v : VC
abbrev FC.cells (c : FC) : List Value := [sV c.x, .int .i64 c.v.k, .int .i64 c.v.n, sV c.v.s, .slice c.v.la c.v.ln c.v.lc, .slice c.v.fa c.v.fn c.v.fc]

/-- these cells are that tree -/
inductive Is (w : World) : VC → T → Prop
  | mk {c : VC} {l : List T} {f : List (Str × T)} (cs : List VC) (fs : List FC)
      (hl1 : cs.length = l.length) (hl2 : Flat w (.slice c.la c.ln c.lc) l.length (cs.flatMap VC.cells)) (hl3 : ∀ (i : Nat) (x : VC) (t : T), cs[i]? = some x → l[i]? = some t → Is w x t)
      (hf1 : fs.length = f.length) (hf2 : Flat w (.slice c.fa c.fn c.fc) f.length (fs.flatMap FC.cells)) (hf3 : ∀ (i : Nat) (x : FC) (p : Str × T), fs[i]? = some x → f[i]? = some p → x.x = p.1)
      (hf4 : ∀ (i : Nat) (x : FC) (p : Str × T), fs[i]? = some x → f[i]? = some p → Is w x.v p.2) : Is w c (.mk c.k c.n c.s l f)
theorem Is.under {w w' : World} {B : Nat} {c : VC} {t : T} (h : Is w c t) (hB : w.heap.size ≤ B) (hb : Below B w w') : Is w' c t := by
  induction h with
  | mk cs fs hl1 hl2 hl3 hf1 hf2 hf3 hf4 ih1 ih2 => exact .mk cs fs hl1 (hl2.below hB hb) ih1 hf1 (hf2.below hB hb) hf3 ih2
theorem Is.all {w w' : World} {c : VC} {t : T} (h : Is w c t) (hb : Below w.heap.size w w') : Is w' c t := h.under (Nat.le_refl _) hb

/-- the slice v holds these values -/
structure Vals (w : World) (v : Value) (l : List T) : Prop where
  out : ∃ cs : List VC, cs.length = l.length ∧ Flat w v l.length (cs.flatMap VC.cells) ∧ ∀ (i : Nat) (x : VC) (t : T), cs[i]? = some x → l[i]? = some t → Is w x t
/-- the slice v holds these fields -/
structure Flds (w : World) (v : Value) (l : List (Str × T)) : Prop where
  out : ∃ cs : List FC, cs.length = l.length ∧ Flat w v l.length (cs.flatMap FC.cells) ∧ (∀ (i : Nat) (x : FC) (p : Str × T), cs[i]? = some x → l[i]? = some p → x.x = p.1) ∧
    ∀ (i : Nat) (x : FC) (p : Str × T), cs[i]? = some x → l[i]? = some p → Is w x.v p.2
theorem Vals.all {w w' : World} {v : Value} {l : List T} (h : Vals w v l) (hb : Below w.heap.size w w') : Vals w' v l := by
  obtain ⟨cs, h1, h2, h3⟩ := h.out
  exact ⟨cs, h1, h2.all hb, fun i x t hx ht => (h3 i x t hx ht).all hb⟩
theorem Flds.all {w w' : World} {v : Value} {l : List (Str × T)} (h : Flds w v l) (hb : Below w.heap.size w w') : Flds w' v l := by
  obtain ⟨cs, h1, h2, h3, h4⟩ := h.out
  exact ⟨cs, h1, h2.all hb, h3, fun i x t hx ht => (h4 i x t hx ht).all hb⟩
theorem Is.vals {w : World} {c : VC} {k n : Int} {s : Str} {l : List T} {f : List (Str × T)} (h : Is w c (.mk k n s l f)) : Vals w (.slice c.la c.ln c.lc) l := by
  cases h with
  | mk cs fs hl1 hl2 hl3 hf1 hf2 hf3 hf4 => exact ⟨cs, hl1, hl2, hl3⟩
theorem Is.flds {w : World} {c : VC} {k n : Int} {s : Str} {l : List T} {f : List (Str × T)} (h : Is w c (.mk k n s l f)) : Flds w (.slice c.fa c.fn c.fc) f := by
  cases h with
  | mk cs fs hl1 hl2 hl3 hf1 hf2 hf3 hf4 => exact ⟨fs, hf1, hf2, hf3, hf4⟩
theorem Is.same {w : World} {c : VC} {k n : Int} {s : Str} {l : List T} {f : List (Str × T)} (h : Is w c (.mk k n s l f)) : c.k = k ∧ c.n = n ∧ c.s = s := by
  cases h; exact ⟨rfl, rfl, rfl⟩
theorem Is.of {w : World} {c : VC} {l : List T} {f : List (Str × T)} (h : Vals w (.slice c.la c.ln c.lc) l) (h' : Flds w (.slice c.fa c.fn c.fc) f) : Is w c (.mk c.k c.n c.s l f) := by
  obtain ⟨cs, h1, h2, h3⟩ := h.out
  obtain ⟨fs, g1, g2, g3, g4⟩ := h'.out
  exact .mk cs fs h1 h2 h3 g1 g2 g3 g4
theorem Vals.slice {w : World} {ao : Option Addr} {n cap : Nat} {l : List T} (h : Vals w (.slice ao n cap) l) : n = l.length ∧ l.length ≤ cap ∧ cap ≤ maxLen := by
  obtain ⟨cs, h1, h2, h3⟩ := h.out
  obtain ⟨ao', cap', h4, h5, h6, -⟩ := h2.out
  cases h4; exact ⟨rfl, h5, h6⟩
theorem Flds.slice {w : World} {ao : Option Addr} {n cap : Nat} {l : List (Str × T)} (h : Flds w (.slice ao n cap) l) : n = l.length ∧ l.length ≤ cap ∧ cap ≤ maxLen := by
  obtain ⟨cs, h1, h2, h3⟩ := h.out
  obtain ⟨ao', cap', h4, h5, h6, -⟩ := h2.out
  cases h4; exact ⟨rfl, h5, h6⟩
theorem Vals.form {w : World} {v : Value} {l : List T} (h : Vals w v l) : ∃ ao cap, v = .slice ao l.length cap ∧ l.length ≤ cap ∧ cap ≤ maxLen := by
  obtain ⟨cs, h1, h2, h3⟩ := h.out
  obtain ⟨ao', cap', h4, h5, h6, -⟩ := h2.out
  exact ⟨ao', cap', h4, h5, h6⟩
theorem Flds.form {w : World} {v : Value} {l : List (Str × T)} (h : Flds w v l) : ∃ ao cap, v = .slice ao l.length cap ∧ l.length ≤ cap ∧ cap ≤ maxLen := by
  obtain ⟨cs, h1, h2, h3⟩ := h.out
  obtain ⟨ao', cap', h4, h5, h6, -⟩ := h2.out
  exact ⟨ao', cap', h4, h5, h6⟩

theorem Vals.at {w wr : World} {ao : Option Addr} {n cap : Nat} {l : List T} (h : Vals w (.slice ao n cap) l) (hb : Below w.heap.size w wr) {i : Nat} {t : T} (hk : l[i]? = some t) :
    ∃ (b off : Nat) (c : VC), ao = some ⟨b, off, none⟩ ∧ b < w.heap.size ∧ Is wr c t ∧ wr.cell? ⟨b, off + i * 5, none⟩ = some (.int .i64 c.k) ∧ wr.cell? ⟨b, off + i * 5 + 1, none⟩ = some (.int .i64 c.n) ∧
      wr.cell? ⟨b, off + i * 5 + 2, none⟩ = some (sV c.s) ∧ wr.cell? ⟨b, off + i * 5 + 3, none⟩ = some (.slice c.la c.ln c.lc) ∧ wr.cell? ⟨b, off + i * 5 + 4, none⟩ = some (.slice c.fa c.fn c.fc) := by
  obtain ⟨cs, g1, g2, g3⟩ := h.out
  obtain ⟨ao', cap', h1, h2, h3, h4⟩ := g2.out
  cases h1
  obtain ⟨hk', -⟩ := List.getElem?_eq_some_iff.1 hk
  obtain ⟨b, off, rfl, h6, h7⟩ := h4 (by omega)
  have hc : cs[i]? = some cs[i] := List.getElem?_eq_getElem (by omega)
  generalize cs[i] = c at hc
  have hq : ∀ j x, c.cells[j]? = some x → wr.cell? ⟨b, off + i * 5 + j, none⟩ = some x := fun j x hx => by
    have hj : j < 5 := (List.getElem?_eq_some_iff.1 hx).1
    rw [hb.cell (p := ⟨b, off + i * 5 + j, none⟩) h6, Nat.add_assoc]
    exact h7 (i * 5 + j) x (by rw [flat_get VC.cells (m := 5) (fun _ => rfl) cs i j c hc hj]; exact hx)
  exact ⟨b, off, c, rfl, h6, (g3 i c t hc hk).all hb, hq 0 _ rfl, hq 1 _ rfl, hq 2 _ rfl, hq 3 _ rfl, hq 4 _ rfl⟩
theorem Flds.at {w wr : World} {ao : Option Addr} {n cap : Nat} {l : List (Str × T)} (h : Flds w (.slice ao n cap) l) (hb : Below w.heap.size w wr) {i : Nat} {p : Str × T} (hk : l[i]? = some p) :
    ∃ (b off : Nat) (c : VC), ao = some ⟨b, off, none⟩ ∧ b < w.heap.size ∧ Is wr c p.2 ∧ wr.cell? ⟨b, off + i * 6, none⟩ = some (sV p.1) ∧ wr.cell? ⟨b, off + i * 6 + 1, none⟩ = some (.int .i64 c.k) ∧ wr.cell? ⟨b, off + i * 6 + 2, none⟩ = some (.int .i64 c.n) ∧
      wr.cell? ⟨b, off + i * 6 + 3, none⟩ = some (sV c.s) ∧ wr.cell? ⟨b, off + i * 6 + 4, none⟩ = some (.slice c.la c.ln c.lc) ∧ wr.cell? ⟨b, off + i * 6 + 5, none⟩ = some (.slice c.fa c.fn c.fc) := by
  obtain ⟨cs, g1, g2, g3, g4⟩ := h.out
  obtain ⟨ao', cap', h1, h2, h3, h4⟩ := g2.out
  cases h1
  obtain ⟨hk', -⟩ := List.getElem?_eq_some_iff.1 hk
  obtain ⟨b, off, rfl, h6, h7⟩ := h4 (by omega)
  have hc : cs[i]? = some cs[i] := List.getElem?_eq_getElem (by omega)
  generalize cs[i] = c at hc
  have hq : ∀ j x, c.cells[j]? = some x → wr.cell? ⟨b, off + i * 6 + j, none⟩ = some x := fun j x hx => by
    have hj : j < 6 := (List.getElem?_eq_some_iff.1 hx).1
    rw [hb.cell (p := ⟨b, off + i * 6 + j, none⟩) h6, Nat.add_assoc]
    exact h7 (i * 6 + j) x (by rw [flat_get FC.cells (m := 6) (fun _ => rfl) cs i j c hc hj]; exact hx)
  have hx := g3 i c p hc hk
  exact ⟨b, off, c.v, rfl, h6, (g4 i c p hc hk).all hb, by rw [← hx]; exact hq 0 _ rfl, hq 1 _ rfl, hq 2 _ rfl, hq 3 _ rfl, hq 4 _ rfl, hq 5 _ rfl⟩

/-- what the call owns can be read -/
theorem Flat.of_own {w : World} {base : Nat} {e : TypeId} {size : Nat} {v : Value} {n : Nat} {xs : List Value} (h : w.ownsRow base e size v n xs) : Flat w v n xs := by
  rcases h.2 with ⟨rfl, rfl⟩ | ⟨g, cap, cur, rfl, hb, hg, h1, h2, h3, h4⟩
  · exact Flat.nil w none 0 (Nat.zero_le _) xs
  · refine ⟨some ⟨g, 0, none⟩, cap, rfl, h1, h2, fun _ => ⟨g, 0, rfl, ?_, fun j x hx => ?_⟩⟩
    · rcases Nat.lt_or_ge g w.heap.size with hlt | hge
      · exact hlt
      · rw [Array.getElem?_eq_none hge] at hg; cases hg
    · rw [Nat.zero_add, cell_of_row w g j cur e (0, 0) hg, ← Array.getElem?_toList]
      rw [← h4] at hx
      rw [List.getElem?_take] at hx
      split at hx
      · exact hx
      · cases hx
end Go.Proofs.Ytmmembmohkideaa
