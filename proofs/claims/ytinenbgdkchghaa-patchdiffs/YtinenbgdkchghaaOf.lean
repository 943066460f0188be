/- A value that came in, opened: a tree, whose strings are no longer than the form's reach. -/
import Derived.Test.YtinenbgdkchghaaOpJ
import Derived.SizedLaws
set_option linter.unusedSimpArgs false
set_option linter.unusedVariables false
namespace Go.Proofs.Ytinenbgdkchghaa
open Go.Joins Go.ChangeShapes Go.WideShapes Go.RowKit Go.Deep Go.Proofs.LawFrame

mutual
/-- no string of the tree is longer than B -/
def T.strB (B : Nat) : T → Prop
  | .mk _ _ s l f => s.length ≤ B ∧ strBL B l ∧ strBF B f
def strBL (B : Nat) : List T → Prop
  | [] => True
  | t :: r => t.strB B ∧ strBL B r
def strBF (B : Nat) : List (Str × T) → Prop
  | [] => True
  | (x, t) :: r => x.length ≤ B ∧ t.strB B ∧ strBF B r
end
theorem strBL_iff {B : Nat} : ∀ {l : List T}, strBL B l ↔ ∀ (i : Nat) (t : T), l[i]? = some t → t.strB B
  | [] => by simp [strBL]
  | t :: r => by
    rw [strBL, strBL_iff (l := r)]
    constructor
    · rintro ⟨h1, h2⟩ i u hu
      cases i with
      | zero => simp at hu; subst hu; exact h1
      | succ i => exact h2 i u (by simpa using hu)
    · intro h
      exact ⟨h 0 t rfl, fun i u hu => h (i + 1) u (by simpa using hu)⟩
theorem strBF_iff {B : Nat} : ∀ {l : List (Str × T)}, strBF B l ↔ ∀ (i : Nat) (p : Str × T), l[i]? = some p → p.1.length ≤ B ∧ p.2.strB B
  | [] => by simp [strBF]
  | (x, t) :: r => by
    rw [strBF, strBF_iff (l := r)]
    constructor
    · rintro ⟨h1, h1', h2⟩ i u hu
      cases i with
      | zero => simp at hu; subst hu; exact ⟨h1, h1'⟩
      | succ i => exact h2 i u (by simpa using hu)
    · intro h
      exact ⟨(h 0 (x, t) rfl).1, (h 0 (x, t) rfl).2, fun i u hu => h (i + 1) u (by simpa using hu)⟩
section
variable {H : Type} {enc : TypeId × Value → H} {w : World} {held : Bool}
theorem weights_at {e : TypeId} : ∀ {l : List (DataW H)} {i : Nat} {d : DataW H} {n : Nat}, l[i]? = some d → n ∈ d.weights Try.prog e → n ∈ DataW.weightsAll Try.prog e l
  | [], i, d, n, h, _ => by simp at h
  | x :: l, 0, d, n, h, hn => by simp at h; subst h; rw [DataW.weightsAll, List.mem_append]; exact Or.inl hn
  | x :: l, i + 1, d, n, h, hn => by rw [DataW.weightsAll, List.mem_append]; exact Or.inr (weights_at (l := l) (i := i) (by simpa using h) hn)
theorem fields_at2 {B base : Nat} {spare : Nat → Bool} {t : TypeId} {fs : Array Field} {fuel : Nat} {cs : List Value} {x : DataW H × List MemPlace} (hs : Try.prog.underlying t = some (.struct fs)) (h : DataW.trod enc Try.prog w base spare held fuel t cs = some x)
    (hb : ∀ n ∈ x.1.weights Try.prog t, n ≤ B) :
    ∃ n : Nat, fuel = n + 1 ∧ cs.length = Try.prog.cellsOf t ∧ ∀ (i t' o k : Nat) (f : Field), fs[i]? = some f → f.type = t' → f.offset = o → Try.prog.cellsOf t' = k → ∃ y, DataW.trod enc Try.prog w base spare held n t' ((cs.drop o).take k) = some y ∧ ∀ m ∈ y.1.weights Try.prog t', m ≤ B := by
  obtain ⟨xs, n, hn, hx, hl, hlen, hg⟩ := DataW.trod_struct hs h
  subst hx
  simp only [DataW.weights, hs] at hb
  refine ⟨n, hn, hl, fun i t' o k f hi ht ho hk => ?_⟩
  subst ht ho hk
  have hlt : i < xs.length := by rw [hlen]; exact (Array.getElem?_eq_some_iff.1 hi).1
  have := hg i f hi
  rw [List.getElem?_eq_getElem hlt] at this
  refine ⟨_, this, fun m hm => hb m (DataW.weights_mem_each (j := i) (t := f.type) ?_ ?_ m hm)⟩
  · rw [List.getElem?_map, Array.getElem?_toList, hi]; rfl
  · rw [List.getElem?_map, List.getElem?_eq_getElem hlt]; rfl
/-- a slice, opened element by element -/
theorem slice_at2 {α : Type} [Inhabited α] {B : Nat} {e t : TypeId} {m : Nat} (hm : 0 < m) (cells : α → List Value) (hcl : ∀ a, (cells a).length = m) (hce : Try.prog.cellsOf e = m) (ht : Try.prog.underlying t = some (.slice e)) {fuel : Nat} {v : Value} {y : DataW H × List MemPlace} (h : DataW.trod enc Try.prog w 0 (fun _ => true) held fuel t [v] = some y)
    (hb : ∀ n ∈ y.1.weights Try.prog t, n ≤ B)
    (P : α → Prop) (hel : ∀ (n : Nat) (cs : List Value) (y : DataW H × List MemPlace), fuel = n + 1 → DataW.trod enc Try.prog w 0 (fun _ => true) held n e cs = some y → (∀ k ∈ y.1.weights Try.prog e, k ≤ B) → ∃ a, cs = cells a ∧ P a) :
    ∃ (ao : Option Addr) (n cap : Nat) (l : List α), v = .slice ao n cap ∧ n = l.length ∧ Flat w (.slice ao n cap) n (l.flatMap cells) ∧ ∀ (i : Nat) (a : α), l[i]? = some a → P a := by
  rcases DataW.trod_slice ht h with ⟨hcs, _⟩ | ⟨a, len, cap, elems, rest, n, hn, hcs, hyy, _, hl, hmx, hlen, hx, _, _⟩
  · obtain rfl : v = .slice none 0 0 := by simpa using hcs
    exact ⟨none, 0, 0, [], rfl, rfl, Flat.nil _ _ _ (Nat.zero_le _) _, fun i a h => by simp at h⟩
  · obtain rfl : v = .slice (some a) len cap := by simpa using hcs
    rw [hce] at hx
    subst hyy
    simp only [DataW.weights, ht] at hb
    have hc : ∀ i, i < len → ∃ c : α, P c ∧ ∀ j x, (cells c)[j]? = some x → w.cell? (a.add (i * m + j)) = some x := fun i hi => by
      have h1 := hx i hi
      rw [List.getElem?_eq_getElem (by omega)] at h1
      obtain ⟨cs', h2, h3⟩ := Option.bind_eq_some_iff.1 h1
      obtain ⟨c, rfl, hp⟩ := hel n cs' _ hn h3 (fun k hk => hb k (by
        rw [List.mem_cons, List.mem_append]
        exact Or.inr (Or.inl (weights_at (i := i) (by rw [List.getElem?_map, List.getElem?_eq_getElem (by omega)]; rfl) hk))))
      obtain ⟨_, hlen', hat⟩ := World.cells?_some h2
      refine ⟨c, hp, fun j x hj => ?_⟩
      have hj' : j < m := by have := (List.getElem?_eq_some_iff.1 hj).1; rw [hcl] at this; exact this
      rw [← add_add, hat j hj', hj]
    obtain ⟨F, hF⟩ := choose_lt hc
    refine ⟨some a, len, cap, (List.range len).map F, rfl, by simp, ⟨some a, cap, rfl, hl, hmx, fun hpos => ?_⟩, fun i c hi => ?_⟩
    · obtain ⟨x0, hx0⟩ : ∃ x, (cells (F 0))[0]? = some x := ⟨_, List.getElem?_eq_getElem (by rw [hcl]; exact hm)⟩
      have h00 : w.cell? a = some x0 := by
        have := (hF 0 hpos).2 0 _ hx0
        simpa [Addr.add] using this
      have hspot := World.cell?_spot h00
      obtain ⟨b, off, spot⟩ := a
      simp only at hspot
      subst hspot
      refine ⟨b, off, rfl, World.block_lt_of_cell? w _ h00, fun j x hj => ?_⟩
      have hjl := (List.getElem?_eq_some_iff.1 hj).1
      have hfl : (((List.range len).map F).flatMap cells).length = len * m := by
        have : ∀ l : List α, (l.flatMap cells).length = l.length * m := fun l => by
          induction l with
          | nil => simp
          | cons a l ih => rw [List.flatMap_cons, List.length_append, ih, hcl, List.length_cons, Nat.succ_mul]; omega
        rw [this]; simp
      rw [hfl] at hjl
      have hq : j / m < len := (Nat.div_lt_iff_lt_mul hm).2 hjl
      have hr : j % m < m := Nat.mod_lt _ hm
      have e : j = (j / m) * m + j % m := by rw [Nat.mul_comm]; exact (Nat.div_add_mod j m).symm
      have hget := flat_get cells hcl ((List.range len).map F) (j / m) (j % m) (F (j / m)) (by simp [hq]) hr
      rw [← e] at hget
      rw [hget] at hj
      have := (hF (j / m) hq).2 (j % m) x hj
      rw [← e] at this
      rw [Addr.add_lit] at this
      exact this
    · have hil : i < len := by
        have := (List.getElem?_eq_some_iff.1 hi).1
        simpa using this
      obtain rfl : F i = c := by simpa [hil] using hi
      exact (hF i hil).1
theorem string_at2 {B base : Nat} {spare : Nat → Bool} {fuel : Nat} {cs : List Value} {x : DataW H × List MemPlace} (h : DataW.trod enc Try.prog w base spare held fuel 9 cs = some x) (hb : ∀ n ∈ x.1.weights Try.prog 9, n ≤ B) : ∃ s : Str, cs = [sV s] ∧ s.length ≤ B := by
  obtain ⟨s, e2, e3, _⟩ := DataW.trod_string Try.underlying9 h
  subst e3
  simp only [DataW.weights, List.mem_singleton, forall_eq] at hb
  obtain ⟨s, rfl⟩ := str_list s
  exact ⟨s, e2, by simpa using hb⟩

theorem value_of2 {B : Nat} : ∀ (N n : Nat), n ≤ N → ∀ (cs : List Value) (y : DataW H × List MemPlace), DataW.trod enc Try.prog w 0 (fun _ => true) held n 25 cs = some y → (∀ k ∈ y.1.weights Try.prog 25, k ≤ B) → ∃ (c : VC) (t : T), cs = c.cells ∧ Is w c t ∧ t.strB B := by
  intro N
  induction N with
  | zero =>
    intro n hn cs y h hb
    obtain ⟨m, hm, -⟩ := fields_at Try.underlying25 h
    omega
  | succ N ih =>
    intro n hn cs y h hb
    obtain ⟨m, hm, hl, hf⟩ := fields_at2 Try.underlying25 h hb
    rw [cells25] at hl
    obtain ⟨x0, x1, x2, x3, x4, rfl⟩ := list5 hl
    obtain ⟨y0, h0, -⟩ := hf 0 3 0 1 _ rfl rfl rfl cells3
    obtain ⟨y1, h1, -⟩ := hf 1 3 1 1 _ rfl rfl rfl cells3
    obtain ⟨y2, h2, b2⟩ := hf 2 9 2 1 _ rfl rfl rfl cells9
    obtain ⟨y3, h3, b3⟩ := hf 3 22 3 1 _ rfl rfl rfl cells22
    obtain ⟨y4, h4, b4⟩ := hf 4 23 4 1 _ rfl rfl rfl cells23
    simp only [List.drop_succ_cons, List.drop_zero, List.take_succ_cons, List.take_zero] at h0 h1 h2 h3 h4
    obtain ⟨k, e0, _⟩ := DataW.trod_int Try.underlying3 h0
    obtain ⟨j, e1, _⟩ := DataW.trod_int Try.underlying3 h1
    obtain ⟨s, e2, hs⟩ := string_at2 h2 b2
    simp only [List.cons.injEq, and_true] at e0 e1 e2
    subst e0 e1 e2
    obtain ⟨la, ln, lc, L, rfl, hln, hL1, hL2⟩ := slice_at2 (α := VC × T) (m := 5) (by omega) (fun p => p.1.cells) (fun _ => rfl) cells25 Try.underlying22 h3 b3 (fun p => Is w p.1 p.2 ∧ p.2.strB B) (fun n' cs' y' hn' h' hb' => by
      obtain ⟨c, t, hc, hi⟩ := ih n' (by omega) cs' y' h' hb'
      exact ⟨(c, t), hc, hi⟩)
    obtain ⟨fa, fn, fc, F, rfl, hfn, hF1, hF2⟩ := slice_at2 (α := (Str × VC) × T) (m := 6) (by omega) (fun p => FC.cells ⟨p.1.1, p.1.2⟩) (fun _ => rfl) cells35 Try.underlying23 h4 b4 (fun p => Is w p.1.2 p.2 ∧ p.1.1.length ≤ B ∧ p.2.strB B) (fun n' cs' y' hn' h' hb' => by
      obtain ⟨m', hm', hl', hf'⟩ := fields_at2 Try.underlying33 h' hb'
      rw [cells35] at hl'
      obtain ⟨z0, z1, z2, z3, z4, z5, rfl⟩ := list6 hl'
      obtain ⟨u0, g0, c0⟩ := hf' 0 9 0 1 _ rfl rfl rfl cells9
      obtain ⟨u1, g1, c1⟩ := hf' 1 25 1 5 _ rfl rfl rfl cells25
      simp only [List.drop_succ_cons, List.drop_zero, List.take_succ_cons, List.take_zero] at g0 g1
      obtain ⟨nm, e0, hnm⟩ := string_at2 g0 c0
      simp only [List.cons.injEq, and_true] at e0
      subst e0
      obtain ⟨c, t, hc, hi, hst⟩ := ih m' (by omega) _ u1 g1 c1
      simp only [VC.cells, List.cons.injEq, and_true] at hc
      obtain ⟨rfl, rfl, rfl, rfl, rfl⟩ := hc
      exact ⟨((nm, c), t), rfl, hi, hnm, hst⟩)
    refine ⟨⟨k, j, s, la, ln, lc, fa, fn, fc⟩, .mk k j s (L.map (·.2)) (F.map fun p => (p.1.1, p.2)), rfl, ?_, ?_⟩
    · refine Is.mk (c := ⟨k, j, s, la, ln, lc, fa, fn, fc⟩) (L.map (·.1)) (F.map fun p => ⟨p.1.1, p.1.2⟩) (by simp) ?_ ?_ (by simp) ?_ ?_ ?_
      · rw [List.flatMap_map, List.length_map, ← hln]; exact hL1
      · intro i x t hx ht
        rw [List.getElem?_map] at hx ht
        cases hLi : L[i]? with
        | none => rw [hLi] at hx; simp at hx
        | some p => rw [hLi] at hx ht; simp at hx ht; subst hx ht; exact (hL2 i p hLi).1
      · rw [List.flatMap_map, List.length_map, ← hfn]; exact hF1
      · intro i x p hx hp
        rw [List.getElem?_map] at hx hp
        cases hFi : F[i]? with
        | none => rw [hFi] at hx; simp at hx
        | some q => rw [hFi] at hx hp; simp at hx hp; subst hx hp; rfl
      · intro i x p hx hp
        rw [List.getElem?_map] at hx hp
        cases hFi : F[i]? with
        | none => rw [hFi] at hx; simp at hx
        | some q => rw [hFi] at hx hp; simp at hx hp; subst hx hp; exact (hF2 i q hFi).1
    · rw [T.strB]
      refine ⟨hs, strBL_iff.2 (fun i t ht => ?_), strBF_iff.2 (fun i p hp => ?_)⟩
      · rw [List.getElem?_map] at ht
        cases hLi : L[i]? with
        | none => rw [hLi] at ht; simp at ht
        | some p => rw [hLi] at ht; simp at ht; subst ht; exact (hL2 i p hLi).2
      · rw [List.getElem?_map] at hp
        cases hFi : F[i]? with
        | none => rw [hFi] at hp; simp at hp
        | some q => rw [hFi] at hp; simp at hp; subst hp; exact (hF2 i q hFi).2
end
set_option maxRecDepth 100000 in
theorem value_arg2 {H : Type} {enc : TypeId × Value → H} {w : World} {base B : Nat} {v : Value} {d : DataW H} {p : List MemPlace} (hv : Value.okWide Try.prog w .any base 25 v) (h : DataW.Trod enc Try.prog w 0 (fun _ => true) true 25 v d p) (hb : ∀ n ∈ d.weights Try.prog 25, n ≤ B) :
    ∃ (c : VC) (t : T), v = .agg #[.int .i64 c.k, .int .i64 c.n, sV c.s, .slice c.la c.ln c.lc, .slice c.fa c.fn c.fc] ∧ Is w c t ∧ t.strB B := by
  obtain ⟨cs, rfl, hsz⟩ := okWide_struct Try.underlying25 hv
  obtain ⟨fuel, hf⟩ := h
  obtain ⟨c, t, hc, hi, hs⟩ := value_of2 fuel fuel (Nat.le_refl _) _ _ hf hb
  refine ⟨c, t, ?_, hi, hs⟩
  have : cs.toList = c.cells := hc
  rw [← Array.toArray_toList (xs := cs), this]
end Go.Proofs.Ytinenbgdkchghaa
