/- OF NO PROGRAM: a struct that came in by value, opened field by field, whatever its fields. A value that came in, opened: a tree. -/
import Derived.Deep.Slices
import Derived.Deep.Fields
import Derived.Lib.SmallJoins
import Derived.ChangeSame
import Derived.Test.YtinenbgdkchghaaProg
import Derived.Test.YtinenbgdkchghaaPmJ
import Derived.KernelRfl
set_option linter.unusedSimpArgs false
set_option linter.unusedVariables false
namespace Go.Proofs.LawFrame
open Go.Joins Go.ChangeShapes Go.WideShapes Go.RowKit Go.Deep

section
variable {H : Type} {enc : TypeId × Value → H} {P : Program} {w : World} {base : Nat} {spare : Nat → Bool} {held : Bool}
theorem open_struct {r : Reach} {b0 : Nat} {t : TypeId} {fs : Array Field} {v : Value} {d : DataW H} {p : List MemPlace} (hs : P.underlying t = some (.struct fs))
    (hv : Value.okWide P w r b0 t v) (h : DataW.Trod enc P w base spare held t v d p) :
    ∃ (cs : List Value) (n : Nat), v = .agg cs.toArray ∧ cs.length = P.cellsOf t ∧
      ∀ (i t' o k : Nat) (f : Field), fs[i]? = some f → f.type = t' → f.offset = o → P.cellsOf t' = k → ∃ y, DataW.trod enc P w base spare held n t' ((cs.drop o).take k) = some y := by
  obtain ⟨cs, rfl, hsz⟩ := okWide_struct hs hv
  obtain ⟨fuel, hf⟩ := h
  obtain ⟨xs, n, _, _, _, hlen, hg⟩ := DataW.trod_struct hs hf
  refine ⟨cs.toList, n, by simp, by simpa using hsz, fun i t' o k f hi ht ho hk => ?_⟩
  subst ht ho hk
  have hlt : i < xs.length := by rw [hlen]; exact (Array.getElem?_eq_some_iff.1 hi).1
  have := hg i f hi
  rw [List.getElem?_eq_getElem hlt] at this
  exact ⟨_, by simpa [Value.cells] using this⟩
/-- the same of cells that lie in memory -/
theorem struct_fields {t : TypeId} {fs : Array Field} {fuel : Nat} {cs : List Value} {x : DataW H × List MemPlace} (hs : P.underlying t = some (.struct fs)) (h : DataW.trod enc P w base spare held fuel t cs = some x) :
    ∃ n : Nat, cs.length = P.cellsOf t ∧ ∀ (i t' o k : Nat) (f : Field), fs[i]? = some f → f.type = t' → f.offset = o → P.cellsOf t' = k → ∃ y, DataW.trod enc P w base spare held n t' ((cs.drop o).take k) = some y := by
  obtain ⟨xs, n, _, _, hl, hlen, hg⟩ := DataW.trod_struct hs h
  refine ⟨n, hl, fun i t' o k f hi ht ho hk => ?_⟩
  subst ht ho hk
  have hlt : i < xs.length := by rw [hlen]; exact (Array.getElem?_eq_some_iff.1 hi).1
  have := hg i f hi
  rw [List.getElem?_eq_getElem hlt] at this
  exact ⟨_, this⟩
end
theorem list_succ {α : Type} {l : List α} {n : Nat} (h : l.length = n + 1) : ∃ x t, l = x :: t ∧ t.length = n := by
  cases l with
  | nil => cases h
  | cons x t => exact ⟨x, t, rfl, by simpa using h⟩
theorem list_zero {α : Type} {l : List α} (h : l.length = 0) : l = [] := by simpa using h
theorem list3 {α : Type} {l : List α} (h : l.length = 3) : ∃ x0 x1 x2, l = [x0, x1, x2] := by
  obtain ⟨x0, t0, rfl, h0⟩ := list_succ h
  obtain ⟨x1, t1, rfl, h1⟩ := list_succ h0
  obtain ⟨x2, t2, rfl, h2⟩ := list_succ h1
  obtain rfl := list_zero h2
  exact ⟨x0, x1, x2, rfl⟩
theorem list10 {α : Type} {l : List α} (h : l.length = 10) : ∃ x0 x1 x2 x3 x4 x5 x6 x7 x8 x9, l = [x0, x1, x2, x3, x4, x5, x6, x7, x8, x9] := by
  obtain ⟨x0, t0, rfl, h0⟩ := list_succ h
  obtain ⟨x1, t1, rfl, h1⟩ := list_succ h0
  obtain ⟨x2, t2, rfl, h2⟩ := list_succ h1
  obtain ⟨x3, t3, rfl, h3⟩ := list_succ h2
  obtain ⟨x4, t4, rfl, h4⟩ := list_succ h3
  obtain ⟨x5, t5, rfl, h5⟩ := list_succ h4
  obtain ⟨x6, t6, rfl, h6⟩ := list_succ h5
  obtain ⟨x7, t7, rfl, h7⟩ := list_succ h6
  obtain ⟨x8, t8, rfl, h8⟩ := list_succ h7
  obtain ⟨x9, t9, rfl, h9⟩ := list_succ h8
  obtain rfl := list_zero h9
  exact ⟨x0, x1, x2, x3, x4, x5, x6, x7, x8, x9, rfl⟩
theorem list11 {α : Type} {l : List α} (h : l.length = 11) : ∃ x0 x1 x2 x3 x4 x5 x6 x7 x8 x9 x10, l = [x0, x1, x2, x3, x4, x5, x6, x7, x8, x9, x10] := by
  obtain ⟨x, t, rfl, h0⟩ := list_succ h
  obtain ⟨x0, x1, x2, x3, x4, x5, x6, x7, x8, x9, rfl⟩ := list10 h0
  exact ⟨x, x0, x1, x2, x3, x4, x5, x6, x7, x8, x9, rfl⟩
end Go.Proofs.LawFrame
namespace Go.Proofs.Ytinenbgdkchghaa
open Go.Joins Go.ChangeShapes Go.WideShapes Go.RowKit Go.Deep Go.Proofs.LawFrame

theorem cells25 : Try.prog.cellsOf 25 = 5 := by kernel_rfl
theorem cells35 : Try.prog.cellsOf 33 = 6 := by kernel_rfl
theorem cells3 : Try.prog.cellsOf 3 = 1 := by kernel_rfl
theorem cells9 : Try.prog.cellsOf 9 = 1 := by kernel_rfl
theorem cells22 : Try.prog.cellsOf 22 = 1 := by kernel_rfl
theorem cells23 : Try.prog.cellsOf 23 = 1 := by kernel_rfl
instance : Inhabited T := ⟨.mk 0 0 [] [] []⟩
instance : Inhabited VC := ⟨⟨0, 0, [], none, 0, 0, none, 0, 0⟩⟩

theorem list5 {α : Type} {l : List α} (h : l.length = 5) : ∃ x0 x1 x2 x3 x4, l = [x0, x1, x2, x3, x4] := by
  obtain ⟨x0, t0, rfl, h0⟩ := list_succ h
  obtain ⟨x1, t1, rfl, h1⟩ := list_succ h0
  obtain ⟨x2, t2, rfl, h2⟩ := list_succ h1
  obtain ⟨x3, t3, rfl, h3⟩ := list_succ h2
  obtain ⟨x4, t4, rfl, h4⟩ := list_succ h3
  obtain rfl := list_zero h4
  exact ⟨x0, x1, x2, x3, x4, rfl⟩
theorem list6 {α : Type} {l : List α} (h : l.length = 6) : ∃ x0 x1 x2 x3 x4 x5, l = [x0, x1, x2, x3, x4, x5] := by
  obtain ⟨x0, t0, rfl, h0⟩ := list_succ h
  obtain ⟨x1, x2, x3, x4, x5, rfl⟩ := list5 h0
  exact ⟨x0, x1, x2, x3, x4, x5, rfl⟩
theorem str_list (b : ByteArray) : ∃ x : Str, b = ⟨x.toArray⟩ := ⟨b.data.toList, by cases b; simp⟩

section
variable {H : Type} {enc : TypeId × Value → H} {w : World} {held : Bool}
theorem fields_at {base : Nat} {spare : Nat → Bool} {t : TypeId} {fs : Array Field} {fuel : Nat} {cs : List Value} {x : DataW H × List MemPlace} (hs : Try.prog.underlying t = some (.struct fs)) (h : DataW.trod enc Try.prog w base spare held fuel t cs = some x) :
    ∃ n : Nat, fuel = n + 1 ∧ cs.length = Try.prog.cellsOf t ∧ ∀ (i t' o k : Nat) (f : Field), fs[i]? = some f → f.type = t' → f.offset = o → Try.prog.cellsOf t' = k → ∃ y, DataW.trod enc Try.prog w base spare held n t' ((cs.drop o).take k) = some y := by
  obtain ⟨xs, n, hn, _, hl, hlen, hg⟩ := DataW.trod_struct hs h
  refine ⟨n, hn, hl, fun i t' o k f hi ht ho hk => ?_⟩
  subst ht ho hk
  have hlt : i < xs.length := by rw [hlen]; exact (Array.getElem?_eq_some_iff.1 hi).1
  have := hg i f hi
  rw [List.getElem?_eq_getElem hlt] at this
  exact ⟨_, this⟩
/-- a slice, opened element by element -/
theorem slice_at {α : Type} [Inhabited α] {e t : TypeId} {m : Nat} (hm : 0 < m) (cells : α → List Value) (hcl : ∀ a, (cells a).length = m) (hce : Try.prog.cellsOf e = m) (ht : Try.prog.underlying t = some (.slice e)) {fuel : Nat} {v : Value} {y : DataW H × List MemPlace} (h : DataW.trod enc Try.prog w 0 (fun _ => true) held fuel t [v] = some y)
    (P : α → Prop) (hel : ∀ (n : Nat) (cs : List Value) (y : DataW H × List MemPlace), fuel = n + 1 → DataW.trod enc Try.prog w 0 (fun _ => true) held n e cs = some y → ∃ a, cs = cells a ∧ P a) :
    ∃ (ao : Option Addr) (n cap : Nat) (l : List α), v = .slice ao n cap ∧ n = l.length ∧ Flat w (.slice ao n cap) n (l.flatMap cells) ∧ ∀ (i : Nat) (a : α), l[i]? = some a → P a := by
  rcases DataW.trod_slice ht h with ⟨hcs, _⟩ | ⟨a, len, cap, elems, rest, n, hn, hcs, _, _, hl, hmx, hlen, hx, _, _⟩
  · obtain rfl : v = .slice none 0 0 := by simpa using hcs
    exact ⟨none, 0, 0, [], rfl, rfl, Flat.nil _ _ _ (Nat.zero_le _) _, fun i a h => by simp at h⟩
  · obtain rfl : v = .slice (some a) len cap := by simpa using hcs
    rw [hce] at hx
    have hc : ∀ i, i < len → ∃ c : α, P c ∧ ∀ j x, (cells c)[j]? = some x → w.cell? (a.add (i * m + j)) = some x := fun i hi => by
      have h1 := hx i hi
      rw [List.getElem?_eq_getElem (by omega)] at h1
      obtain ⟨cs', h2, h3⟩ := Option.bind_eq_some_iff.1 h1
      obtain ⟨c, rfl, hp⟩ := hel n cs' _ hn h3
      obtain ⟨_, hlen', hat⟩ := World.cells?_some h2
      refine ⟨c, hp, fun j x hj => ?_⟩
      have hj' : j < m := by have := (List.getElem?_eq_some_iff.1 hj).1; rw [hcl] at this; exact this
      rw [← add_add, hat j hj', hj]
    obtain ⟨F, hF⟩ := choose_lt hc
    refine ⟨some a, len, cap, (List.range len).map F, rfl, by simp, ⟨some a, cap, rfl, hl, hmx, fun hpos => ?_⟩, fun i c hi => ?_⟩
    · obtain ⟨x0, hx0⟩ : ∃ x, (cells (F 0))[0]? = some x := ⟨_, List.getElem?_eq_getElem (by rw [hcl]; exact hm)⟩
      have h00 : w.cell? a = some x0 := by
        have := (hF 0 hpos).2 0 _ hx0
        simpa [Addr.add] using this
      have hspot := World.cell?_spot h00
      obtain ⟨b, off, spot⟩ := a
      simp only at hspot
      subst hspot
      refine ⟨b, off, rfl, World.block_lt_of_cell? w _ h00, fun j x hj => ?_⟩
      have hjl := (List.getElem?_eq_some_iff.1 hj).1
      have hfl : (((List.range len).map F).flatMap cells).length = len * m := by
        have : ∀ l : List α, (l.flatMap cells).length = l.length * m := fun l => by
          induction l with
          | nil => simp
          | cons a l ih => rw [List.flatMap_cons, List.length_append, ih, hcl, List.length_cons, Nat.succ_mul]; omega
        rw [this]; simp
      rw [hfl] at hjl
      have hq : j / m < len := (Nat.div_lt_iff_lt_mul hm).2 hjl
      have hr : j % m < m := Nat.mod_lt _ hm
      have e : j = (j / m) * m + j % m := by rw [Nat.mul_comm]; exact (Nat.div_add_mod j m).symm
      have hget := flat_get cells hcl ((List.range len).map F) (j / m) (j % m) (F (j / m)) (by simp [hq]) hr
      rw [← e] at hget
      rw [hget] at hj
      have := (hF (j / m) hq).2 (j % m) x hj
      rw [← e] at this
      rw [Addr.add_lit] at this
      exact this
    · have hil : i < len := by
        have := (List.getElem?_eq_some_iff.1 hi).1
        simpa using this
      obtain rfl : F i = c := by simpa [hil] using hi
      exact (hF i hil).1

theorem value_of : ∀ (N n : Nat), n ≤ N → ∀ (cs : List Value) (y : DataW H × List MemPlace), DataW.trod enc Try.prog w 0 (fun _ => true) held n 25 cs = some y → ∃ (c : VC) (t : T), cs = c.cells ∧ Is w c t := by
  intro N
  induction N with
  | zero =>
    intro n hn cs y h
    obtain ⟨m, hm, -⟩ := fields_at Try.underlying25 h
    omega
  | succ N ih =>
    intro n hn cs y h
    obtain ⟨m, hm, hl, hf⟩ := fields_at Try.underlying25 h
    rw [cells25] at hl
    obtain ⟨x0, x1, x2, x3, x4, rfl⟩ := list5 hl
    obtain ⟨y0, h0⟩ := hf 0 3 0 1 _ rfl rfl rfl cells3
    obtain ⟨y1, h1⟩ := hf 1 3 1 1 _ rfl rfl rfl cells3
    obtain ⟨y2, h2⟩ := hf 2 9 2 1 _ rfl rfl rfl cells9
    obtain ⟨y3, h3⟩ := hf 3 22 3 1 _ rfl rfl rfl cells22
    obtain ⟨y4, h4⟩ := hf 4 23 4 1 _ rfl rfl rfl cells23
    simp only [List.drop_succ_cons, List.drop_zero, List.take_succ_cons, List.take_zero] at h0 h1 h2 h3 h4
    obtain ⟨k, e0, _⟩ := DataW.trod_int Try.underlying3 h0
    obtain ⟨j, e1, _⟩ := DataW.trod_int Try.underlying3 h1
    obtain ⟨s, e2, _⟩ := DataW.trod_string Try.underlying9 h2
    simp only [List.cons.injEq, and_true] at e0 e1 e2
    subst e0 e1 e2
    obtain ⟨s, rfl⟩ := str_list s
    obtain ⟨la, ln, lc, L, rfl, hln, hL1, hL2⟩ := slice_at (α := VC × T) (m := 5) (by omega) (fun p => p.1.cells) (fun _ => rfl) cells25 Try.underlying22 h3 (fun p => Is w p.1 p.2) (fun n' cs' y' hn' h' => by
      obtain ⟨c, t, hc, hi⟩ := ih n' (by omega) cs' y' h'
      exact ⟨(c, t), hc, hi⟩)
    obtain ⟨fa, fn, fc, F, rfl, hfn, hF1, hF2⟩ := slice_at (α := (Str × VC) × T) (m := 6) (by omega) (fun p => FC.cells ⟨p.1.1, p.1.2⟩) (fun _ => rfl) cells35 Try.underlying23 h4 (fun p => Is w p.1.2 p.2) (fun n' cs' y' hn' h' => by
      obtain ⟨m', hm', hl', hf'⟩ := fields_at Try.underlying33 h'
      rw [cells35] at hl'
      obtain ⟨z0, z1, z2, z3, z4, z5, rfl⟩ := list6 hl'
      obtain ⟨u0, g0⟩ := hf' 0 9 0 1 _ rfl rfl rfl cells9
      obtain ⟨u1, g1⟩ := hf' 1 25 1 5 _ rfl rfl rfl cells25
      simp only [List.drop_succ_cons, List.drop_zero, List.take_succ_cons, List.take_zero] at g0 g1
      obtain ⟨nm, e0, _⟩ := DataW.trod_string Try.underlying9 g0
      simp only [List.cons.injEq, and_true] at e0
      subst e0
      obtain ⟨nm, rfl⟩ := str_list nm
      obtain ⟨c, t, hc, hi⟩ := ih m' (by omega) _ u1 g1
      simp only [VC.cells, List.cons.injEq, and_true] at hc
      obtain ⟨rfl, rfl, rfl, rfl, rfl⟩ := hc
      exact ⟨((nm, c), t), rfl, hi⟩)
    refine ⟨⟨k, j, s, la, ln, lc, fa, fn, fc⟩, .mk k j s (L.map (·.2)) (F.map fun p => (p.1.1, p.2)), rfl, ?_⟩
    refine Is.mk (c := ⟨k, j, s, la, ln, lc, fa, fn, fc⟩) (L.map (·.1)) (F.map fun p => ⟨p.1.1, p.1.2⟩) (by simp) ?_ ?_ (by simp) ?_ ?_ ?_
    · rw [List.flatMap_map, List.length_map, ← hln]; exact hL1
    · intro i x t hx ht
      rw [List.getElem?_map] at hx ht
      cases hLi : L[i]? with
      | none => rw [hLi] at hx; simp at hx
      | some p => rw [hLi] at hx ht; simp at hx ht; subst hx ht; exact hL2 i p hLi
    · rw [List.flatMap_map, List.length_map, ← hfn]; exact hF1
    · intro i x p hx hp
      rw [List.getElem?_map] at hx hp
      cases hFi : F[i]? with
      | none => rw [hFi] at hx; simp at hx
      | some q => rw [hFi] at hx hp; simp at hx hp; subst hx hp; rfl
    · intro i x p hx hp
      rw [List.getElem?_map] at hx hp
      cases hFi : F[i]? with
      | none => rw [hFi] at hx; simp at hx
      | some q => rw [hFi] at hx hp; simp at hx hp; subst hx hp; exact hF2 i q hFi
end
set_option maxRecDepth 100000 in
theorem value_arg {H : Type} {enc : TypeId × Value → H} {w : World} {base : Nat} {v : Value} {d : DataW H} {p : List MemPlace} (hv : Value.okWide Try.prog w .any base 25 v) (h : DataW.Trod enc Try.prog w 0 (fun _ => true) true 25 v d p) : ∃ (c : VC) (t : T), v = .agg #[.int .i64 c.k, .int .i64 c.n, sV c.s, .slice c.la c.ln c.lc, .slice c.fa c.fn c.fc] ∧ Is w c t := by
  obtain ⟨cs, rfl, hsz⟩ := okWide_struct Try.underlying25 hv
  obtain ⟨fuel, hf⟩ := h
  obtain ⟨c, t, hc, hi⟩ := value_of fuel fuel (Nat.le_refl _) _ _ hf
  refine ⟨c, t, ?_, hi⟩
  have : cs.toList = c.cells := hc
  rw [← Array.toArray_toList (xs := cs), this]
end Go.Proofs.Ytinenbgdkchghaa
