/- OF NO PROGRAM: a struct that came in by value, opened field by field, whatever its fields. A value that came in, opened: a tree. Lists of steps that came in, opened. -/
import Derived.Deep.Slices
import Derived.Deep.Fields
import Derived.Lib.SmallJoins
import Derived.ChangeSame
import Derived.Test.YtjpmnlefjmdelaaDoorProg
import Derived.Test.YtjpmnlefjmdelaaDoorPmJ
import Derived.KernelRfl
import Derived.Test.YtjpmnlefjmdelaaDoorXcJ
set_option linter.unusedSimpArgs false
set_option linter.unusedVariables false
namespace Go.Proofs.LawFrame
open Go.Joins Go.ChangeShapes Go.WideShapes Go.RowKit Go.Deep

section
variable {H : Type} {enc : TypeId × Value → H} {P : Program} {w : World} {base : Nat} {spare : Nat → Bool} {held : Bool}
end
theorem list_succ {α : Type} {l : List α} {n : Nat} (h : l.length = n + 1) : ∃ x t, l = x :: t ∧ t.length = n := by
  cases l with
  | nil => cases h
  | cons x t => exact ⟨x, t, rfl, by simpa using h⟩
theorem list_zero {α : Type} {l : List α} (h : l.length = 0) : l = [] := by simpa using h
theorem list3 {α : Type} {l : List α} (h : l.length = 3) : ∃ x0 x1 x2, l = [x0, x1, x2] := by
  obtain ⟨x0, t0, rfl, h0⟩ := list_succ h
  obtain ⟨x1, t1, rfl, h1⟩ := list_succ h0
  obtain ⟨x2, t2, rfl, h2⟩ := list_succ h1
  obtain rfl := list_zero h2
  exact ⟨x0, x1, x2, rfl⟩
end Go.Proofs.LawFrame
namespace Go.Proofs.YtjpmnlefjmdelaaDoor
open Go.Joins Go.ChangeShapes Go.WideShapes Go.RowKit Go.Deep Go.Proofs.LawFrame

theorem cells3 : Tryd.prog.cellsOf 3 = 1 := by kernel_rfl
theorem cells9 : Tryd.prog.cellsOf 9 = 1 := by kernel_rfl
instance : Inhabited T := ⟨.mk 0 0 [] [] []⟩
instance : Inhabited VC := ⟨⟨0, 0, [], none, 0, 0, none, 0, 0⟩⟩

theorem str_list (b : ByteArray) : ∃ x : Str, b = ⟨x.toArray⟩ := ⟨b.data.toList, by cases b; simp⟩

section
variable {H : Type} {enc : TypeId × Value → H} {w : World} {held : Bool}
theorem fields_at {base : Nat} {spare : Nat → Bool} {t : TypeId} {fs : Array Field} {fuel : Nat} {cs : List Value} {x : DataW H × List MemPlace} (hs : Tryd.prog.underlying t = some (.struct fs)) (h : DataW.trod enc Tryd.prog w base spare held fuel t cs = some x) :
    ∃ n : Nat, fuel = n + 1 ∧ cs.length = Tryd.prog.cellsOf t ∧ ∀ (i t' o k : Nat) (f : Field), fs[i]? = some f → f.type = t' → f.offset = o → Tryd.prog.cellsOf t' = k → ∃ y, DataW.trod enc Tryd.prog w base spare held n t' ((cs.drop o).take k) = some y := by
  obtain ⟨xs, n, hn, _, hl, hlen, hg⟩ := DataW.trod_struct hs h
  refine ⟨n, hn, hl, fun i t' o k f hi ht ho hk => ?_⟩
  subst ht ho hk
  have hlt : i < xs.length := by rw [hlen]; exact (Array.getElem?_eq_some_iff.1 hi).1
  have := hg i f hi
  rw [List.getElem?_eq_getElem hlt] at this
  exact ⟨_, this⟩
/-- a slice, opened element by element -/
theorem slice_at {α : Type} [Inhabited α] {e t : TypeId} {m : Nat} (hm : 0 < m) (cells : α → List Value) (hcl : ∀ a, (cells a).length = m) (hce : Tryd.prog.cellsOf e = m) (ht : Tryd.prog.underlying t = some (.slice e)) {fuel : Nat} {v : Value} {y : DataW H × List MemPlace} (h : DataW.trod enc Tryd.prog w 0 (fun _ => true) held fuel t [v] = some y)
    (P : α → Prop) (hel : ∀ (n : Nat) (cs : List Value) (y : DataW H × List MemPlace), fuel = n + 1 → DataW.trod enc Tryd.prog w 0 (fun _ => true) held n e cs = some y → ∃ a, cs = cells a ∧ P a) :
    ∃ (ao : Option Addr) (n cap : Nat) (l : List α), v = .slice ao n cap ∧ n = l.length ∧ Flat w (.slice ao n cap) n (l.flatMap cells) ∧ ∀ (i : Nat) (a : α), l[i]? = some a → P a := by
  rcases DataW.trod_slice ht h with ⟨hcs, _⟩ | ⟨a, len, cap, elems, rest, n, hn, hcs, _, _, hl, hmx, hlen, hx, _, _⟩
  · obtain rfl : v = .slice none 0 0 := by simpa using hcs
    exact ⟨none, 0, 0, [], rfl, rfl, Flat.nil _ _ _ (Nat.zero_le _) _, fun i a h => by simp at h⟩
  · obtain rfl : v = .slice (some a) len cap := by simpa using hcs
    rw [hce] at hx
    have hc : ∀ i, i < len → ∃ c : α, P c ∧ ∀ j x, (cells c)[j]? = some x → w.cell? (a.add (i * m + j)) = some x := fun i hi => by
      have h1 := hx i hi
      rw [List.getElem?_eq_getElem (by omega)] at h1
      obtain ⟨cs', h2, h3⟩ := Option.bind_eq_some_iff.1 h1
      obtain ⟨c, rfl, hp⟩ := hel n cs' _ hn h3
      obtain ⟨_, hlen', hat⟩ := World.cells?_some h2
      refine ⟨c, hp, fun j x hj => ?_⟩
      have hj' : j < m := by have := (List.getElem?_eq_some_iff.1 hj).1; rw [hcl] at this; exact this
      rw [← add_add, hat j hj', hj]
    obtain ⟨F, hF⟩ := choose_lt hc
    refine ⟨some a, len, cap, (List.range len).map F, rfl, by simp, ⟨some a, cap, rfl, hl, hmx, fun hpos => ?_⟩, fun i c hi => ?_⟩
    · obtain ⟨x0, hx0⟩ : ∃ x, (cells (F 0))[0]? = some x := ⟨_, List.getElem?_eq_getElem (by rw [hcl]; exact hm)⟩
      have h00 : w.cell? a = some x0 := by
        have := (hF 0 hpos).2 0 _ hx0
        simpa [Addr.add] using this
      have hspot := World.cell?_spot h00
      obtain ⟨b, off, spot⟩ := a
      simp only at hspot
      subst hspot
      refine ⟨b, off, rfl, World.block_lt_of_cell? w _ h00, fun j x hj => ?_⟩
      have hjl := (List.getElem?_eq_some_iff.1 hj).1
      have hfl : (((List.range len).map F).flatMap cells).length = len * m := by
        have : ∀ l : List α, (l.flatMap cells).length = l.length * m := fun l => by
          induction l with
          | nil => simp
          | cons a l ih => rw [List.flatMap_cons, List.length_append, ih, hcl, List.length_cons, Nat.succ_mul]; omega
        rw [this]; simp
      rw [hfl] at hjl
      have hq : j / m < len := (Nat.div_lt_iff_lt_mul hm).2 hjl
      have hr : j % m < m := Nat.mod_lt _ hm
      have e : j = (j / m) * m + j % m := by rw [Nat.mul_comm]; exact (Nat.div_add_mod j m).symm
      have hget := flat_get cells hcl ((List.range len).map F) (j / m) (j % m) (F (j / m)) (by simp [hq]) hr
      rw [← e] at hget
      rw [hget] at hj
      have := (hF (j / m) hq).2 (j % m) x hj
      rw [← e] at this
      rw [Addr.add_lit] at this
      exact this
    · have hil : i < len := by
        have := (List.getElem?_eq_some_iff.1 hi).1
        simpa using this
      obtain rfl : F i = c := by simpa [hil] using hi
      exact (hF i hil).1

end
end Go.Proofs.YtjpmnlefjmdelaaDoor
namespace Go.Proofs.YtjpmnlefjmdelaaDoor
open Go.Joins Go.ChangeShapes Go.WideShapes Go.RowKit Go.Deep Go.Proofs.LawFrame
instance : Inhabited S := ⟨S0⟩
theorem cells52 : Tryd.prog.cellsOf 54 = 4 := by kernel_rfl
section
variable {H : Type} {enc : TypeId × Value → H} {w : World} {held : Bool}
theorem list4 {α : Type} {l : List α} (h : l.length = 4) : ∃ x0 x1 x2 x3, l = [x0, x1, x2, x3] := by
  obtain ⟨x0, t0, rfl, h0⟩ := list_succ h
  obtain ⟨x1, x2, x3, rfl⟩ := list3 h0
  exact ⟨x0, x1, x2, x3, rfl⟩
theorem steps_of {fuel : Nat} {v : Value} {y : DataW H × List MemPlace} (h : DataW.trod enc Tryd.prog w 0 (fun _ => true) held fuel 31 [v] = some y) : ∃ l : List S, Stps w v l := by
  obtain ⟨la, ln, lc, L, rfl, hln, hL1, hL2⟩ := slice_at (α := S) (m := 4) (by omega) (fun p => p.cells) (fun _ => rfl) cells52 Tryd.underlying31 h (fun _ => True) (fun n' cs' y' hn' h' => by
    obtain ⟨m', hm', hl', hf'⟩ := fields_at Tryd.underlying54 h'
    rw [cells52] at hl'
    obtain ⟨z0, z1, z2, z3, rfl⟩ := list4 hl'
    obtain ⟨u0, g0⟩ := hf' 0 3 0 1 _ rfl rfl rfl cells3
    obtain ⟨u1, g1⟩ := hf' 1 9 1 1 _ rfl rfl rfl cells9
    obtain ⟨u2, g2⟩ := hf' 2 3 2 1 _ rfl rfl rfl cells3
    obtain ⟨u3, g3⟩ := hf' 3 9 3 1 _ rfl rfl rfl cells9
    simp only [List.drop_succ_cons, List.drop_zero, List.take_succ_cons, List.take_zero] at g0 g1 g2 g3
    obtain ⟨k, e0, _⟩ := DataW.trod_int Tryd.underlying3 g0
    obtain ⟨nm, e1, _⟩ := DataW.trod_string Tryd.underlying9 g1
    obtain ⟨ix, e2, _⟩ := DataW.trod_int Tryd.underlying3 g2
    obtain ⟨vl, e3, _⟩ := DataW.trod_string Tryd.underlying9 g3
    simp only [List.cons.injEq, and_true] at e0 e1 e2 e3
    subst e0 e1 e2 e3
    obtain ⟨nm, rfl⟩ := str_list nm
    obtain ⟨vl, rfl⟩ := str_list vl
    exact ⟨⟨k, nm, ix, vl⟩, rfl, trivial⟩)
  subst hln
  exact ⟨L, hL1⟩
end
set_option maxRecDepth 100000 in
theorem steps_arg {H : Type} {enc : TypeId × Value → H} {w : World} {base : Nat} {v : Value} {d : DataW H} {p : List MemPlace} (hv : Value.okWide Tryd.prog w .any base 31 v) (h : DataW.Trod enc Tryd.prog w 0 (fun _ => true) true 31 v d p) : ∃ l : List S, Stps w v l := by
  obtain ⟨qa, qn, qc, rfl⟩ := okWide_slice Tryd.underlying31 hv
  obtain ⟨fu, hu⟩ := h
  exact steps_of (show DataW.trod enc Tryd.prog w 0 (fun _ => true) true fu 31 [.slice qa qn qc] = _ from hu)
end Go.Proofs.YtjpmnlefjmdelaaDoor
