/- Slices of strings, labels and requirements that came in, opened. -/
import Derived.Test.YtfohhokdcobhjaaDoorProg
import Derived.Test.YtfohhokdcobhjaaDoorPm
import Derived.Test.YtfohhokdcobhjaaDoorOp
import Derived.KernelRfl
namespace Go.Proofs.YtfohhokdcobhjaaDoor
open Go.Joins Go.ChangeShapes Go.WideShapes Go.RowKit Go.Deep Go.Proofs.LawFrame

theorem cells9 : Tryd.prog.cellsOf 9 = 1 := by kernel_rfl
theorem cells3 : Tryd.prog.cellsOf 3 = 1 := by kernel_rfl
theorem cells41 : Tryd.prog.cellsOf 41 = 1 := by kernel_rfl
theorem cells45 : Tryd.prog.cellsOf 45 = 2 := by kernel_rfl
theorem cells43 : Tryd.prog.cellsOf 43 = 3 := by kernel_rfl
theorem list2 {α : Type} {l : List α} (h : l.length = 2) : ∃ a b, l = [a, b] := by
  match l, h with
  | [a, b], _ => exact ⟨a, b, rfl⟩
theorem flat_one (l : List Str) : l.flatMap (fun x => [sV x]) = l.map sV := by
  induction l with
  | nil => rfl
  | cons a l ih => rw [List.flatMap_cons, ih]; rfl
theorem str_list (s : ByteArray) : ∃ x : Str, s = ⟨x.toArray⟩ := ⟨s.data.toList, by simp⟩

section
variable {H : Type} {enc : TypeId × Value → H} {w : World} {base : Nat} {spare : Nat → Bool} {held : Bool}
/-- the common part: a slice whose elements are known one by one -/
theorem flat_of {α : Type} (d : α) (Q : α → Prop) {k : Nat} (hk : 0 < k) (f : α → List Value) (hf : ∀ a, (f a).length = k) {a : Addr} {len cap : Nat} (hl : len ≤ cap) (hm : cap ≤ maxLen)
    (hc : ∀ i, i < len → ∃ x : α, Q x ∧ ∀ j v, (f x)[j]? = some v → w.cell? (a.add (i * k + j)) = some v) : ∃ l : List α, l.length = len ∧ Flat w (.slice (some a) len cap) len (l.flatMap f) ∧ ∀ x ∈ l, Q x := by
  obtain ⟨F, hF⟩ := @choose_lt α ⟨d⟩ _ _ hc
  refine ⟨(List.range len).map F, by simp, ⟨some a, cap, rfl, hl, hm, fun hpos => ?_⟩, fun x hx => by
    obtain ⟨i, hi, rfl⟩ := List.mem_map.1 hx
    exact (hF i (List.mem_range.1 hi)).1⟩
  obtain ⟨v0, hv0⟩ : ∃ v0, (f (F 0))[0]? = some v0 := ⟨_, List.getElem?_eq_getElem (by rw [hf]; exact hk)⟩
  have h00 : w.cell? a = some v0 := by
    have := (hF 0 hpos).2 0 _ hv0
    simpa [Addr.add] using this
  have hspot := World.cell?_spot h00
  obtain ⟨b, off, spot⟩ := a
  simp only at hspot
  subst hspot
  refine ⟨b, off, rfl, World.block_lt_of_cell? w _ h00, fun j v hj => ?_⟩
  have hfl : (((List.range len).map F).flatMap f).length = len * k := by
    have : ∀ (l : List α), (l.flatMap f).length = l.length * k := by
      intro l
      induction l with
      | nil => simp
      | cons x l ih => rw [List.flatMap_cons, List.length_append, ih, hf, List.length_cons, Nat.succ_mul]; omega
    rw [this]; simp
  have hjl : j < len * k := by have := (List.getElem?_eq_some_iff.1 hj).1; omega
  have hjk : j / k < len := by
    rw [Nat.div_lt_iff_lt_mul hk]; exact hjl
  have hmod : j % k < k := Nat.mod_lt _ hk
  have hel : ((List.range len).map F)[j / k]? = some (F (j / k)) := by simp [hjk]
  have he : j = j / k * k + j % k := by rw [Nat.mul_comm]; exact (Nat.div_add_mod j k).symm
  have hx := flat_get f hf ((List.range len).map F) (j / k) (j % k) (F (j / k)) hel hmod
  rw [← he, hj] at hx
  have := (hF (j / k) hjk).2 (j % k) v hx.symm
  rw [← he] at this
  unfold Addr.add at this
  split at this
  · rename_i h0; rw [h0]; exact this
  · exact this

theorem strs_of {n : Nat} {v : Value} {y : DataW H × List MemPlace} (h : DataW.trod enc Tryd.prog w 0 (fun _ => true) held n 41 [v] = some y) : ∃ l, Strs w v l := by
  rcases open_slice Tryd.underlying41 h with ⟨hcs, _⟩ | ⟨a, len, cap, m, n', D, Pl, hcs, _, hl, hm, hmm, _, hx⟩
  · obtain rfl : v = .slice none 0 0 := by simpa using hcs
    exact ⟨[], Flat.nil _ _ _ (Nat.zero_le _) _⟩
  · obtain rfl : v = .slice (some a) len cap := by simpa using hcs
    rw [if_pos rfl] at hmm
    rw [cells9] at hx
    have hc : ∀ i, i < len → ∃ x : Str, True ∧ ∀ j u, ([sV x] : List Value)[j]? = some u → w.cell? (a.add (i * 1 + j)) = some u := fun i hi => by
      obtain ⟨cs', h1, h2⟩ := hx i (by omega)
      obtain ⟨s, e, _⟩ := DataW.trod_string Tryd.underlying9 h2
      obtain ⟨x, rfl⟩ := str_list s
      subst e
      obtain ⟨_, hlen, hat⟩ := World.cells?_some h1
      refine ⟨x, trivial, fun j u hj => ?_⟩
      have hj' : j < 1 := (List.getElem?_eq_some_iff.1 hj).1
      rw [← add_add, hat j hj']
      exact hj
    obtain ⟨l, h1, h2, -⟩ := flat_of ([] : Str) (fun _ => True) (k := 1) (by decide) (fun x => [sV x]) (fun _ => rfl) hl hm hc
    subst h1
    refine ⟨l, ?_⟩
    rw [flat_one] at h2
    exact h2
theorem labs_of {n : Nat} {v : Value} {y : DataW H × List MemPlace} (h : DataW.trod enc Tryd.prog w 0 (fun _ => true) held n 22 [v] = some y) : ∃ l, Labs w v l := by
  rcases open_slice Tryd.underlying22 h with ⟨hcs, _⟩ | ⟨a, len, cap, m, n', D, Pl, hcs, _, hl, hm, hmm, _, hx⟩
  · obtain rfl : v = .slice none 0 0 := by simpa using hcs
    exact ⟨[], Flat.nil _ _ _ (Nat.zero_le _) _⟩
  · obtain rfl : v = .slice (some a) len cap := by simpa using hcs
    rw [if_pos rfl] at hmm
    rw [cells45] at hx
    have hc : ∀ i, i < len → ∃ x : Lab, True ∧ ∀ j u, (labC x)[j]? = some u → w.cell? (a.add (i * 2 + j)) = some u := fun i hi => by
      obtain ⟨cs', h1, h2⟩ := hx i (by omega)
      obtain ⟨m', hlen', hf⟩ := struct_fields Tryd.underlying45 h2
      rw [cells45] at hlen'
      obtain ⟨x0, x1, rfl⟩ := list2 hlen'
      obtain ⟨y0, h0⟩ := hf 0 9 0 1 _ rfl rfl rfl cells9
      obtain ⟨y1, h1'⟩ := hf 1 9 1 1 _ rfl rfl rfl cells9
      simp only [List.drop_succ_cons, List.drop_zero, List.take_succ_cons, List.take_zero] at h0 h1'
      obtain ⟨s0, e0, _⟩ := DataW.trod_string Tryd.underlying9 h0
      obtain ⟨s1, e1, _⟩ := DataW.trod_string Tryd.underlying9 h1'
      obtain ⟨z0, rfl⟩ := str_list s0
      obtain ⟨z1, rfl⟩ := str_list s1
      simp only [List.cons.injEq, and_true] at e0 e1
      subst e0 e1
      obtain ⟨_, hlen, hat⟩ := World.cells?_some h1
      refine ⟨(z0, z1), trivial, fun j u hj => ?_⟩
      have hj' : j < 2 := (List.getElem?_eq_some_iff.1 hj).1
      rw [← add_add, hat j hj']
      exact hj
    obtain ⟨l, h1, h2, -⟩ := flat_of (([], []) : Lab) (fun _ => True) (k := 2) (by decide) labC (fun _ => rfl) hl hm hc
    subst h1
    exact ⟨l, h2⟩
theorem reqs_of {n : Nat} {v : Value} {y : DataW H × List MemPlace} (h : DataW.trod enc Tryd.prog w 0 (fun _ => true) held n 23 [v] = some y) : ∃ l, Reqs w v l := by
  rcases open_slice Tryd.underlying23 h with ⟨hcs, _⟩ | ⟨a, len, cap, m, n', D, Pl, hcs, _, hl, hm, hmm, _, hx⟩
  · obtain rfl : v = .slice none 0 0 := by simpa using hcs
    exact ⟨[], [], rfl, Flat.nil _ _ _ (Nat.zero_le _) _, fun k c r h => by simp at h⟩
  · obtain rfl : v = .slice (some a) len cap := by simpa using hcs
    rw [if_pos rfl] at hmm
    rw [cells43] at hx
    have hc : ∀ i, i < len → ∃ x : RC × Req, RIs w x.1 x.2 ∧ ∀ j u, (x.1.cells)[j]? = some u → w.cell? (a.add (i * 3 + j)) = some u := fun i hi => by
      obtain ⟨cs', h1, h2⟩ := hx i (by omega)
      obtain ⟨m', hlen', hf⟩ := struct_fields Tryd.underlying43 h2
      rw [cells43] at hlen'
      obtain ⟨x0, x1, x2, rfl⟩ := list3 hlen'
      obtain ⟨y0, h0⟩ := hf 0 9 0 1 _ rfl rfl rfl cells9
      obtain ⟨y1, h1'⟩ := hf 1 3 1 1 _ rfl rfl rfl cells3
      obtain ⟨y2, h2'⟩ := hf 2 41 2 1 _ rfl rfl rfl cells41
      simp only [List.drop_succ_cons, List.drop_zero, List.take_succ_cons, List.take_zero] at h0 h1' h2'
      obtain ⟨s0, e0, _⟩ := DataW.trod_string Tryd.underlying9 h0
      obtain ⟨r1, e1, _⟩ := DataW.trod_int Tryd.underlying3 h1'
      obtain ⟨vs, hvs⟩ := strs_of h2'
      obtain ⟨z0, rfl⟩ := str_list s0
      obtain ⟨a8, n8, c8, e8⟩ := slice_form Tryd.underlying41 h2'
      simp only [List.cons.injEq, and_true] at e0 e1 e8
      subst e0 e1 e8
      obtain ⟨_, hlen, hat⟩ := World.cells?_some h1
      refine ⟨(⟨z0, r1, a8, n8, c8⟩, ⟨z0, r1, vs⟩), ⟨rfl, rfl, hvs⟩, fun j u hj => ?_⟩
      have hj' : j < 3 := (List.getElem?_eq_some_iff.1 hj).1
      rw [← add_add, hat j hj']
      exact hj
    obtain ⟨l0, h1, h2, h3⟩ := flat_of ((⟨[], 0, none, 0, 0⟩, ⟨[], 0, []⟩) : RC × Req) (fun x => RIs w x.1 x.2) (k := 3) (by decide) (fun x => x.1.cells) (fun _ => rfl) hl hm hc
    subst h1
    refine ⟨l0.map (·.2), l0.map (·.1), by simp, ?_, fun k c r hc' hr' => ?_⟩
    · rw [List.length_map]
      have e : l0.flatMap (fun x => x.1.cells) = (l0.map (·.1)).flatMap RC.cells := by rw [List.flatMap_map]
      rw [← e]; exact h2
    · rw [List.getElem?_map] at hc' hr'
      cases hk : l0[k]? with
      | none => rw [hk] at hc'; cases hc'
      | some x =>
        rw [hk] at hc' hr'
        cases hc'; cases hr'
        exact h3 x (List.mem_of_getElem? hk)
end
end Go.Proofs.YtfohhokdcobhjaaDoor
