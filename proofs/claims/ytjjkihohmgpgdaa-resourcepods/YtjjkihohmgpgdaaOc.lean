/- A slice of containers that came in, opened: each container's eleven cells. -/
import Derived.Test.YtjjkihohmgpgdaaProg
import Derived.Test.YtjjkihohmgpgdaaPc
import Derived.Test.YtjjkihohmgpgdaaOp
import Derived.KernelRfl
namespace Go.Proofs.Ytjjkihohmgpgdaa
open Go.Joins Go.ChangeShapes Go.WideShapes Go.RowKit Go.Deep Go.Proofs.LawFrame

theorem cells23 : Try.prog.cellsOf 23 = 3 := by kernel_rfl
theorem cells40 : Try.prog.cellsOf 40 = 11 := by kernel_rfl
theorem cells34 : Try.prog.cellsOf 34 = 10 := by kernel_rfl
theorem cells3 : Try.prog.cellsOf 3 = 1 := by kernel_rfl
theorem cells9 : Try.prog.cellsOf 9 = 1 := by kernel_rfl
theorem cells27 : Try.prog.cellsOf 27 = 1 := by kernel_rfl
theorem cells38 : Try.prog.cellsOf 38 = 1 := by kernel_rfl

section
variable {H : Type} {enc : TypeId × Value → H} {w : World} {base : Nat} {spare : Nat → Bool} {held : Bool}
theorem amounts_of {n : Nat} {x0 x1 x2 : Value} {y : DataW H × List MemPlace} (h : DataW.trod enc Try.prog w base spare held n 23 [x0, x1, x2] = some y) : ∃ r0 r1 r2 : Int, x0 = .int .i64 r0 ∧ x1 = .int .i64 r1 ∧ x2 = .int .i64 r2 := by
  obtain ⟨m, _, hf⟩ := struct_fields Try.underlying23 h
  obtain ⟨y0, h0⟩ := hf 0 3 0 1 _ rfl rfl rfl cells3
  obtain ⟨y1, h1⟩ := hf 1 3 1 1 _ rfl rfl rfl cells3
  obtain ⟨y2, h2⟩ := hf 2 3 2 1 _ rfl rfl rfl cells3
  obtain ⟨r0, e0, _⟩ := DataW.trod_int Try.underlying3 h0
  obtain ⟨r1, e1, _⟩ := DataW.trod_int Try.underlying3 h1
  obtain ⟨r2, e2, _⟩ := DataW.trod_int Try.underlying3 h2
  simp at e0 e1 e2
  exact ⟨r0, r1, r2, e0, e1, e2⟩
theorem container_of {n : Nat} {cs : List Value} {y : DataW H × List MemPlace} (h : DataW.trod enc Try.prog w base spare held n 40 cs = some y) : ∃ c : CV, cs = c.cells := by
  obtain ⟨m, hl, hf⟩ := struct_fields Try.underlying40 h
  rw [cells40] at hl
  obtain ⟨x0, x1, x2, x3, x4, x5, x6, x7, x8, x9, x10, rfl⟩ := list11 hl
  obtain ⟨y0, h0⟩ := hf 0 9 0 1 _ rfl rfl rfl cells9
  obtain ⟨y1, h1⟩ := hf 1 9 1 1 _ rfl rfl rfl cells9
  obtain ⟨y2, h2⟩ := hf 2 23 2 3 _ rfl rfl rfl cells23
  obtain ⟨y3, h3⟩ := hf 3 23 5 3 _ rfl rfl rfl cells23
  obtain ⟨y4, h4⟩ := hf 4 38 8 1 _ rfl rfl rfl cells38
  obtain ⟨y5, h5⟩ := hf 5 38 9 1 _ rfl rfl rfl cells38
  obtain ⟨y6, h6⟩ := hf 6 38 10 1 _ rfl rfl rfl cells38
  simp only [List.drop_succ_cons, List.drop_zero, List.take_succ_cons, List.take_zero] at h0 h1 h2 h3 h4 h5 h6
  obtain ⟨s0, e0, _⟩ := DataW.trod_string Try.underlying9 h0
  obtain ⟨s1, e1, _⟩ := DataW.trod_string Try.underlying9 h1
  obtain ⟨r0, r1, r2, rfl, rfl, rfl⟩ := amounts_of h2
  obtain ⟨l0, l1, l2, rfl, rfl, rfl⟩ := amounts_of h3
  obtain ⟨a8, n8, c8, e8⟩ := slice_form Try.underlying38 h4
  obtain ⟨a9, n9, c9, e9⟩ := slice_form Try.underlying38 h5
  obtain ⟨a10, n10, c10, e10⟩ := slice_form Try.underlying38 h6
  simp only [List.cons.injEq, and_true] at e0 e1 e8 e9 e10
  subst e0 e1 e8 e9 e10
  exact ⟨⟨s0, s1, r0, r1, r2, l0, l1, l2, a8, n8, c8, a9, n9, c9, a10, n10, c10⟩, rfl⟩
theorem conts_of {n : Nat} {v : Value} {y : DataW H × List MemPlace} (h : DataW.trod enc Try.prog w 0 (fun _ => true) held n 27 [v] = some y) : ∃ l, Conts w v l := by
  rcases open_slice Try.underlying27 h with ⟨hcs, _⟩ | ⟨a, len, cap, m, n', D, Pl, hcs, _, hl, hm, hmm, _, hx⟩
  · obtain rfl : v = .slice none 0 0 := by simpa using hcs
    exact ⟨[], none, 0, rfl, Nat.le_refl _, Nat.zero_le _, fun h => absurd rfl h⟩
  · obtain rfl : v = .slice (some a) len cap := by simpa using hcs
    rw [if_pos rfl] at hmm
    rw [cells40] at hx
    have hc : ∀ i, i < len → ∃ c : CV, ∀ j x, c.cells[j]? = some x → w.cell? (a.add (i * 11 + j)) = some x := fun i hi => by
      obtain ⟨cs', h1, h2⟩ := hx i (by omega)
      obtain ⟨c, rfl⟩ := container_of h2
      obtain ⟨_, hlen, hat⟩ := World.cells?_some h1
      refine ⟨c, fun j x hj => ?_⟩
      have hj' : j < 11 := (List.getElem?_eq_some_iff.1 hj).1
      rw [← add_add, hat j hj', hj]
    obtain ⟨F, hF⟩ := @choose_lt CV ⟨⟨{ data := #[] }, { data := #[] }, 0, 0, 0, 0, 0, 0, none, 0, 0, none, 0, 0, none, 0, 0⟩⟩ _ _ hc
    refine ⟨(List.range len).map F, some a, cap, by simp, by simpa using hl, hm, fun hne => ?_⟩
    have hpos : 0 < len := by
      rcases Nat.eq_zero_or_pos len with h0 | h0
      · rw [h0] at hne; simp at hne
      · exact h0
    have h00 : w.cell? a = some (.string (F 0).x0) := by
      have := hF 0 hpos 0 _ rfl
      simpa [Addr.add] using this
    have hspot := World.cell?_spot h00
    obtain ⟨b, off, spot⟩ := a
    simp only at hspot
    subst hspot
    refine ⟨b, off, rfl, World.block_lt_of_cell? w _ h00, fun i c hi j x hj => ?_⟩
    have hil : i < len := by
      have := (List.getElem?_eq_some_iff.1 hi).1
      simpa using this
    obtain rfl : F i = c := by simpa [hil] using hi
    have := hF i hil j x hj
    unfold Addr.add at this
    split at this
    · rename_i h0; rw [h0]; exact this
    · exact this
end
end Go.Proofs.Ytjjkihohmgpgdaa
