/- The law's own examples hold. -/
import Derived.Test.YtjjkihohmgpgdaaWc
import Derived.Test.YtjjkihohmgpgdaaWd
namespace Go.Proofs.Ytjjkihohmgpgdaa
open Go.RowKit Go.Sort Go.Proofs.LawFrame

theorem flat_at (l : List CV) : ∀ (i : Nat) (c : CV), l[i]? = some c → ∀ (j : Nat) (x : Value), c.cells[j]? = some x → (l.flatMap CV.cells)[i * 11 + j]? = some x := by
  induction l with
  | nil => intro i c h; simp at h
  | cons d l ih =>
    intro i c h j x hx
    rw [List.flatMap_cons]
    cases i with
    | zero =>
      obtain rfl : d = c := by simpa using h
      have hj : j < d.cells.length := (List.getElem?_eq_some_iff.1 hx).1
      rw [List.getElem?_append_left (by omega), show 0 * 11 + j = j by omega]
      exact hx
    | succ i =>
      have hl : d.cells.length = 11 := rfl
      rw [List.getElem?_append_right (by omega), hl, show (i + 1) * 11 + j - 11 = i * 11 + j by omega]
      exact ih i c (by simpa using h) j x hx
theorem conts_own {w : World} {b : Nat} {l : List CV} {t : TypeId} (h : Own w b (l.flatMap CV.cells) t) (hm : l.length ≤ maxLen) : Conts w (.slice (some ⟨b, 0, none⟩) l.length l.length) l :=
  ⟨_, _, rfl, Nat.le_refl _, hm, fun _ => ⟨b, 0, rfl, h.lt, fun i c hi j x hx => by rw [Nat.zero_add]; exact h.cell (flat_at l i c hi j x hx)⟩⟩

def cvA : CV := ⟨{ data := #[] }, { data := #[] }, 1, 2, 3, 4, 1, 1000000000000000, none, 0, 0, none, 0, 0, none, 0, 0⟩
def cvB : CV := ⟨{ data := #[] }, { data := #[] }, 4, 1, 1000000000000000, 4, 1, 1000000000000000, none, 0, 0, none, 0, 0, none, 0, 0⟩

theorem live_add (w : World) : Calls Try.prog 9 #[.agg #[.int .i64 1, .int .i64 2, .int .i64 3], .agg #[.int .i64 4, .int .i64 1, .int .i64 1000000000000000]] w fun e w' => e = .returned (.agg #[.int .i64 5, .int .i64 3, .int .i64 1000000000000000]) ∧ Below w.heap.size w w' := by
  have h := add_any 1 2 3 4 1 1000000000000000 w
  rw [show addZ 1 4 = 5 from by decide, show addZ 2 1 = 3 from by decide, show addZ 3 1000000000000000 = 1000000000000000 from by decide] at h
  exact h
theorem live_sub (w : World) : Calls Try.prog 11 #[.agg #[.int .i64 1, .int .i64 2, .int .i64 3], .agg #[.int .i64 4, .int .i64 1, .int .i64 1000000000000000]] w fun e w' => e = .returned (.agg #[.int .i64 0, .int .i64 1, .int .i64 0]) ∧ Below w.heap.size w w' := by
  have h := sub_any 1 2 3 4 1 1000000000000000 w
  rw [show subZ 1 4 = 0 from by decide, show subZ 2 1 = 1 from by decide, show subZ 3 1000000000000000 = 0 from by decide] at h
  exact h
theorem live_fit (w : World) : Calls Try.prog 13 #[.agg #[.int .i64 1, .int .i64 2, .int .i64 3], .agg #[.int .i64 5, .int .i64 3, .int .i64 1000000000000000]] w fun e w' => e = .returned (.bool true) ∧ Below w.heap.size w w' := by
  have h := fits_any 1 2 3 5 3 1000000000000000 w
  rw [show fitsZ 1 2 3 5 3 1000000000000000 = true from by decide] at h
  exact h
theorem live_not (w : World) : Calls Try.prog 13 #[.agg #[.int .i64 4, .int .i64 1, .int .i64 1000000000000000], .agg #[.int .i64 1, .int .i64 2, .int .i64 3]] w fun e w' => e = .returned (.bool false) ∧ Below w.heap.size w w' := by
  have h := fits_any 4 1 1000000000000000 1 2 3 w
  rw [show fitsZ 4 1 1000000000000000 1 2 3 = false from by decide] at h
  exact h
theorem live_req (w : World) (cv : Value) (hc : Conts w cv [cvA, cvB]) : Calls Try.prog 15 #[.agg #[.string { data := #[] }, .int .i64 0, .int .i64 0, .int .i64 0, cv, .slice none 0 0, .slice none 0 0, .slice none 0 0, .slice none 0 0, .slice none 0 0]] w fun e w' => e = .returned (.agg #[.int .i64 5, .int .i64 3, .int .i64 1000000000000000]) ∧ Below w.heap.size w w' := by
  have h := requests_any (.string { data := #[] }) (.int .i64 0) (.int .i64 0) (.int .i64 0) (.slice none 0 0) (.slice none 0 0) (.slice none 0 0) (.slice none 0 0) (.slice none 0 0) cv [cvA, cvB] w hc
  rw [show sumC CV.r0 [cvA, cvB] = 5 from by decide, show sumC CV.r1 [cvA, cvB] = 3 from by decide, show sumC CV.r2 [cvA, cvB] = 1000000000000000 from by decide] at h
  exact h
theorem live_lim (w : World) (cv : Value) (hc : Conts w cv [cvA, cvB]) : Calls Try.prog 17 #[.agg #[.string { data := #[] }, .int .i64 0, .int .i64 0, .int .i64 0, cv, .slice none 0 0, .slice none 0 0, .slice none 0 0, .slice none 0 0, .slice none 0 0]] w fun e w' => e = .returned (.agg #[.int .i64 8, .int .i64 2, .int .i64 1000000000000000]) ∧ Below w.heap.size w w' := by
  have h := limits_any (.string { data := #[] }) (.int .i64 0) (.int .i64 0) (.int .i64 0) (.slice none 0 0) (.slice none 0 0) (.slice none 0 0) (.slice none 0 0) (.slice none 0 0) cv [cvA, cvB] w hc
  rw [show sumC CV.l0 [cvA, cvB] = 8 from by decide, show sumC CV.l1 [cvA, cvB] = 2 from by decide, show sumC CV.l2 [cvA, cvB] = 1000000000000000 from by decide] at h
  exact h

set_option maxRecDepth 100000 in
set_option maxHeartbeats 1000000 in
theorem lives_any (w : World) :
    Calls Try.prog 8 #[] w fun e w' => e = .returned (.bool true) ∧ Below w.heap.size w w' := by
  go_enter Try.func8, Try.ntmps8
  go_wp2
  have hw0 : Below w.heap.size w ((((w.alloc (.cells #[.int .i64 1, .int .i64 2, .int .i64 3] 23)).alloc (.cells #[.int .i64 4, .int .i64 1, .int .i64 1000000000000000] 23)).alloc (.cells #[.string { data := #[] }, .string { data := #[] }, .int .i64 1, .int .i64 2, .int .i64 3, .int .i64 4, .int .i64 1, .int .i64 1000000000000000, .slice none 0 0, .slice none 0 0, .slice none 0 0, .string { data := #[] }, .string { data := #[] }, .int .i64 4, .int .i64 1, .int .i64 1000000000000000, .int .i64 4, .int .i64 1, .int .i64 1000000000000000, .slice none 0 0, .slice none 0 0, .slice none 0 0] 40)).alloc (.cells #[.string { data := #[] }, .int .i64 0, .int .i64 0, .int .i64 0, .slice (some { block := w.heap.size + 1 + 1, off := 0 }) 2 2, .slice none 0 0, .slice none 0 0, .slice none 0 0, .slice none 0 0, .slice none 0 0] 34)) := ((((Below.refl _ _).alloc (Nat.le_refl _) _).alloc (by simp) _).alloc (by simp; omega) _).alloc (by simp; omega) _
  have oA : Own ((((w.alloc (.cells #[.int .i64 1, .int .i64 2, .int .i64 3] 23)).alloc (.cells #[.int .i64 4, .int .i64 1, .int .i64 1000000000000000] 23)).alloc (.cells #[.string { data := #[] }, .string { data := #[] }, .int .i64 1, .int .i64 2, .int .i64 3, .int .i64 4, .int .i64 1, .int .i64 1000000000000000, .slice none 0 0, .slice none 0 0, .slice none 0 0, .string { data := #[] }, .string { data := #[] }, .int .i64 4, .int .i64 1, .int .i64 1000000000000000, .int .i64 4, .int .i64 1, .int .i64 1000000000000000, .slice none 0 0, .slice none 0 0, .slice none 0 0] 40)).alloc (.cells #[.string { data := #[] }, .int .i64 0, .int .i64 0, .int .i64 0, .slice (some { block := w.heap.size + 1 + 1, off := 0 }) 2 2, .slice none 0 0, .slice none 0 0, .slice none 0 0, .slice none 0 0, .slice none 0 0] 34)) w.heap.size [.int .i64 1, .int .i64 2, .int .i64 3] 23 := (((Own.new _ _ _).alloc _).alloc _).alloc _
  have oB : Own ((((w.alloc (.cells #[.int .i64 1, .int .i64 2, .int .i64 3] 23)).alloc (.cells #[.int .i64 4, .int .i64 1, .int .i64 1000000000000000] 23)).alloc (.cells #[.string { data := #[] }, .string { data := #[] }, .int .i64 1, .int .i64 2, .int .i64 3, .int .i64 4, .int .i64 1, .int .i64 1000000000000000, .slice none 0 0, .slice none 0 0, .slice none 0 0, .string { data := #[] }, .string { data := #[] }, .int .i64 4, .int .i64 1, .int .i64 1000000000000000, .int .i64 4, .int .i64 1, .int .i64 1000000000000000, .slice none 0 0, .slice none 0 0, .slice none 0 0] 40)).alloc (.cells #[.string { data := #[] }, .int .i64 0, .int .i64 0, .int .i64 0, .slice (some { block := w.heap.size + 1 + 1, off := 0 }) 2 2, .slice none 0 0, .slice none 0 0, .slice none 0 0, .slice none 0 0, .slice none 0 0] 34)) (w.heap.size + 1) [.int .i64 4, .int .i64 1, .int .i64 1000000000000000] 23 := ((Own.new_at (by rw [size_alloc]) _ _).alloc _).alloc _
  have oS : Own ((((w.alloc (.cells #[.int .i64 1, .int .i64 2, .int .i64 3] 23)).alloc (.cells #[.int .i64 4, .int .i64 1, .int .i64 1000000000000000] 23)).alloc (.cells #[.string { data := #[] }, .string { data := #[] }, .int .i64 1, .int .i64 2, .int .i64 3, .int .i64 4, .int .i64 1, .int .i64 1000000000000000, .slice none 0 0, .slice none 0 0, .slice none 0 0, .string { data := #[] }, .string { data := #[] }, .int .i64 4, .int .i64 1, .int .i64 1000000000000000, .int .i64 4, .int .i64 1, .int .i64 1000000000000000, .slice none 0 0, .slice none 0 0, .slice none 0 0] 40)).alloc (.cells #[.string { data := #[] }, .int .i64 0, .int .i64 0, .int .i64 0, .slice (some { block := w.heap.size + 1 + 1, off := 0 }) 2 2, .slice none 0 0, .slice none 0 0, .slice none 0 0, .slice none 0 0, .slice none 0 0] 34)) (w.heap.size + 1 + 1) [.string { data := #[] }, .string { data := #[] }, .int .i64 1, .int .i64 2, .int .i64 3, .int .i64 4, .int .i64 1, .int .i64 1000000000000000, .slice none 0 0, .slice none 0 0, .slice none 0 0, .string { data := #[] }, .string { data := #[] }, .int .i64 4, .int .i64 1, .int .i64 1000000000000000, .int .i64 4, .int .i64 1, .int .i64 1000000000000000, .slice none 0 0, .slice none 0 0, .slice none 0 0] 40 := (Own.new_at (by rw [size_alloc, size_alloc]) _ _).alloc _
  have oP : Own ((((w.alloc (.cells #[.int .i64 1, .int .i64 2, .int .i64 3] 23)).alloc (.cells #[.int .i64 4, .int .i64 1, .int .i64 1000000000000000] 23)).alloc (.cells #[.string { data := #[] }, .string { data := #[] }, .int .i64 1, .int .i64 2, .int .i64 3, .int .i64 4, .int .i64 1, .int .i64 1000000000000000, .slice none 0 0, .slice none 0 0, .slice none 0 0, .string { data := #[] }, .string { data := #[] }, .int .i64 4, .int .i64 1, .int .i64 1000000000000000, .int .i64 4, .int .i64 1, .int .i64 1000000000000000, .slice none 0 0, .slice none 0 0, .slice none 0 0] 40)).alloc (.cells #[.string { data := #[] }, .int .i64 0, .int .i64 0, .int .i64 0, .slice (some { block := w.heap.size + 1 + 1, off := 0 }) 2 2, .slice none 0 0, .slice none 0 0, .slice none 0 0, .slice none 0 0, .slice none 0 0] 34)) (w.heap.size + 1 + 1 + 1) [.string { data := #[] }, .int .i64 0, .int .i64 0, .int .i64 0, .slice (some { block := w.heap.size + 1 + 1, off := 0 }) 2 2, .slice none 0 0, .slice none 0 0, .slice none 0 0, .slice none 0 0, .slice none 0 0] 34 := Own.new_at (by rw [size_alloc, size_alloc, size_alloc]) _ _
  generalize (((w.alloc (.cells #[.int .i64 1, .int .i64 2, .int .i64 3] 23)).alloc (.cells #[.int .i64 4, .int .i64 1, .int .i64 1000000000000000] 23)).alloc (.cells #[.string { data := #[] }, .string { data := #[] }, .int .i64 1, .int .i64 2, .int .i64 3, .int .i64 4, .int .i64 1, .int .i64 1000000000000000, .slice none 0 0, .slice none 0 0, .slice none 0 0, .string { data := #[] }, .string { data := #[] }, .int .i64 4, .int .i64 1, .int .i64 1000000000000000, .int .i64 4, .int .i64 1, .int .i64 1000000000000000, .slice none 0 0, .slice none 0 0, .slice none 0 0] 40)).alloc (.cells #[.string { data := #[] }, .int .i64 0, .int .i64 0, .int .i64 0, .slice (some { block := w.heap.size + 1 + 1, off := 0 }) 2 2, .slice none 0 0, .slice none 0 0, .slice none 0 0, .slice none 0 0, .slice none 0 0] 34) = W at *
  have hC : Conts W (.slice (some ⟨w.heap.size + 1 + 1, 0, none⟩) 2 2) [cvA, cvB] := conts_own (l := [cvA, cvB]) oS (by decide)
  obtain ⟨u0, u1, u2⟩ := oA.three
  obtain ⟨v0, v1, v2⟩ := oB.three
  have k0 := cell_regrown u0
  have k1 := cell_regrown u1
  have k2 := cell_regrown u2
  have l0 := cell_regrown v0
  have l1 := cell_regrown v1
  have l2 := cell_regrown v2
  have m0 := cell_regrown (oP.cell (i := 0) rfl)
  have m1 := cell_regrown (oP.cell (i := 1) rfl)
  have m2 := cell_regrown (oP.cell (i := 2) rfl)
  have m3 := cell_regrown (oP.cell (i := 3) rfl)
  have m4 := cell_regrown (oP.cell (i := 4) rfl)
  have m5 := cell_regrown (oP.cell (i := 5) rfl)
  have m6 := cell_regrown (oP.cell (i := 6) rfl)
  have m7 := cell_regrown (oP.cell (i := 7) rfl)
  have m8 := cell_regrown (oP.cell (i := 8) rfl)
  have m9 := cell_regrown (oP.cell (i := 9) rfl)
  have cAdd : ∀ dd os, Calls Try.prog 9 #[.agg #[.int .i64 1, .int .i64 2, .int .i64 3], .agg #[.int .i64 4, .int .i64 1, .int .i64 1000000000000000]] (grow (redrawn W dd) os) fun e w'' => e = .returned (.agg #[.int .i64 5, .int .i64 3, .int .i64 1000000000000000]) ∧ ∃ p : Regrown, w'' = grow (redrawn W p.d) p.os := fun dd os => Calls.regrown_of (live_add _)
  have cSub : ∀ dd os, Calls Try.prog 11 #[.agg #[.int .i64 1, .int .i64 2, .int .i64 3], .agg #[.int .i64 4, .int .i64 1, .int .i64 1000000000000000]] (grow (redrawn W dd) os) fun e w'' => e = .returned (.agg #[.int .i64 0, .int .i64 1, .int .i64 0]) ∧ ∃ p : Regrown, w'' = grow (redrawn W p.d) p.os := fun dd os => Calls.regrown_of (live_sub _)
  have cFit : ∀ dd os, Calls Try.prog 13 #[.agg #[.int .i64 1, .int .i64 2, .int .i64 3], .agg #[.int .i64 5, .int .i64 3, .int .i64 1000000000000000]] (grow (redrawn W dd) os) fun e w'' => e = .returned (.bool true) ∧ ∃ p : Regrown, w'' = grow (redrawn W p.d) p.os := fun dd os => Calls.regrown_of (live_fit _)
  have cNot : ∀ dd os, Calls Try.prog 13 #[.agg #[.int .i64 4, .int .i64 1, .int .i64 1000000000000000], .agg #[.int .i64 1, .int .i64 2, .int .i64 3]] (grow (redrawn W dd) os) fun e w'' => e = .returned (.bool false) ∧ ∃ p : Regrown, w'' = grow (redrawn W p.d) p.os := fun dd os => Calls.regrown_of (live_not _)
  have cReq : ∀ dd os, Calls Try.prog 15 #[.agg #[.string { data := #[] }, .int .i64 0, .int .i64 0, .int .i64 0, .slice (some { block := w.heap.size + 1 + 1, off := 0 }) 2 2, .slice none 0 0, .slice none 0 0, .slice none 0 0, .slice none 0 0, .slice none 0 0]] (grow (redrawn W dd) os) fun e w'' => e = .returned (.agg #[.int .i64 5, .int .i64 3, .int .i64 1000000000000000]) ∧ ∃ p : Regrown, w'' = grow (redrawn W p.d) p.os := fun dd os => Calls.regrown_of (live_req _ _ (hC.all (below_regrown W dd os)))
  have cLim : ∀ dd os, Calls Try.prog 17 #[.agg #[.string { data := #[] }, .int .i64 0, .int .i64 0, .int .i64 0, .slice (some { block := w.heap.size + 1 + 1, off := 0 }) 2 2, .slice none 0 0, .slice none 0 0, .slice none 0 0, .slice none 0 0, .slice none 0 0]] (grow (redrawn W dd) os) fun e w'' => e = .returned (.agg #[.int .i64 8, .int .i64 2, .int .i64 1000000000000000]) ∧ ∃ p : Regrown, w'' = grow (redrawn W p.d) p.os := fun dd os => Calls.regrown_of (live_lim _ _ (hC.all (below_regrown W dd os)))
  clear hC oA oB oS oP u0 u1 u2 v0 v1 v2
  refine wp_region_quiet_below (by kernel_rfl) (by kernel_rfl) ?_
  repeat (first | go_big_quiet_step ((first | with_reducible exact cAdd _ _ | with_reducible exact cSub _ _ | with_reducible exact cFit _ _ | with_reducible exact cNot _ _ | with_reducible exact cReq _ _ | with_reducible exact cLim _ _)) | quiet_step (first | with_reducible exact cAdd _ _ | with_reducible exact cSub _ _ | with_reducible exact cFit _ _ | with_reducible exact cNot _ _ | with_reducible exact cReq _ _ | with_reducible exact cLim _ _))
  refine wpQuiet_nil ?_
  intro _ hw'
  obtain ⟨⟨dq, osq⟩, hw''⟩ := hw'
  subst hw''
  go_wp2
  go_ret
  exact ⟨rfl, below_all hw0 (below_regrown W dq osq)⟩
end Go.Proofs.Ytjjkihohmgpgdaa
