/- The contract of List. Contracts of the constructors, and of Get at a field whose value is a leaf. Constructors of both sides; List and Map with what they own. -/
import Derived.Test.YtinenbgdkchghaaCaJ
import Derived.Test.YtinenbgdkchghaaWpJ
import Derived.Test.YtinenbgdkchghaaCc
set_option linter.unusedSimpArgs false
set_option linter.unusedVariables false
namespace Go.Proofs.Ytinenbgdkchghaa
open Go.RowKit Go.Sort Go.Proofs.LawFrame

set_option maxHeartbeats 4000000 in
set_option maxRecDepth 20000 in
theorem list_any (v : Value) (l : List T) (w : World) (hv : Vals w v l) (hn : l.length ≤ 4000) (hs : ∀ t ∈ l, t.size ≤ 4000) :
    Calls Try.prog 39 #[v] w fun e w' => ∃ c' : VC, e = .returned c'.val ∧ Below w.heap.size w w' ∧ IsA w' (fun b => w.heap.size ≤ b) c' (.mk 4 0 [] l []) := by
  obtain ⟨ao, cap, rfl, -, -⟩ := hv.form
  have hw0 := below_alloc w (.cells #[.int .i64 0, .int .i64 0, .string ⟨#[]⟩, .slice none 0 0, .slice none 0 0] 25)
  have oR0 : Own (w.alloc (.cells #[.int .i64 0, .int .i64 0, .string ⟨#[]⟩, .slice none 0 0, .slice none 0 0] 25)) w.heap.size [.int .i64 0, .int .i64 0, .string ⟨#[]⟩, .slice none 0 0, .slice none 0 0] 25 := Own.new _ _ _
  have hs0 : (w.alloc (.cells #[.int .i64 0, .int .i64 0, .string ⟨#[]⟩, .slice none 0 0, .slice none 0 0] 25)).heap.size = w.heap.size + 1 := size_alloc _ _
  have C := Lib.hid (copyList_of l (fun i x hx c w h => copy_any x (hs x (List.mem_of_getElem? hx)) c w h) _ (w.alloc (.cells #[.int .i64 0, .int .i64 0, .string ⟨#[]⟩, .slice none 0 0, .slice none 0 0] 25)) (hv.all hw0) hn)
  have HW := Lib.hid (And.intro hw0 oR0)
  clear hw0 oR0 hv
  go_enter Try.func39, Try.ntmps39
  go_wp2_with fail
  generalize (w.alloc (.cells #[.int .i64 0, .int .i64 0, .string ⟨#[]⟩, .slice none 0 0, .slice none 0 0] 25)) = W at *
  refine C.out.mono ?_
  rintro e w2 ⟨v', rfl, hb2, hL⟩
  obtain ⟨la, ln, lc, rfl⟩ := hL.slice
  have oR := HW.out.2.all hb2
  have hbE := below_all HW.out.1 hb2
  have r0 := oR.cell (i := 0) rfl
  have r1 := oR.cell (i := 1) rfl
  have r2 := oR.cell (i := 2) rfl
  have r3 := oR.cell (i := 3) rfl
  have r4 := oR.cell (i := 4) rfl
  have g0 := oR.frozen 0
  have g1 := oR.frozen 1
  have g2 := oR.frozen 2
  have g3 := oR.frozen 3
  have g4 := oR.frozen 4
  have HS := Lib.hid (And.intro (((((oR.set 0 (.int .i64 4)).set 1 (.int .i64 0)).set 2 (.string ⟨#[]⟩)).set 3 (.slice la ln lc)).set 4 (.slice none 0 0)) (And.intro (below_set (below_set (below_set (below_set (below_set hbE (Nat.le_refl w.heap.size) (i := 0) (.int .i64 4)) (Nat.le_refl w.heap.size) (i := 1) (.int .i64 0)) (Nat.le_refl w.heap.size) (i := 2) (.string ⟨#[]⟩)) (Nat.le_refl w.heap.size) (i := 3) (.slice la ln lc)) (Nat.le_refl w.heap.size) (i := 4) (.slice none 0 0)) (((((hL.set (b := w.heap.size) (by omega) 0 (.int .i64 4)).set (b := w.heap.size) (by omega) 1 (.int .i64 0)).set (b := w.heap.size) (by omega) 2 (.string ⟨#[]⟩)).set (b := w.heap.size) (by omega) 3 (.slice la ln lc)).set (b := w.heap.size) (by omega) 4 (.slice none 0 0))))
  clear oR hbE hL C HW hb2
  go_wp2
  clear r0 r1 r2 r3 r4 g0 g1 g2 g3 g4
  change bodyPost Try.prog Try.f39 _ _ _ (((((w2.setCell ⟨w.heap.size, 0, none⟩ (.int .i64 4)).setCell ⟨w.heap.size, 1, none⟩ (.int .i64 0)).setCell ⟨w.heap.size, 2, none⟩ (.string ⟨#[]⟩)).setCell ⟨w.heap.size, 3, none⟩ (.slice la ln lc)).setCell ⟨w.heap.size, 4, none⟩ (.slice none 0 0))
  generalize (((((w2.setCell ⟨w.heap.size, 0, none⟩ (.int .i64 4)).setCell ⟨w.heap.size, 1, none⟩ (.int .i64 0)).setCell ⟨w.heap.size, 2, none⟩ (.string ⟨#[]⟩)).setCell ⟨w.heap.size, 3, none⟩ (.slice la ln lc)).setCell ⟨w.heap.size, 4, none⟩ (.slice none 0 0)) = U at *
  obtain ⟨oS, hbS, hLS⟩ := HS.out
  have c0 : U.cell? ⟨w.heap.size, 0, none⟩ = some (.int .i64 4) := oS.cell rfl
  have c1 : U.cell? ⟨w.heap.size, 1, none⟩ = some (.int .i64 0) := oS.cell rfl
  have c2 : U.cell? ⟨w.heap.size, 2, none⟩ = some (.string ⟨#[]⟩) := oS.cell rfl
  have c3 : U.cell? ⟨w.heap.size, 3, none⟩ = some (.slice la ln lc) := oS.cell rfl
  have c4 : U.cell? ⟨w.heap.size, 4, none⟩ = some (.slice none 0 0) := oS.cell rfl
  exact bodyPost_ret (v := .agg #[.int .i64 4, .int .i64 0, .string ⟨#[]⟩, .slice la ln lc, .slice none 0 0]) (by simp [results, Try.results39, go_sem, c0, c1, c2, c3, c4]) rfl ⟨⟨4, 0, [], la, ln, lc, none, 0, 0⟩, rfl, hbS, IsA.new (W := w) (w2 := w) (c := ⟨4, 0, [], la, ln, lc, none, 0, 0⟩) hLS ⟨Or.inl ⟨rfl, rfl⟩⟩ (by omega) (Nat.le_refl _)⟩
end Go.Proofs.Ytinenbgdkchghaa
namespace Go.Proofs.Ytinenbgdkchghaa
open Go.RowKit Go.Sort Go.Proofs.LawFrame

set_option maxHeartbeats 400000 in
theorem null_any  (w : World) : Calls Try.prog 33 #[] w fun e w' => e = .returned (.agg #[.int .i64 0, .int .i64 0, .string ⟨#[]⟩, .slice none 0 0, .slice none 0 0]) ∧ Below w.heap.size w w' := by
  go_enter Try.func33, Try.ntmps33
  go_wp2
  have hb : Below w.heap.size w (w.alloc (.cells #[.int .i64 0, .int .i64 0, .string ⟨#[]⟩, .slice none 0 0, .slice none 0 0] 25)) := (Below.refl _ _).alloc (Nat.le_refl _) _
  have oR : Own (w.alloc (.cells #[.int .i64 0, .int .i64 0, .string ⟨#[]⟩, .slice none 0 0, .slice none 0 0] 25)) w.heap.size [.int .i64 0, .int .i64 0, .string ⟨#[]⟩, .slice none 0 0, .slice none 0 0] 25 := Own.new _ _ _
  change bodyPost Try.prog Try.f33 _ _ _ (w.alloc (.cells #[.int .i64 0, .int .i64 0, .string ⟨#[]⟩, .slice none 0 0, .slice none 0 0] 25))
  generalize w.alloc (.cells #[.int .i64 0, .int .i64 0, .string ⟨#[]⟩, .slice none 0 0, .slice none 0 0] 25) = U at *
  have c0 := oR.cell (i := 0) rfl
  have c1 := oR.cell (i := 1) rfl
  have c2 := oR.cell (i := 2) rfl
  have c3 := oR.cell (i := 3) rfl
  have c4 := oR.cell (i := 4) rfl
  exact bodyPost_ret (v := .agg #[.int .i64 0, .int .i64 0, .string ⟨#[]⟩, .slice none 0 0, .slice none 0 0]) (by simp [results, Try.results33, go_sem, c0, c1, c2, c3, c4]) rfl ⟨rfl, hb⟩

end Go.Proofs.Ytinenbgdkchghaa
namespace Go.Proofs.Ytinenbgdkchghaa
open Go.RowKit Go.Sort Go.Proofs.LawFrame

theorem NewL.lower {w w1 w' : World} {v : Value} {l : List T} (h : NewL w1 w' v l) (hs : w.heap.size ≤ w1.heap.size) : NewL w w' v l := by
  rcases h.out with h | ⟨b, cs, h1, h2, h3, h4, h5, h6⟩
  · exact ⟨Or.inl h⟩
  · exact ⟨Or.inr ⟨b, cs, h1, h2, Nat.le_trans hs h3, h4, h5, h6⟩⟩
theorem NewF.lower {w w1 w' : World} {v : Value} {l : List (Str × T)} (h : NewF w1 w' v l) (hs : w.heap.size ≤ w1.heap.size) : NewF w w' v l := by
  rcases h.out with h | ⟨b, cs, h1, h2, h3, h4, h5, h7, h6⟩
  · exact ⟨Or.inl h⟩
  · exact ⟨Or.inr ⟨b, cs, h1, h2, Nat.le_trans hs h3, h4, h5, h7, h6⟩⟩

set_option maxHeartbeats 4000000 in
theorem list_new (v : Value) (l : List T) (w : World) (hv : Vals w v l) (hn : l.length ≤ 4000) (hs : ∀ t ∈ l, t.size ≤ 4000) :
    Calls Try.prog 39 #[v] w fun e w' => ∃ c' : VC, e = .returned c'.val ∧ Below w.heap.size w w' ∧ IsA w' (fun b => w.heap.size ≤ b) c' (.mk 4 0 [] l []) ∧ NewL w w' (.slice c'.la c'.ln c'.lc) l := by
  obtain ⟨ao, cap, rfl, -, -⟩ := hv.form
  have hw0 := below_alloc w (.cells #[.int .i64 0, .int .i64 0, .string ⟨#[]⟩, .slice none 0 0, .slice none 0 0] 25)
  have oR0 : Own (w.alloc (.cells #[.int .i64 0, .int .i64 0, .string ⟨#[]⟩, .slice none 0 0, .slice none 0 0] 25)) w.heap.size [.int .i64 0, .int .i64 0, .string ⟨#[]⟩, .slice none 0 0, .slice none 0 0] 25 := Own.new _ _ _
  have hs0 : (w.alloc (.cells #[.int .i64 0, .int .i64 0, .string ⟨#[]⟩, .slice none 0 0, .slice none 0 0] 25)).heap.size = w.heap.size + 1 := size_alloc _ _
  have C := Lib.hid (copyList_of l (fun i x hx c w h => copy_any x (hs x (List.mem_of_getElem? hx)) c w h) _ (w.alloc (.cells #[.int .i64 0, .int .i64 0, .string ⟨#[]⟩, .slice none 0 0, .slice none 0 0] 25)) (hv.all hw0) hn)
  have HW := Lib.hid (And.intro hw0 oR0)
  clear hw0 oR0 hv
  go_enter Try.func39, Try.ntmps39
  go_wp2_with fail
  generalize (w.alloc (.cells #[.int .i64 0, .int .i64 0, .string ⟨#[]⟩, .slice none 0 0, .slice none 0 0] 25)) = W at *
  refine C.out.mono ?_
  rintro e w2 ⟨v', rfl, hb2, hL⟩
  obtain ⟨la, ln, lc, rfl⟩ := hL.slice
  have oR := HW.out.2.all hb2
  have hbE := below_all HW.out.1 hb2
  have r0 := oR.cell (i := 0) rfl
  have r1 := oR.cell (i := 1) rfl
  have r2 := oR.cell (i := 2) rfl
  have r3 := oR.cell (i := 3) rfl
  have r4 := oR.cell (i := 4) rfl
  have g0 := oR.frozen 0
  have g1 := oR.frozen 1
  have g2 := oR.frozen 2
  have g3 := oR.frozen 3
  have g4 := oR.frozen 4
  have HS := Lib.hid (And.intro (((((oR.set 0 (.int .i64 4)).set 1 (.int .i64 0)).set 2 (.string ⟨#[]⟩)).set 3 (.slice la ln lc)).set 4 (.slice none 0 0)) (And.intro (below_set (below_set (below_set (below_set (below_set hbE (Nat.le_refl w.heap.size) (i := 0) (.int .i64 4)) (Nat.le_refl w.heap.size) (i := 1) (.int .i64 0)) (Nat.le_refl w.heap.size) (i := 2) (.string ⟨#[]⟩)) (Nat.le_refl w.heap.size) (i := 3) (.slice la ln lc)) (Nat.le_refl w.heap.size) (i := 4) (.slice none 0 0)) (((((hL.set (b := w.heap.size) (by omega) 0 (.int .i64 4)).set (b := w.heap.size) (by omega) 1 (.int .i64 0)).set (b := w.heap.size) (by omega) 2 (.string ⟨#[]⟩)).set (b := w.heap.size) (by omega) 3 (.slice la ln lc)).set (b := w.heap.size) (by omega) 4 (.slice none 0 0))))
  clear oR hbE hL C HW hb2
  go_wp2
  clear r0 r1 r2 r3 r4 g0 g1 g2 g3 g4
  change bodyPost Try.prog Try.f39 _ _ _ (((((w2.setCell ⟨w.heap.size, 0, none⟩ (.int .i64 4)).setCell ⟨w.heap.size, 1, none⟩ (.int .i64 0)).setCell ⟨w.heap.size, 2, none⟩ (.string ⟨#[]⟩)).setCell ⟨w.heap.size, 3, none⟩ (.slice la ln lc)).setCell ⟨w.heap.size, 4, none⟩ (.slice none 0 0))
  generalize (((((w2.setCell ⟨w.heap.size, 0, none⟩ (.int .i64 4)).setCell ⟨w.heap.size, 1, none⟩ (.int .i64 0)).setCell ⟨w.heap.size, 2, none⟩ (.string ⟨#[]⟩)).setCell ⟨w.heap.size, 3, none⟩ (.slice la ln lc)).setCell ⟨w.heap.size, 4, none⟩ (.slice none 0 0)) = U at *
  obtain ⟨oS, hbS, hLS⟩ := HS.out
  have c0 : U.cell? ⟨w.heap.size, 0, none⟩ = some (.int .i64 4) := oS.cell rfl
  have c1 : U.cell? ⟨w.heap.size, 1, none⟩ = some (.int .i64 0) := oS.cell rfl
  have c2 : U.cell? ⟨w.heap.size, 2, none⟩ = some (.string ⟨#[]⟩) := oS.cell rfl
  have c3 : U.cell? ⟨w.heap.size, 3, none⟩ = some (.slice la ln lc) := oS.cell rfl
  have c4 : U.cell? ⟨w.heap.size, 4, none⟩ = some (.slice none 0 0) := oS.cell rfl
  exact bodyPost_ret (v := .agg #[.int .i64 4, .int .i64 0, .string ⟨#[]⟩, .slice la ln lc, .slice none 0 0]) (by simp [results, Try.results39, go_sem, c0, c1, c2, c3, c4]) rfl ⟨⟨4, 0, [], la, ln, lc, none, 0, 0⟩, rfl, hbS, IsA.new (W := w) (w2 := w) (c := ⟨4, 0, [], la, ln, lc, none, 0, 0⟩) hLS ⟨Or.inl ⟨rfl, rfl⟩⟩ (by omega) (Nat.le_refl _), hLS.lower (by omega)⟩

end Go.Proofs.Ytinenbgdkchghaa
