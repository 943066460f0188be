/- The contract of List. Contracts of the constructors, and of Get at a field whose value is a leaf. Constructors of both sides; List and Map with what they own. -/
import Derived.Test.YtjpmnlefjmdelaaGreatDoorCaJ
import Derived.Test.YtjpmnlefjmdelaaGreatDoorWpJ
import Derived.Test.YtjpmnlefjmdelaaGreatDoorCcJ
set_option linter.unusedSimpArgs false
set_option linter.unusedVariables false
namespace Go.Proofs.YtjpmnlefjmdelaaGreatDoor
open Go.RowKit Go.Sort Go.Proofs.LawFrame

set_option maxHeartbeats 4000000 in
set_option maxRecDepth 20000 in
theorem list_any (v : Value) (l : List T) (w : World) (hv : Vals w v l) (hn : l.length ≤ 4000) (hs : ∀ t ∈ l, t.size ≤ 4000) :
    Calls Tryz.prog 114 #[v] w fun e w' => ∃ c' : VC, e = .returned c'.val ∧ Below w.heap.size w w' ∧ IsA w' (fun b => w.heap.size ≤ b) c' (.mk 4 0 [] l []) := by
  obtain ⟨ao, cap, rfl, -, -⟩ := hv.form
  have hw0 := below_alloc w (.cells #[.int .i64 0, .int .i64 0, .string ⟨#[]⟩, .slice none 0 0, .slice none 0 0] 25)
  have oR0 : Own (w.alloc (.cells #[.int .i64 0, .int .i64 0, .string ⟨#[]⟩, .slice none 0 0, .slice none 0 0] 25)) w.heap.size [.int .i64 0, .int .i64 0, .string ⟨#[]⟩, .slice none 0 0, .slice none 0 0] 25 := Own.new _ _ _
  have hs0 : (w.alloc (.cells #[.int .i64 0, .int .i64 0, .string ⟨#[]⟩, .slice none 0 0, .slice none 0 0] 25)).heap.size = w.heap.size + 1 := size_alloc _ _
  have C := Lib.hid (copyList_of l (fun i x hx c w h => copy_any x (hs x (List.mem_of_getElem? hx)) c w h) _ (w.alloc (.cells #[.int .i64 0, .int .i64 0, .string ⟨#[]⟩, .slice none 0 0, .slice none 0 0] 25)) (hv.all hw0) hn)
  have HW := Lib.hid (And.intro hw0 oR0)
  clear hw0 oR0 hv
  go_enter Tryz.func114, Tryz.ntmps114
  go_wp2_with fail
  generalize (w.alloc (.cells #[.int .i64 0, .int .i64 0, .string ⟨#[]⟩, .slice none 0 0, .slice none 0 0] 25)) = W at *
  refine C.out.mono ?_
  rintro e w2 ⟨v', rfl, hb2, hL⟩
  obtain ⟨la, ln, lc, rfl⟩ := hL.slice
  have oR := HW.out.2.all hb2
  have hbE := below_all HW.out.1 hb2
  have r0 := oR.cell (i := 0) rfl
  have r1 := oR.cell (i := 1) rfl
  have r2 := oR.cell (i := 2) rfl
  have r3 := oR.cell (i := 3) rfl
  have r4 := oR.cell (i := 4) rfl
  have g0 := oR.frozen 0
  have g1 := oR.frozen 1
  have g2 := oR.frozen 2
  have g3 := oR.frozen 3
  have g4 := oR.frozen 4
  have HS := Lib.hid (And.intro (((((oR.set 0 (.int .i64 4)).set 1 (.int .i64 0)).set 2 (.string ⟨#[]⟩)).set 3 (.slice la ln lc)).set 4 (.slice none 0 0)) (And.intro (below_set (below_set (below_set (below_set (below_set hbE (Nat.le_refl w.heap.size) (i := 0) (.int .i64 4)) (Nat.le_refl w.heap.size) (i := 1) (.int .i64 0)) (Nat.le_refl w.heap.size) (i := 2) (.string ⟨#[]⟩)) (Nat.le_refl w.heap.size) (i := 3) (.slice la ln lc)) (Nat.le_refl w.heap.size) (i := 4) (.slice none 0 0)) (((((hL.set (b := w.heap.size) (by omega) 0 (.int .i64 4)).set (b := w.heap.size) (by omega) 1 (.int .i64 0)).set (b := w.heap.size) (by omega) 2 (.string ⟨#[]⟩)).set (b := w.heap.size) (by omega) 3 (.slice la ln lc)).set (b := w.heap.size) (by omega) 4 (.slice none 0 0))))
  clear oR hbE hL C HW hb2
  go_wp2
  clear r0 r1 r2 r3 r4 g0 g1 g2 g3 g4
  change bodyPost Tryz.prog Tryz.f114 _ _ _ (((((w2.setCell ⟨w.heap.size, 0, none⟩ (.int .i64 4)).setCell ⟨w.heap.size, 1, none⟩ (.int .i64 0)).setCell ⟨w.heap.size, 2, none⟩ (.string ⟨#[]⟩)).setCell ⟨w.heap.size, 3, none⟩ (.slice la ln lc)).setCell ⟨w.heap.size, 4, none⟩ (.slice none 0 0))
  generalize (((((w2.setCell ⟨w.heap.size, 0, none⟩ (.int .i64 4)).setCell ⟨w.heap.size, 1, none⟩ (.int .i64 0)).setCell ⟨w.heap.size, 2, none⟩ (.string ⟨#[]⟩)).setCell ⟨w.heap.size, 3, none⟩ (.slice la ln lc)).setCell ⟨w.heap.size, 4, none⟩ (.slice none 0 0)) = U at *
  obtain ⟨oS, hbS, hLS⟩ := HS.out
  have c0 : U.cell? ⟨w.heap.size, 0, none⟩ = some (.int .i64 4) := oS.cell rfl
  have c1 : U.cell? ⟨w.heap.size, 1, none⟩ = some (.int .i64 0) := oS.cell rfl
  have c2 : U.cell? ⟨w.heap.size, 2, none⟩ = some (.string ⟨#[]⟩) := oS.cell rfl
  have c3 : U.cell? ⟨w.heap.size, 3, none⟩ = some (.slice la ln lc) := oS.cell rfl
  have c4 : U.cell? ⟨w.heap.size, 4, none⟩ = some (.slice none 0 0) := oS.cell rfl
  exact bodyPost_ret (v := .agg #[.int .i64 4, .int .i64 0, .string ⟨#[]⟩, .slice la ln lc, .slice none 0 0]) (by simp [results, Tryz.results114, go_sem, c0, c1, c2, c3, c4]) rfl ⟨⟨4, 0, [], la, ln, lc, none, 0, 0⟩, rfl, hbS, IsA.new (W := w) (w2 := w) (c := ⟨4, 0, [], la, ln, lc, none, 0, 0⟩) hLS ⟨Or.inl ⟨rfl, rfl⟩⟩ (by omega) (Nat.le_refl _)⟩
end Go.Proofs.YtjpmnlefjmdelaaGreatDoor
namespace Go.Proofs.YtjpmnlefjmdelaaGreatDoor
open Go.RowKit Go.Sort Go.Proofs.LawFrame

set_option maxHeartbeats 400000 in
theorem int_any (n : Int) (w : World) : Calls Tryz.prog 174 #[.int .i64 n] w fun e w' => e = .returned (.agg #[.int .i64 2, .int .i64 n, .string ⟨#[]⟩, .slice none 0 0, .slice none 0 0]) ∧ Below w.heap.size w w' := by
  go_enter Tryz.func174, Tryz.ntmps174
  go_wp2
  have hb : Below w.heap.size w (w.alloc (.cells #[.int .i64 2, .int .i64 n, .string ⟨#[]⟩, .slice none 0 0, .slice none 0 0] 25)) := (Below.refl _ _).alloc (Nat.le_refl _) _
  have oR : Own (w.alloc (.cells #[.int .i64 2, .int .i64 n, .string ⟨#[]⟩, .slice none 0 0, .slice none 0 0] 25)) w.heap.size [.int .i64 2, .int .i64 n, .string ⟨#[]⟩, .slice none 0 0, .slice none 0 0] 25 := Own.new _ _ _
  change bodyPost Tryz.prog Tryz.f174 _ _ _ (w.alloc (.cells #[.int .i64 2, .int .i64 n, .string ⟨#[]⟩, .slice none 0 0, .slice none 0 0] 25))
  generalize w.alloc (.cells #[.int .i64 2, .int .i64 n, .string ⟨#[]⟩, .slice none 0 0, .slice none 0 0] 25) = U at *
  have c0 := oR.cell (i := 0) rfl
  have c1 := oR.cell (i := 1) rfl
  have c2 := oR.cell (i := 2) rfl
  have c3 := oR.cell (i := 3) rfl
  have c4 := oR.cell (i := 4) rfl
  exact bodyPost_ret (v := .agg #[.int .i64 2, .int .i64 n, .string ⟨#[]⟩, .slice none 0 0, .slice none 0 0]) (by simp [results, Tryz.results174, go_sem, c0, c1, c2, c3, c4]) rfl ⟨rfl, hb⟩

set_option maxHeartbeats 400000 in
theorem string_any (s : Str) (w : World) : Calls Tryz.prog 106 #[sV s] w fun e w' => e = .returned (.agg #[.int .i64 3, .int .i64 0, sV s, .slice none 0 0, .slice none 0 0]) ∧ Below w.heap.size w w' := by
  go_enter Tryz.func106, Tryz.ntmps106
  go_wp2
  have hb : Below w.heap.size w (w.alloc (.cells #[.int .i64 3, .int .i64 0, sV s, .slice none 0 0, .slice none 0 0] 25)) := (Below.refl _ _).alloc (Nat.le_refl _) _
  have oR : Own (w.alloc (.cells #[.int .i64 3, .int .i64 0, sV s, .slice none 0 0, .slice none 0 0] 25)) w.heap.size [.int .i64 3, .int .i64 0, sV s, .slice none 0 0, .slice none 0 0] 25 := Own.new _ _ _
  change bodyPost Tryz.prog Tryz.f106 _ _ _ (w.alloc (.cells #[.int .i64 3, .int .i64 0, sV s, .slice none 0 0, .slice none 0 0] 25))
  generalize w.alloc (.cells #[.int .i64 3, .int .i64 0, sV s, .slice none 0 0, .slice none 0 0] 25) = U at *
  have c0 := oR.cell (i := 0) rfl
  have c1 := oR.cell (i := 1) rfl
  have c2 := oR.cell (i := 2) rfl
  have c3 := oR.cell (i := 3) rfl
  have c4 := oR.cell (i := 4) rfl
  exact bodyPost_ret (v := .agg #[.int .i64 3, .int .i64 0, sV s, .slice none 0 0, .slice none 0 0]) (by simp [results, Tryz.results106, go_sem, c0, c1, c2, c3, c4]) rfl ⟨rfl, hb⟩

set_option maxHeartbeats 400000 in
theorem null_any  (w : World) : Calls Tryz.prog 134 #[] w fun e w' => e = .returned (.agg #[.int .i64 0, .int .i64 0, .string ⟨#[]⟩, .slice none 0 0, .slice none 0 0]) ∧ Below w.heap.size w w' := by
  go_enter Tryz.func134, Tryz.ntmps134
  go_wp2
  have hb : Below w.heap.size w (w.alloc (.cells #[.int .i64 0, .int .i64 0, .string ⟨#[]⟩, .slice none 0 0, .slice none 0 0] 25)) := (Below.refl _ _).alloc (Nat.le_refl _) _
  have oR : Own (w.alloc (.cells #[.int .i64 0, .int .i64 0, .string ⟨#[]⟩, .slice none 0 0, .slice none 0 0] 25)) w.heap.size [.int .i64 0, .int .i64 0, .string ⟨#[]⟩, .slice none 0 0, .slice none 0 0] 25 := Own.new _ _ _
  change bodyPost Tryz.prog Tryz.f134 _ _ _ (w.alloc (.cells #[.int .i64 0, .int .i64 0, .string ⟨#[]⟩, .slice none 0 0, .slice none 0 0] 25))
  generalize w.alloc (.cells #[.int .i64 0, .int .i64 0, .string ⟨#[]⟩, .slice none 0 0, .slice none 0 0] 25) = U at *
  have c0 := oR.cell (i := 0) rfl
  have c1 := oR.cell (i := 1) rfl
  have c2 := oR.cell (i := 2) rfl
  have c3 := oR.cell (i := 3) rfl
  have c4 := oR.cell (i := 4) rfl
  exact bodyPost_ret (v := .agg #[.int .i64 0, .int .i64 0, .string ⟨#[]⟩, .slice none 0 0, .slice none 0 0]) (by simp [results, Tryz.results134, go_sem, c0, c1, c2, c3, c4]) rfl ⟨rfl, hb⟩

set_option maxHeartbeats 400000 in
theorem true_any  (w : World) : Calls Tryz.prog 135 #[.bool true] w fun e w' => e = .returned (.agg #[.int .i64 1, .int .i64 1, .string ⟨#[]⟩, .slice none 0 0, .slice none 0 0]) ∧ Below w.heap.size w w' := by
  go_enter Tryz.func135, Tryz.ntmps135
  go_wp2
  have hb : Below w.heap.size w (w.alloc (.cells #[.int .i64 1, .int .i64 1, .string ⟨#[]⟩, .slice none 0 0, .slice none 0 0] 25)) := (Below.refl _ _).alloc (Nat.le_refl _) _
  have oR : Own (w.alloc (.cells #[.int .i64 1, .int .i64 1, .string ⟨#[]⟩, .slice none 0 0, .slice none 0 0] 25)) w.heap.size [.int .i64 1, .int .i64 1, .string ⟨#[]⟩, .slice none 0 0, .slice none 0 0] 25 := Own.new _ _ _
  change bodyPost Tryz.prog Tryz.f135 _ _ _ (w.alloc (.cells #[.int .i64 1, .int .i64 1, .string ⟨#[]⟩, .slice none 0 0, .slice none 0 0] 25))
  generalize w.alloc (.cells #[.int .i64 1, .int .i64 1, .string ⟨#[]⟩, .slice none 0 0, .slice none 0 0] 25) = U at *
  have c0 := oR.cell (i := 0) rfl
  have c1 := oR.cell (i := 1) rfl
  have c2 := oR.cell (i := 2) rfl
  have c3 := oR.cell (i := 3) rfl
  have c4 := oR.cell (i := 4) rfl
  exact bodyPost_ret (v := .agg #[.int .i64 1, .int .i64 1, .string ⟨#[]⟩, .slice none 0 0, .slice none 0 0]) (by simp [results, Tryz.results135, go_sem, c0, c1, c2, c3, c4]) rfl ⟨rfl, hb⟩

end Go.Proofs.YtjpmnlefjmdelaaGreatDoor
namespace Go.Proofs.YtjpmnlefjmdelaaGreatDoor
open Go.RowKit Go.Sort Go.Proofs.LawFrame

set_option maxHeartbeats 400000 in
theorem rint_any (n : Int) (w : World) : Calls Tryz.prog 46 #[.int .i64 n] w fun e w' => e = .returned (.agg #[.int .i64 2, .int .i64 n, .string ⟨#[]⟩, .slice none 0 0, .slice none 0 0]) ∧ Below w.heap.size w w' := by
  go_enter Tryz.func46, Tryz.ntmps46
  go_wp2
  have hb : Below w.heap.size w (w.alloc (.cells #[.int .i64 2, .int .i64 n, .string ⟨#[]⟩, .slice none 0 0, .slice none 0 0] 25)) := (Below.refl _ _).alloc (Nat.le_refl _) _
  have oR : Own (w.alloc (.cells #[.int .i64 2, .int .i64 n, .string ⟨#[]⟩, .slice none 0 0, .slice none 0 0] 25)) w.heap.size [.int .i64 2, .int .i64 n, .string ⟨#[]⟩, .slice none 0 0, .slice none 0 0] 25 := Own.new _ _ _
  change bodyPost Tryz.prog Tryz.f46 _ _ _ (w.alloc (.cells #[.int .i64 2, .int .i64 n, .string ⟨#[]⟩, .slice none 0 0, .slice none 0 0] 25))
  generalize w.alloc (.cells #[.int .i64 2, .int .i64 n, .string ⟨#[]⟩, .slice none 0 0, .slice none 0 0] 25) = U at *
  have c0 := oR.cell (i := 0) rfl
  have c1 := oR.cell (i := 1) rfl
  have c2 := oR.cell (i := 2) rfl
  have c3 := oR.cell (i := 3) rfl
  have c4 := oR.cell (i := 4) rfl
  exact bodyPost_ret (v := .agg #[.int .i64 2, .int .i64 n, .string ⟨#[]⟩, .slice none 0 0, .slice none 0 0]) (by simp [results, Tryz.results46, go_sem, c0, c1, c2, c3, c4]) rfl ⟨rfl, hb⟩

set_option maxHeartbeats 400000 in
theorem rstring_any (s : Str) (w : World) : Calls Tryz.prog 45 #[sV s] w fun e w' => e = .returned (.agg #[.int .i64 3, .int .i64 0, sV s, .slice none 0 0, .slice none 0 0]) ∧ Below w.heap.size w w' := by
  go_enter Tryz.func45, Tryz.ntmps45
  go_wp2
  have hb : Below w.heap.size w (w.alloc (.cells #[.int .i64 3, .int .i64 0, sV s, .slice none 0 0, .slice none 0 0] 25)) := (Below.refl _ _).alloc (Nat.le_refl _) _
  have oR : Own (w.alloc (.cells #[.int .i64 3, .int .i64 0, sV s, .slice none 0 0, .slice none 0 0] 25)) w.heap.size [.int .i64 3, .int .i64 0, sV s, .slice none 0 0, .slice none 0 0] 25 := Own.new _ _ _
  change bodyPost Tryz.prog Tryz.f45 _ _ _ (w.alloc (.cells #[.int .i64 3, .int .i64 0, sV s, .slice none 0 0, .slice none 0 0] 25))
  generalize w.alloc (.cells #[.int .i64 3, .int .i64 0, sV s, .slice none 0 0, .slice none 0 0] 25) = U at *
  have c0 := oR.cell (i := 0) rfl
  have c1 := oR.cell (i := 1) rfl
  have c2 := oR.cell (i := 2) rfl
  have c3 := oR.cell (i := 3) rfl
  have c4 := oR.cell (i := 4) rfl
  exact bodyPost_ret (v := .agg #[.int .i64 3, .int .i64 0, sV s, .slice none 0 0, .slice none 0 0]) (by simp [results, Tryz.results45, go_sem, c0, c1, c2, c3, c4]) rfl ⟨rfl, hb⟩

set_option maxHeartbeats 400000 in
theorem false_any  (w : World) : Calls Tryz.prog 135 #[.bool false] w fun e w' => e = .returned (.agg #[.int .i64 1, .int .i64 0, .string ⟨#[]⟩, .slice none 0 0, .slice none 0 0]) ∧ Below w.heap.size w w' := by
  go_enter Tryz.func135, Tryz.ntmps135
  go_wp2
  have hb : Below w.heap.size w (w.alloc (.cells #[.int .i64 1, .int .i64 0, .string ⟨#[]⟩, .slice none 0 0, .slice none 0 0] 25)) := (Below.refl _ _).alloc (Nat.le_refl _) _
  have oR : Own (w.alloc (.cells #[.int .i64 1, .int .i64 0, .string ⟨#[]⟩, .slice none 0 0, .slice none 0 0] 25)) w.heap.size [.int .i64 1, .int .i64 0, .string ⟨#[]⟩, .slice none 0 0, .slice none 0 0] 25 := Own.new _ _ _
  change bodyPost Tryz.prog Tryz.f135 _ _ _ (w.alloc (.cells #[.int .i64 1, .int .i64 0, .string ⟨#[]⟩, .slice none 0 0, .slice none 0 0] 25))
  generalize w.alloc (.cells #[.int .i64 1, .int .i64 0, .string ⟨#[]⟩, .slice none 0 0, .slice none 0 0] 25) = U at *
  have c0 := oR.cell (i := 0) rfl
  have c1 := oR.cell (i := 1) rfl
  have c2 := oR.cell (i := 2) rfl
  have c3 := oR.cell (i := 3) rfl
  have c4 := oR.cell (i := 4) rfl
  exact bodyPost_ret (v := .agg #[.int .i64 1, .int .i64 0, .string ⟨#[]⟩, .slice none 0 0, .slice none 0 0]) (by simp [results, Tryz.results135, go_sem, c0, c1, c2, c3, c4]) rfl ⟨rfl, hb⟩

theorem NewL.lower {w w1 w' : World} {v : Value} {l : List T} (h : NewL w1 w' v l) (hs : w.heap.size ≤ w1.heap.size) : NewL w w' v l := by
  rcases h.out with h | ⟨b, cs, h1, h2, h3, h4, h5, h6⟩
  · exact ⟨Or.inl h⟩
  · exact ⟨Or.inr ⟨b, cs, h1, h2, Nat.le_trans hs h3, h4, h5, h6⟩⟩
theorem NewF.lower {w w1 w' : World} {v : Value} {l : List (Str × T)} (h : NewF w1 w' v l) (hs : w.heap.size ≤ w1.heap.size) : NewF w w' v l := by
  rcases h.out with h | ⟨b, cs, h1, h2, h3, h4, h5, h7, h6⟩
  · exact ⟨Or.inl h⟩
  · exact ⟨Or.inr ⟨b, cs, h1, h2, Nat.le_trans hs h3, h4, h5, h7, h6⟩⟩

set_option maxHeartbeats 4000000 in
theorem list_new (v : Value) (l : List T) (w : World) (hv : Vals w v l) (hn : l.length ≤ 4000) (hs : ∀ t ∈ l, t.size ≤ 4000) :
    Calls Tryz.prog 114 #[v] w fun e w' => ∃ c' : VC, e = .returned c'.val ∧ Below w.heap.size w w' ∧ IsA w' (fun b => w.heap.size ≤ b) c' (.mk 4 0 [] l []) ∧ NewL w w' (.slice c'.la c'.ln c'.lc) l := by
  obtain ⟨ao, cap, rfl, -, -⟩ := hv.form
  have hw0 := below_alloc w (.cells #[.int .i64 0, .int .i64 0, .string ⟨#[]⟩, .slice none 0 0, .slice none 0 0] 25)
  have oR0 : Own (w.alloc (.cells #[.int .i64 0, .int .i64 0, .string ⟨#[]⟩, .slice none 0 0, .slice none 0 0] 25)) w.heap.size [.int .i64 0, .int .i64 0, .string ⟨#[]⟩, .slice none 0 0, .slice none 0 0] 25 := Own.new _ _ _
  have hs0 : (w.alloc (.cells #[.int .i64 0, .int .i64 0, .string ⟨#[]⟩, .slice none 0 0, .slice none 0 0] 25)).heap.size = w.heap.size + 1 := size_alloc _ _
  have C := Lib.hid (copyList_of l (fun i x hx c w h => copy_any x (hs x (List.mem_of_getElem? hx)) c w h) _ (w.alloc (.cells #[.int .i64 0, .int .i64 0, .string ⟨#[]⟩, .slice none 0 0, .slice none 0 0] 25)) (hv.all hw0) hn)
  have HW := Lib.hid (And.intro hw0 oR0)
  clear hw0 oR0 hv
  go_enter Tryz.func114, Tryz.ntmps114
  go_wp2_with fail
  generalize (w.alloc (.cells #[.int .i64 0, .int .i64 0, .string ⟨#[]⟩, .slice none 0 0, .slice none 0 0] 25)) = W at *
  refine C.out.mono ?_
  rintro e w2 ⟨v', rfl, hb2, hL⟩
  obtain ⟨la, ln, lc, rfl⟩ := hL.slice
  have oR := HW.out.2.all hb2
  have hbE := below_all HW.out.1 hb2
  have r0 := oR.cell (i := 0) rfl
  have r1 := oR.cell (i := 1) rfl
  have r2 := oR.cell (i := 2) rfl
  have r3 := oR.cell (i := 3) rfl
  have r4 := oR.cell (i := 4) rfl
  have g0 := oR.frozen 0
  have g1 := oR.frozen 1
  have g2 := oR.frozen 2
  have g3 := oR.frozen 3
  have g4 := oR.frozen 4
  have HS := Lib.hid (And.intro (((((oR.set 0 (.int .i64 4)).set 1 (.int .i64 0)).set 2 (.string ⟨#[]⟩)).set 3 (.slice la ln lc)).set 4 (.slice none 0 0)) (And.intro (below_set (below_set (below_set (below_set (below_set hbE (Nat.le_refl w.heap.size) (i := 0) (.int .i64 4)) (Nat.le_refl w.heap.size) (i := 1) (.int .i64 0)) (Nat.le_refl w.heap.size) (i := 2) (.string ⟨#[]⟩)) (Nat.le_refl w.heap.size) (i := 3) (.slice la ln lc)) (Nat.le_refl w.heap.size) (i := 4) (.slice none 0 0)) (((((hL.set (b := w.heap.size) (by omega) 0 (.int .i64 4)).set (b := w.heap.size) (by omega) 1 (.int .i64 0)).set (b := w.heap.size) (by omega) 2 (.string ⟨#[]⟩)).set (b := w.heap.size) (by omega) 3 (.slice la ln lc)).set (b := w.heap.size) (by omega) 4 (.slice none 0 0))))
  clear oR hbE hL C HW hb2
  go_wp2
  clear r0 r1 r2 r3 r4 g0 g1 g2 g3 g4
  change bodyPost Tryz.prog Tryz.f114 _ _ _ (((((w2.setCell ⟨w.heap.size, 0, none⟩ (.int .i64 4)).setCell ⟨w.heap.size, 1, none⟩ (.int .i64 0)).setCell ⟨w.heap.size, 2, none⟩ (.string ⟨#[]⟩)).setCell ⟨w.heap.size, 3, none⟩ (.slice la ln lc)).setCell ⟨w.heap.size, 4, none⟩ (.slice none 0 0))
  generalize (((((w2.setCell ⟨w.heap.size, 0, none⟩ (.int .i64 4)).setCell ⟨w.heap.size, 1, none⟩ (.int .i64 0)).setCell ⟨w.heap.size, 2, none⟩ (.string ⟨#[]⟩)).setCell ⟨w.heap.size, 3, none⟩ (.slice la ln lc)).setCell ⟨w.heap.size, 4, none⟩ (.slice none 0 0)) = U at *
  obtain ⟨oS, hbS, hLS⟩ := HS.out
  have c0 : U.cell? ⟨w.heap.size, 0, none⟩ = some (.int .i64 4) := oS.cell rfl
  have c1 : U.cell? ⟨w.heap.size, 1, none⟩ = some (.int .i64 0) := oS.cell rfl
  have c2 : U.cell? ⟨w.heap.size, 2, none⟩ = some (.string ⟨#[]⟩) := oS.cell rfl
  have c3 : U.cell? ⟨w.heap.size, 3, none⟩ = some (.slice la ln lc) := oS.cell rfl
  have c4 : U.cell? ⟨w.heap.size, 4, none⟩ = some (.slice none 0 0) := oS.cell rfl
  exact bodyPost_ret (v := .agg #[.int .i64 4, .int .i64 0, .string ⟨#[]⟩, .slice la ln lc, .slice none 0 0]) (by simp [results, Tryz.results114, go_sem, c0, c1, c2, c3, c4]) rfl ⟨⟨4, 0, [], la, ln, lc, none, 0, 0⟩, rfl, hbS, IsA.new (W := w) (w2 := w) (c := ⟨4, 0, [], la, ln, lc, none, 0, 0⟩) hLS ⟨Or.inl ⟨rfl, rfl⟩⟩ (by omega) (Nat.le_refl _), hLS.lower (by omega)⟩

set_option maxHeartbeats 8000000 in
set_option maxRecDepth 4000 in
theorem map_new (v : Value) (l : List (Str × T)) (w : World) (hv : Flds w v l) (hn0 : l.length ≤ 4000) (hs : ∀ p ∈ l, p.2.size ≤ 4000) :
    Calls Tryz.prog 157 #[v] w fun e w' => ∃ (c' : VC) (M : List (Str × T)), e = .returned c'.val ∧ Below w.heap.size w w' ∧ IsA w' (fun b => w.heap.size ≤ b) c' (.mk 5 0 [] [] M) ∧ MapOf l M ∧ NewF w w' (.slice c'.fa c'.fn c'.fc) M := by
  obtain ⟨cs, hcl, hF, hx, hI⟩ := hv.out
  obtain ⟨f, hf1, hf2, hf3⟩ := tree_fun hcl hx hI
  have hn : cs.length ≤ 4000 := by omega
  rw [← hcl] at hF
  clear hcl hn0
  obtain ⟨i35, hi35, hzi35, hsi35, hyi35⟩ := info_parts info35
  have hw0 : Below w.heap.size w (w.alloc (.cells #[.int .i64 0, .int .i64 0, .string ⟨#[]⟩, .slice none 0 0, .slice none 0 0] 25)) := (Below.refl _ _).alloc (Nat.le_refl _) _
  have oR : Own (w.alloc (.cells #[.int .i64 0, .int .i64 0, .string ⟨#[]⟩, .slice none 0 0, .slice none 0 0] 25)) w.heap.size [.int .i64 0, .int .i64 0, .string ⟨#[]⟩, .slice none 0 0, .slice none 0 0] 25 := Own.new _ _ _
  have C := Lib.hid (clone_any v cs _ (hF.all hw0) hn)
  obtain ⟨ao, cap0, rfl, -⟩ := hF.out
  have HF := Lib.hid (And.intro hf1 (And.intro hf2 (And.intro hf3 hs)))
  clear hF hv hf1 hf2 hf3 hs hx hI
  go_enter Tryz.func157, Tryz.ntmps157
  go_wp2_with fail
  generalize w.alloc (.cells #[.int .i64 0, .int .i64 0, .string ⟨#[]⟩, .slice none 0 0, .slice none 0 0] 25) = W0 at *
  refine C.out.mono ?_
  rintro e w1 ⟨cv, rfl, hown, hb1⟩
  rcases hown.2 with ⟨hcv, h0⟩ | ⟨g, cap, cur, rfl, hgb, hg, h1, h2, h3, h4⟩
  · subst hcv
    have h00 : cs = [] := List.eq_nil_of_length_eq_zero h0
    subst h00
    have hbw1 := below_all hw0 hb1
    have oR1 := oR.all hb1
    have S := Lib.hid (sort_nil w1)
    clear hown hb1 hw0 oR C
    go_wp2_with fail
    refine S.out.mono ?_
    rintro e w2 ⟨rfl, hb2⟩
    have oR2 := oR1.all hb2
    have hbw2 := below_all hbw1 hb2
    clear hb2 oR1 hbw1 S
    go_wp2
    refine wp_loop_rounds 1 ?_
    rw [rounds_succ]
    have R0 := Lib.hid (And.intro hbw2 oR2)
    clear hbw2 oR2
    go_wp2_with fail
    refine (copyFields_empty none 0 w2).mono ?_
    rintro e w4 ⟨rfl, rfl⟩
    obtain ⟨hbE, oR4⟩ := R0.out
    have r0 : w2.cell? ⟨w.heap.size, 0, none⟩ = some (.int .i64 0) := oR4.cell rfl
    have r1 : w2.cell? ⟨w.heap.size, 1, none⟩ = some (.int .i64 0) := oR4.cell rfl
    have r2 : w2.cell? ⟨w.heap.size, 2, none⟩ = some (.string ⟨#[]⟩) := oR4.cell rfl
    have r3 : w2.cell? ⟨w.heap.size, 3, none⟩ = some (.slice none 0 0) := oR4.cell rfl
    have r4 : w2.cell? ⟨w.heap.size, 4, none⟩ = some (.slice none 0 0) := oR4.cell rfl
    have f0 := oR4.frozen 0
    have f1 := oR4.frozen 1
    have f2 := oR4.frozen 2
    have f3 := oR4.frozen 3
    have f4 := oR4.frozen 4
    have oS := ((((oR4.set 0 (.int .i64 5)).set 1 (.int .i64 0)).set 2 (.string ⟨#[]⟩)).set 3 (.slice none 0 0)).set 4 (.slice none 0 0)
    have hbS := below_set (below_set (below_set (below_set (below_set hbE (Nat.le_refl w.heap.size) (i := 0) (.int .i64 5)) (Nat.le_refl _) (i := 1) (.int .i64 0)) (Nat.le_refl _) (i := 2) (.string ⟨#[]⟩)) (Nat.le_refl _) (i := 3) (.slice none 0 0)) (Nat.le_refl _) (i := 4) (.slice none 0 0)
    have HS := Lib.hid (And.intro oS hbS)
    clear oS hbS hbE oR4 R0
    go_wp2
    obtain ⟨oS, hbS⟩ := HS.out
    clear r0 r1 r2 r3 r4 f0 f1 f2 f3 f4 HS
    generalize ((((w2.setCell ⟨w.heap.size, 0, none⟩ (.int .i64 5)).setCell ⟨w.heap.size, 1, none⟩ (.int .i64 0)).setCell ⟨w.heap.size, 2, none⟩ (.string ⟨#[]⟩)).setCell ⟨w.heap.size, 3, none⟩ (.slice none 0 0)).setCell ⟨w.heap.size, 4, none⟩ (.slice none 0 0) = U at *
    have c0 : U.cell? ⟨w.heap.size, 0, none⟩ = some (.int .i64 5) := oS.cell rfl
    have c1 : U.cell? ⟨w.heap.size, 1, none⟩ = some (.int .i64 0) := oS.cell rfl
    have c2 : U.cell? ⟨w.heap.size, 2, none⟩ = some (.string ⟨#[]⟩) := oS.cell rfl
    have c3 : U.cell? ⟨w.heap.size, 3, none⟩ = some (.slice none 0 0) := oS.cell rfl
    have c4 : U.cell? ⟨w.heap.size, 4, none⟩ = some (.slice none 0 0) := oS.cell rfl
    exact bodyPost_ret (v := .agg #[.int .i64 5, .int .i64 0, .string ⟨#[]⟩, .slice none 0 0, .slice none 0 0]) (by simp [results, Tryz.results157, go_sem, c0, c1, c2, c3, c4]) rfl ⟨⟨5, 0, [], none, 0, 0, none, 0, 0⟩, [], rfl, hbS, isA_map (w1 := w) ⟨Or.inl ⟨rfl, rfl⟩⟩ (Nat.le_refl _), by rw [← HF.out.2.2.1]; exact mapOf_nil, ⟨Or.inl ⟨rfl, rfl⟩⟩⟩
  have o1 : Own w1 g (cs.flatMap FC.cells ++ cur.toList.drop (cs.length * 6)) 58 := by
    show w1.heap[g]? = _
    rw [hg, ← h4, List.take_append_drop]
  have hbw1 := below_all hw0 hb1
  have oR1 := oR.all hb1
  have hltR := oR.lt
  have S := Lib.hid (sort_any g cap cs.length _ cs w1 o1 rfl hn h1 h2)
  have hg1 := hb1.size
  clear hown hg h3 h4 o1 hb1 hw0 oR C
  go_wp2_with fail
  refine S.out.mono ?_
  rintro e w2 ⟨rfl, hbt, hST⟩
  obtain ⟨L, hLs, hLe, hl2, o2⟩ := hST.out
  have HL := Lib.hid (And.intro hLs hLe)
  clear hLs hLe hST
  have hbw2 := hbt.below hbw1 (by omega) hbw1.size
  have oR2 := Own.but oR1 hbt (by omega)
  have hg2 := o2.lt
  clear hbt hbw1 oR1 S hgb hg1 hltR
  unfold maxLen at h2
  go_wp2
  have R0 := Lib.hid (And.intro hbw2 (And.intro o2 oR2))
  clear hbw2 o2 oR2
  go_loopg [4, 13] cs.length (fun gg kv i wr => ∃ k : Nat, k ≤ cs.length ∧ gg = cs.length - k ∧ i = .int .i64 k ∧ Below w2.heap.size w2 wr ∧ wr.ownsRow w2.heap.size 58 6 kv (keepTo L k).length ((keepTo L k).flatMap FC.cells))
  case atStart => exact ⟨0, Nat.zero_le _, rfl, rfl, Below.refl _ _, own_nil _ _ _ _⟩
  case round =>
    obtain ⟨k, hk, hg, rfl, hb, hown⟩ := hrel
    have HG := Lib.hid hg
    clear hg
    by_cases hlt : k < cs.length
    · have hx : L[k]? = some (L.getD k FC0) := by rw [List.getD_eq_getElem?_getD, List.getElem?_eq_getElem (by omega)]; rfl
      have HKB : Hid (keepB L k = (decide (k + 1 = cs.length) || !((L.getD (k + 1) FC0).x == (L.getD k FC0).x))) := Lib.hid (by unfold keepB; rw [hl2])
      have HKT : Hid (keepTo L (k + 1) = if keepB L k then keepTo L k ++ [L.getD k FC0] else keepTo L k) := Lib.hid rfl
      have hkl := keepTo_len L k
      generalize hRR : keepTo L k = R at *
      have hy : k + 1 < cs.length → L[k + 1]? = some (L.getD (k + 1) FC0) := fun h => by rw [List.getD_eq_getElem?_getD, List.getElem?_eq_getElem (by omega)]; rfl
      generalize L.getD k FC0 = c at *
      generalize L.getD (k + 1) FC0 = d at *
      clear hRR
      obtain ⟨q, q0, q1, q2, q3, q4⟩ := Own.fieldAt (R0.out.2.1.all hb) hx
      have hbb := hb.alloc hb.size (.cells #[sV c.x, .int .i64 c.v.k, .int .i64 c.v.n, sV c.v.s, .slice c.v.la c.v.ln c.v.lc, .slice c.v.fa c.v.fn c.v.fc] 58)
      have oN : Own (wr.alloc (.cells #[sV c.x, .int .i64 c.v.k, .int .i64 c.v.n, sV c.v.s, .slice c.v.la c.v.ln c.v.lc, .slice c.v.fa c.v.fn c.v.fc] 58)) wr.heap.size (FC.cells c) 58 := Own.new _ _ _
      have hownA := hown.alloc (.cells #[sV c.x, .int .i64 c.v.k, .int .i64 c.v.n, sV c.v.s, .slice c.v.la c.v.ln c.v.lc, .slice c.v.fa c.v.fn c.v.fc] 58)
      have hwr := hb.size
      go_wp2
      clear q q0 q1 q2 q3 q4
      change Code.wp Tryz.prog _ _ _ (wr.alloc (.cells #[sV c.x, .int .i64 c.v.k, .int .i64 c.v.n, sV c.v.s, .slice c.v.la c.v.ln c.v.lc, .slice c.v.fa c.v.fn c.v.fc] 58))
      have hVs : w2.heap.size < (wr.alloc (.cells #[sV c.x, .int .i64 c.v.k, .int .i64 c.v.n, sV c.v.s, .slice c.v.la c.v.ln c.v.lc, .slice c.v.fa c.v.fn c.v.fc] 58)).heap.size := by rw [size_alloc]; omega
      generalize wr.alloc (.cells #[sV c.x, .int .i64 c.v.k, .int .i64 c.v.n, sV c.v.s, .slice c.v.la c.v.ln c.v.lc, .slice c.v.fa c.v.fn c.v.fc] 58) = V at *
      have z0 := cell_regrown (oN.cell (i := 0) rfl)
      by_cases hlast : k + 1 = cs.length
      · have hl1 : ((k : Int) + 1 == (cs.length : Int)) = true := by rw [beq_iff_eq]; omega
        have HB : Hid (keepTo L (k + 1) = R ++ [c]) := Lib.hid (by rw [HKT.out, HKB.out, decide_eq_true hlast]; rfl)
        refine wp_region_quiet_below (by kernel_rfl) (by kernel_rfl) ?_
        repeat (first | go_big_quiet_step (fail) | quiet_step (fail))
        refine wpQuiet_nil ?_
        intro _ hw'
        obtain ⟨⟨dq, osq⟩, hw''⟩ := hw'
        subst hw''
        have hbU := hbb.trans ((below_regrown V dq osq).mono (by omega))
        have hownU := own_below hownA (below_regrown V dq osq)
        have oU := oN.all (below_regrown V dq osq)
        have hUs := (below_regrown V dq osq).size
        clear z0 hownA hbb oN
        generalize grow (redrawn V dq) osq = U at *
        have u0 := oU.cell (i := 0) rfl
        have u1 := oU.cell (i := 1) rfl
        have u2 := oU.cell (i := 2) rfl
        have u3 := oU.cell (i := 3) rfl
        have u4 := oU.cell (i := 4) rfl
        have u5' := oU.cell (i := 5) rfl
        clear oU
        go_wp2_with (first | (at_builtin; refine wpList_append_own _ rfl (.tmp 34) (.tmp 36) 23 rfl w2.heap.size 58 i35 (.agg #[.string ⟨#[]⟩, .int .i64 0, .int .i64 0, .string ⟨#[]⟩, .slice none 0 0, .slice none 0 0]) 6 96 Tryz.underlying23 hi35 hzi35 hsi35 hyi35 rfl (by decide) _ _ _ rfl (hownU.alloc _) ⟨U.heap.size, 0, none⟩ 1 1 (FC.cells c) rfl rfl (cell_six_new _ _ _) (six_one c) (by unfold maxLen; omega) (by omega) (by simp; omega) ?_; intro v' w5 hown5 hgrow5 hnil5))
        go_roundg (cs.length - (k + 1))
        case measure => have := HG.out; omega
        case rel => exact ⟨k + 1, by omega, rfl, by go_num, below_grown (hbU.trans ((below_alloc U _).mono (by omega))) hgrow5 (by rw [size_alloc]; omega) (own_row hownU), by rw [HB.out, flatMap_snoc, List.length_append]; exact hown5⟩
      · have hl1 : ((k : Int) + 1 == (cs.length : Int)) = false := by rw [beq_eq_false_iff_ne]; omega
        have y0 := cell_regrown (Own.fieldAt (R0.out.2.1.all hbb) (hy (by omega))).1
        cases hq : (d.x == c.x)
        · have HB : Hid (keepTo L (k + 1) = R ++ [c]) := Lib.hid (by rw [HKT.out, HKB.out, hq]; simp)
          refine wp_region_quiet_below (by kernel_rfl) (by kernel_rfl) ?_
          repeat (first | go_big_quiet_step (fail) | quiet_step (fail))
          refine wpQuiet_nil ?_
          intro _ hw'
          obtain ⟨⟨dq, osq⟩, hw''⟩ := hw'
          subst hw''
          clear y0
          have hbU := hbb.trans ((below_regrown V dq osq).mono (by omega))
          have hownU := own_below hownA (below_regrown V dq osq)
          have oU := oN.all (below_regrown V dq osq)
          have hUs := (below_regrown V dq osq).size
          clear z0 hownA hbb oN
          generalize grow (redrawn V dq) osq = U at *
          have u0 := oU.cell (i := 0) rfl
          have u1 := oU.cell (i := 1) rfl
          have u2 := oU.cell (i := 2) rfl
          have u3 := oU.cell (i := 3) rfl
          have u4 := oU.cell (i := 4) rfl
          have u5' := oU.cell (i := 5) rfl
          clear oU
          go_wp2_with (first | (at_builtin; refine wpList_append_own _ rfl (.tmp 34) (.tmp 36) 23 rfl w2.heap.size 58 i35 (.agg #[.string ⟨#[]⟩, .int .i64 0, .int .i64 0, .string ⟨#[]⟩, .slice none 0 0, .slice none 0 0]) 6 96 Tryz.underlying23 hi35 hzi35 hsi35 hyi35 rfl (by decide) _ _ _ rfl (hownU.alloc _) ⟨U.heap.size, 0, none⟩ 1 1 (FC.cells c) rfl rfl (cell_six_new _ _ _) (six_one c) (by unfold maxLen; omega) (by omega) (by simp; omega) ?_; intro v' w5 hown5 hgrow5 hnil5))
          go_roundg (cs.length - (k + 1))
          case measure => have := HG.out; omega
          case rel => exact ⟨k + 1, by omega, rfl, by go_num, below_grown (hbU.trans ((below_alloc U _).mono (by omega))) hgrow5 (by rw [size_alloc]; omega) (own_row hownU), by rw [HB.out, flatMap_snoc, List.length_append]; exact hown5⟩
        · have HB : Hid (keepTo L (k + 1) = R) := Lib.hid (by rw [HKT.out, HKB.out, hq, decide_eq_false hlast]; rfl)
          refine wp_region_quiet_below (by kernel_rfl) (by kernel_rfl) ?_
          repeat (first | go_big_quiet_step (fail) | quiet_step (fail))
          refine wpQuiet_nil ?_
          intro _ hw'
          obtain ⟨⟨dq, osq⟩, hw''⟩ := hw'
          subst hw''
          have hbU := hbb.trans ((below_regrown V dq osq).mono (by omega))
          have hownU := own_below hownA (below_regrown V dq osq)
          clear y0 z0 hownA hbb
          go_wp2
          go_roundg (cs.length - (k + 1))
          case measure => have := HG.out; omega
          case rel => exact ⟨k + 1, by omega, rfl, by go_num, hbU, by rw [HB.out]; exact hownU⟩
    · obtain rfl : k = cs.length := by omega
      have hkd : keepTo L cs.length = dd L := by rw [← hl2]; exact keepTo_dd L
      rw [hkd] at hown
      obtain ⟨K, hK⟩ : ∃ K, K = dd L := ⟨_, rfl⟩
      have HK := Lib.hid hK
      rw [← hK] at hown
      have hKl : K.length ≤ 4000 := by rw [hK, ← hkd]; have := keepTo_len L cs.length; omega
      clear hkd hK
      have hF := Flat.of_own hown
      obtain ⟨ao2, cap2, hu, hlc2, hcap2, -⟩ := hF.out
      subst hu
      have hbz := hb.size
      obtain ⟨hbw2, o2, oR2⟩ := R0.out
      have hbF := below_next hbw2 hbw2.size hb
      have oRF := oR2.all hb
      have hIK : ∀ c ∈ K, Is wr c.v (f c).2 ∧ (f c).2.size ≤ 4000 := fun c hc => by
        have h1 : c ∈ cs := HL.out.2.mem (dd_mem (by rw [← HK.out]; exact hc))
        exact ⟨(HF.out.2.1 c h1).all hbF, HF.out.2.2.2 _ (by rw [← HF.out.2.2.1]; exact List.mem_map_of_mem h1)⟩
      have CC := Lib.hid (copyFields_of (K.map f) (fun i p hp c w h => copy_any p.2 (by
          obtain ⟨c', hc', rfl⟩ := List.mem_map.1 (List.mem_of_getElem? hp)
          exact (hIK c' hc').2) c w h) _ wr (flds_map f HF.out.1 (fun c hc => (hIK c hc).1) hF) (by simpa using hKl))
      clear hIK
      have hRlt := oR2.lt
      clear R0 hF hown hbw2 o2 oR2 HG hb
      generalize wr = W3 at *
      go_wp2_with fail
      refine CC.out.mono ?_
      rintro e w4 ⟨v4, rfl, hbw4, hNF⟩
      obtain ⟨fa4, fn4, fc4, rfl⟩ := hNF.slice
      have oR4 := oRF.all hbw4
      have hbE := below_all hbF hbw4
      have hw3 := hbF.size
      have r0 : w4.cell? ⟨w.heap.size, 0, none⟩ = some (.int .i64 0) := oR4.cell rfl
      have r1 : w4.cell? ⟨w.heap.size, 1, none⟩ = some (.int .i64 0) := oR4.cell rfl
      have r2 : w4.cell? ⟨w.heap.size, 2, none⟩ = some (.string ⟨#[]⟩) := oR4.cell rfl
      have r3 : w4.cell? ⟨w.heap.size, 3, none⟩ = some (.slice none 0 0) := oR4.cell rfl
      have r4 : w4.cell? ⟨w.heap.size, 4, none⟩ = some (.slice none 0 0) := oR4.cell rfl
      have f0 := oR4.frozen 0
      have f1 := oR4.frozen 1
      have f2 := oR4.frozen 2
      have f3 := oR4.frozen 3
      have f4 := oR4.frozen 4
      have HO := Lib.hid (And.intro hbE (And.intro oR4 hNF))
      clear hbE oR4 hNF oRF hbF hbw4 CC
      go_wp2
      obtain ⟨hbE, oR4, hNF⟩ := HO.out
      have oS := ((((oR4.set 0 (.int .i64 5)).set 1 (.int .i64 0)).set 2 (.string ⟨#[]⟩)).set 3 (.slice none 0 0)).set 4 (.slice fa4 fn4 fc4)
      have hbS := below_set (below_set (below_set (below_set (below_set hbE (Nat.le_refl w.heap.size) (i := 0) (.int .i64 5)) (Nat.le_refl _) (i := 1) (.int .i64 0)) (Nat.le_refl _) (i := 2) (.string ⟨#[]⟩)) (Nat.le_refl _) (i := 3) (.slice none 0 0)) (Nat.le_refl _) (i := 4) (.slice fa4 fn4 fc4)
      have hNS := ((((hNF.set (b := w.heap.size) (by omega) 0 (.int .i64 5)).set (b := w.heap.size) (by omega) 1 (.int .i64 0)).set (b := w.heap.size) (by omega) 2 (.string ⟨#[]⟩)).set (b := w.heap.size) (by omega) 3 (.slice none 0 0)).set (b := w.heap.size) (by omega) 4 (.slice fa4 fn4 fc4)
      clear r0 r1 r2 r3 r4 f0 f1 f2 f3 f4 hbE oR4 hNF HO
      generalize ((((w4.setCell ⟨w.heap.size, 0, none⟩ (.int .i64 5)).setCell ⟨w.heap.size, 1, none⟩ (.int .i64 0)).setCell ⟨w.heap.size, 2, none⟩ (.string ⟨#[]⟩)).setCell ⟨w.heap.size, 3, none⟩ (.slice none 0 0)).setCell ⟨w.heap.size, 4, none⟩ (.slice fa4 fn4 fc4) = U at *
      have c0 : U.cell? ⟨w.heap.size, 0, none⟩ = some (.int .i64 5) := oS.cell rfl
      have c1 : U.cell? ⟨w.heap.size, 1, none⟩ = some (.int .i64 0) := oS.cell rfl
      have c2 : U.cell? ⟨w.heap.size, 2, none⟩ = some (.string ⟨#[]⟩) := oS.cell rfl
      have c3 : U.cell? ⟨w.heap.size, 3, none⟩ = some (.slice none 0 0) := oS.cell rfl
      have c4 : U.cell? ⟨w.heap.size, 4, none⟩ = some (.slice fa4 fn4 fc4) := oS.cell rfl
      exact bodyPost_ret (v := .agg #[.int .i64 5, .int .i64 0, .string ⟨#[]⟩, .slice none 0 0, .slice fa4 fn4 fc4]) (by simp [results, Tryz.results157, go_sem, c0, c1, c2, c3, c4]) rfl ⟨⟨5, 0, [], none, 0, 0, fa4, fn4, fc4⟩, K.map f, rfl, hbS, isA_map hNS (by omega), by have := dd_map f HF.out.1 HL.out.1 HL.out.2; rw [HF.out.2.2.1, ← HK.out] at this; exact this, hNS.lower (by omega)⟩
end Go.Proofs.YtjpmnlefjmdelaaGreatDoor
