/- Contracts of the stable sort at few fields, and of the copies of leaves. -/
import Derived.Test.YtmmembmohkideaaWo
namespace Go.Proofs.Ytmmembmohkideaa
open Go.RowKit Go.Sort Go.Proofs.LawFrame

set_option maxHeartbeats 2000000 in
theorem stable_small (b cap : Nat) (rest : List Value) (l0 : List FC) (w : World) (ho : Own w b (l0.flatMap FC.cells ++ rest) 35) (hn : l0.length < 20) (hcap : l0.length ≤ cap) (hcm : cap ≤ maxLen) :
    Calls Try.prog 64 #[.slice (some ⟨b, 0, none⟩) l0.length cap, .int .i64 (l0.length : Int), .func (.func 50) #[] #[]] w fun en w' => en = .returned (.tuple #[]) ∧ But b w w' ∧ Own w' b ((isort 0 1 (l0.length - 1) l0).flatMap FC.cells ++ rest) 35 ∧ (isort 0 1 (l0.length - 1) l0).length = l0.length := by
  have C := Lib.hid (insertion_any b cap 0 l0.length rest l0 w ho (by omega) (by omega) (Nat.le_refl _) hcap hcm)
  generalize hN : l0.length = n at *
  clear ho
  go_enter Try.func64, Try.ntmps64
  go_wp2
  refine wp_loop_rounds 1 ?_
  rw [rounds_succ]
  go_wp2_with fail
  refine C.out.mono ?_
  rintro e w1 ⟨rfl, h1, h2, h3⟩
  have HH := Lib.hid (And.intro h1 (And.intro h2 h3))
  clear h1 h2 h3
  go_wp2
  refine wp_loop_rounds 1 ?_
  rw [rounds_succ]
  go_wp2
  go_end0
  exact ⟨rfl, HH.out⟩

set_option maxHeartbeats 400000 in
theorem sort_small (b cap : Nat) (rest : List Value) (l0 : List FC) (w : World) (ho : Own w b (l0.flatMap FC.cells ++ rest) 35) (hn : l0.length < 20) (hcap : l0.length ≤ cap) (hcm : cap ≤ maxLen) :
    Calls Try.prog 49 #[.slice (some ⟨b, 0, none⟩) l0.length cap, .func (.func 50) #[] #[]] w fun en w' => en = .returned (.tuple #[]) ∧ But b w w' ∧ Own w' b ((isort 0 1 (l0.length - 1) l0).flatMap FC.cells ++ rest) 35 ∧ (isort 0 1 (l0.length - 1) l0).length = l0.length := by
  have C := Lib.hid (stable_small b cap rest l0 w ho hn hcap hcm)
  clear ho
  go_enter Try.func49, Try.ntmps49
  go_wp2_with fail
  refine C.out.mono ?_
  rintro e w1 ⟨rfl, h1⟩
  have HH := Lib.hid h1
  clear h1
  go_wp2
  go_end0
  exact ⟨rfl, HH.out⟩

set_option maxHeartbeats 400000 in
theorem copyList_empty (ao : Option Addr) (cap : Nat) (w : World) : Calls Try.prog 47 #[.slice ao 0 cap] w fun e w' => e = .returned (.slice none 0 0) ∧ w = w' := by
  go_enter Try.func47, Try.ntmps47
  go_wp2
  go_ret
  exact ⟨rfl, rfl⟩
set_option maxHeartbeats 400000 in
theorem copyFields_empty (ao : Option Addr) (cap : Nat) (w : World) : Calls Try.prog 51 #[.slice ao 0 cap] w fun e w' => e = .returned (.slice none 0 0) ∧ w = w' := by
  go_enter Try.func51, Try.ntmps51
  go_wp2
  go_ret
  exact ⟨rfl, rfl⟩
set_option maxHeartbeats 1000000 in
theorem copyValue_leaf (k n : Int) (s : Str) (la fa : Option Addr) (lc fc : Nat) (w : World) :
    Calls Try.prog 54 #[.agg #[.int .i64 k, .int .i64 n, sV s, .slice la 0 lc, .slice fa 0 fc]] w fun e w' => e = .returned (.agg #[.int .i64 k, .int .i64 n, sV s, .slice none 0 0, .slice none 0 0]) ∧ Below w.heap.size w w' := by
  go_enter Try.func54, Try.ntmps54
  go_wp2_with fail
  refine (copyList_empty _ _ _).mono ?_
  rintro e w' ⟨rfl, rfl⟩
  go_wp2_with fail
  refine (copyFields_empty _ _ _).mono ?_
  rintro e w' ⟨rfl, rfl⟩
  go_wp2
  have hb : Below w.heap.size w ((w.alloc (.cells #[.int .i64 k, .int .i64 n, sV s, .slice none 0 0, .slice none 0 0] 25)).alloc (.cells #[.int .i64 k, .int .i64 n, sV s, .slice none 0 0, .slice none 0 0] 25)) := ((Below.refl _ _).alloc (Nat.le_refl _) _).alloc (by simp) _
  have oR : Own ((w.alloc (.cells #[.int .i64 k, .int .i64 n, sV s, .slice none 0 0, .slice none 0 0] 25)).alloc (.cells #[.int .i64 k, .int .i64 n, sV s, .slice none 0 0, .slice none 0 0] 25)) (w.heap.size + 1) [.int .i64 k, .int .i64 n, sV s, .slice none 0 0, .slice none 0 0] 25 := Own.new_at (by rw [size_alloc]) _ _
  change bodyPost Try.prog Try.f54 _ _ _ ((w.alloc (.cells #[.int .i64 k, .int .i64 n, sV s, .slice none 0 0, .slice none 0 0] 25)).alloc (.cells #[.int .i64 k, .int .i64 n, sV s, .slice none 0 0, .slice none 0 0] 25))
  generalize (w.alloc (.cells #[.int .i64 k, .int .i64 n, sV s, .slice none 0 0, .slice none 0 0] 25)).alloc (.cells #[.int .i64 k, .int .i64 n, sV s, .slice none 0 0, .slice none 0 0] 25) = U at *
  have c0 : U.cell? ⟨w.heap.size + 1, 0, none⟩ = some (.int .i64 k) := oR.cell rfl
  have c1 : U.cell? ⟨w.heap.size + 1, 1, none⟩ = some (.int .i64 n) := oR.cell rfl
  have c2 : U.cell? ⟨w.heap.size + 1, 2, none⟩ = some (sV s) := oR.cell rfl
  have c3 : U.cell? ⟨w.heap.size + 1, 3, none⟩ = some (.slice none 0 0) := oR.cell rfl
  have c4 : U.cell? ⟨w.heap.size + 1, 4, none⟩ = some (.slice none 0 0) := oR.cell rfl
  exact bodyPost_ret (v := .agg #[.int .i64 k, .int .i64 n, sV s, .slice none 0 0, .slice none 0 0]) (by simp [results, Try.results54, go_sem, c0, c1, c2, c3, c4]) rfl ⟨rfl, hb⟩
end Go.Proofs.Ytmmembmohkideaa
