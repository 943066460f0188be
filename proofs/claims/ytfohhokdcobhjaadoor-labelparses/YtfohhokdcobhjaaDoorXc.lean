/- Contracts of Sort and Compact over rows of the call's own. -/
import Derived.Test.YtfohhokdcobhjaaDoorXb
import Derived.Sort.OwnSorted
namespace Go.Proofs.YtfohhokdcobhjaaDoor
open Go.RowKit Go.Sort Go.Proofs.LawFrame

def sortS (l : List Str) : List Str := l.mergeSort fun x y => decide (x ≤ y)

theorem enc_eq (l : List Str) : l.map encStr = l.map sV := rfl

theorem own_form {w : World} {base n : Nat} {v : Value} {xs : List Value} (h : w.ownsRow base 9 1 v n xs) (hn : 0 < n) : ∃ g cap, v = .slice (some ⟨g, 0, none⟩) n cap := by
  rcases h.2 with ⟨-, h⟩ | ⟨g, cap, cur, h, -⟩
  · omega
  · exact ⟨g, cap, h⟩

theorem sort_own (v : Value) (ss : List Str) (base : Nat) (w : World) (hown : w.ownsRow base 9 1 v ss.length (ss.map sV)) (hn : 0 < ss.length) (hb : ss.length ≤ 1000000) :
    Calls Tryd.prog 85 #[v] w fun e w' => e = .returned (.tuple #[]) ∧ w'.ownsRow base 9 1 v ss.length ((sortS ss).map sV) ∧ w.grownBy w' v.ownBlock := by
  rcases hown.2 with ⟨-, h⟩ | ⟨g, cap, cur, rfl, hbase, hb', h1, h2, h3, h4⟩
  · omega
  · have hg : g < w.heap.size := (Array.getElem?_eq_some_iff.1 hb').1
    refine (Tryd.slices_Sort_string g 0 cap ss w (holds_of_block hb' (by simpa using h4)) hg (by omega)).mono ?_
    rintro e w' ⟨rfl, n, os, rfl⟩
    exact ⟨rfl, ownsRow_sorted (by simp [sortS]) hbase hb' h1 h2 h3, grownBy_sorted _⟩

theorem grow_nil (w : World) : grow w #[] = w := by unfold grow; simp

theorem compact_own (v : Value) (ss : List Str) (base : Nat) (w : World) (hown : w.ownsRow base 9 1 v ss.length (ss.map sV)) (hn : 0 < ss.length) (hb : ss.length ≤ 1000000) (hc : (Lib.compact ss).length ≤ ss.length) :
    Calls Tryd.prog 86 #[v] w fun e w' => ∃ v', e = .returned v' ∧ w'.ownsRow base 9 1 v' (Lib.compact ss).length ((Lib.compact ss).map sV) ∧ w.grownBy w' v.ownBlock ∧ v'.ownBlock = v.ownBlock := by
  rcases hown.2 with ⟨-, h⟩ | ⟨g, cap, cur, rfl, hbase, hb', h1, h2, h3, h4⟩
  · omega
  · refine (Tryd.slices_Compact_string g 0 cap ss w (holds_of_block hb' (by simpa using h4)) (by omega) h1).mono ?_
    rintro e w' ⟨rfl, q, rfl⟩
    refine ⟨_, rfl, ?_, ?_, rfl⟩
    · have hl : (Lib.compact ss ++ List.replicate (ss.length - (Lib.compact ss).length) []).length = ss.length := by rw [List.length_append, List.length_replicate]; omega
      have := ownsRow_sorted (n := q) (os := #[]) hl hbase hb' h1 h2 h3
      rw [grow_nil] at this
      obtain ⟨cur2, o1, o2, o3, o4, o5, o6, o7⟩ := own_cur this
      refine own_mk o1 o2 (by omega) o4 o5 ?_
      have h6 : List.take ((Lib.compact ss).length * 1) cur2 = List.take ((Lib.compact ss).length * 1) (List.map encStr (Lib.compact ss ++ List.replicate (ss.length - (Lib.compact ss).length) [])) := by
        rw [← o6, List.take_take, Nat.min_eq_left (by omega)]
      rw [h6, Nat.mul_one, List.map_append, List.take_append_of_le_length (by simp), List.take_of_length_le (by simp)]
    · have := grownBy_sorted (w := w) (g := g) (n := q) (os := #[]) (Lib.compact ss ++ List.replicate (ss.length - (Lib.compact ss).length) []).toArray
      rw [grow_nil] at this
      exact this
end Go.Proofs.YtfohhokdcobhjaaDoor
