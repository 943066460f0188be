/- Lists and maps, printed. Maps, printed. Values, printed. -/
import Derived.Test.YtjpmnlefjmdelaaGreatDoorNaJ
import Derived.Test.YtjpmnlefjmdelaaGreatDoorShelf
import Derived.Lib.LaidTab
import Derived.Lib.ItoaLen
import Derived.Test.YtjpmnlefjmdelaaGreatDoorCaJ
set_option linter.unusedSimpArgs false
set_option linter.unusedVariables false
namespace Go.Proofs.YtjpmnlefjmdelaaGreatDoor
open Go.RowKit Go.Sort Go.Proofs.LawFrame

def Tab (w : World) : Prop := Lib.TabIs Tryz.prog w "internal/strconv.uint64pow10" .u64 Lib.pow10Tab
/-- the state in which a part is printed: the world w0 of the value, the builder behind it -/
structure PrS (w0 : World) (bb : Nat) (l : Str) (w : World) : Prop where
  low : Below w0.heap.size w0 w
  le : w0.heap.size ≤ bb
  bd : Bd bb l w
theorem PrS.next {w0 : World} {bb : Nat} {l l' : Str} {w w' : World} (h : PrS w0 bb l w) (hw : Wr bb w w') (hd : Bd bb l' w') : PrS w0 bb l' w' := ⟨h.low.trans (hw.low.mono h.le), h.le, hd⟩
theorem PrS.all {w0 : World} {bb : Nat} {l : Str} {w w' : World} (h : PrS w0 bb l w) (hb : Below w.heap.size w w') : PrS w0 bb l w' := ⟨h.low.trans (hb.mono (Nat.le_trans h.le (Nat.le_of_lt h.bd.lt))), h.le, h.bd.all hb⟩
end Go.Proofs.YtjpmnlefjmdelaaGreatDoor
namespace Go.Proofs.YtjpmnlefjmdelaaGreatDoor
open Go.RowKit Go.Sort Go.Proofs.LawFrame

end Go.Proofs.YtjpmnlefjmdelaaGreatDoor
namespace Go.Proofs.YtjpmnlefjmdelaaGreatDoor
open Go.RowKit Go.Sort Go.Proofs.LawFrame

theorem gPow : ∃ g, Tryz.prog.globalNamed "internal/strconv.uint64pow10" = some g := ⟨0, by kernel_rfl⟩
theorem Tab.below {w w' : World} (h : Tab w) (hb : Below w.heap.size w w') : Tab w' := by
  obtain ⟨g, hg⟩ := gPow
  unfold Tab Lib.TabIs World.var? at h ⊢
  rw [hg] at h ⊢
  simp only [Option.bind_some] at h ⊢
  have hlt : g < w.heap.size := by
    rcases Nat.lt_or_ge g w.heap.size with h' | h'
    · exact h'
    · rw [Array.getElem?_eq_none h'] at h; cases h
  rw [hb.block g hlt]
  exact h
end Go.Proofs.YtjpmnlefjmdelaaGreatDoor
