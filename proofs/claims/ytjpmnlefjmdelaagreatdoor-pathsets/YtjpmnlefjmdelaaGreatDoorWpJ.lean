/- Contracts of the stable sort at few fields, and of the copies of leaves. The contract of copyFields at fields whose values are leaves. The contract of Map at few fields whose values are leaves. -/
import Derived.Test.YtjpmnlefjmdelaaGreatDoorWmJ
set_option linter.unusedSimpArgs false
set_option linter.unusedVariables false
namespace Go.Proofs.YtjpmnlefjmdelaaGreatDoor
open Go.RowKit Go.Sort Go.Proofs.LawFrame

set_option maxHeartbeats 400000 in
theorem copyFields_empty (ao : Option Addr) (cap : Nat) (w : World) : Calls Tryz.prog 185 #[.slice ao 0 cap] w fun e w' => e = .returned (.slice none 0 0) ∧ w = w' := by
  go_enter Tryz.func185, Tryz.ntmps185
  go_wp2
  go_ret
  exact ⟨rfl, rfl⟩
end Go.Proofs.YtjpmnlefjmdelaaGreatDoor
namespace Go.Proofs.YtjpmnlefjmdelaaGreatDoor
open Go.RowKit Go.Sort Go.Proofs.LawFrame

/-- a field without list and fields -/
def FC.bare (c : FC) : FC := ⟨c.x, ⟨c.v.k, c.v.n, c.v.s, none, 0, 0, none, 0, 0⟩⟩

end Go.Proofs.YtjpmnlefjmdelaaGreatDoor
namespace Go.Proofs.YtjpmnlefjmdelaaGreatDoor
open Go.RowKit Go.Sort Go.Proofs.LawFrame

def keepB (l : List FC) (k : Nat) : Bool := decide (k + 1 = l.length) || !((l.getD (k + 1) FC0).x == (l.getD k FC0).x)
def keepTo (l : List FC) : Nat → List FC
  | 0 => []
  | k + 1 => if keepB l k then keepTo l k ++ [l.getD k FC0] else keepTo l k
theorem keepTo_len (l : List FC) (k : Nat) : (keepTo l k).length ≤ k := by
  induction k with
  | zero => simp [keepTo]
  | succ k ih =>
    rw [keepTo]; split
    · rw [List.length_append]; simp; exact ih
    · omega
theorem Own.but {w w' : World} {b b' : Nat} {cs : List Value} {t : TypeId} (h : Own w b' cs t) (hb : But b w w') (hne : b' ≠ b) : Own w' b' cs t := by
  show w'.heap[b']? = _
  rw [hb.block b' h.lt hne]; exact h
theorem flatMap_snoc (l : List FC) (c : FC) : (l ++ [c]).flatMap FC.cells = l.flatMap FC.cells ++ FC.cells c := by simp
theorem cell_six_new (w : World) (c : FC) (t : TypeId) : ∀ j u, (FC.cells c)[j]? = some u → (w.alloc (.cells #[sV c.x, .int .i64 c.v.k, .int .i64 c.v.n, sV c.v.s, .slice c.v.la c.v.ln c.v.lc, .slice c.v.fa c.v.fn c.v.fc] t)).cell? ((⟨w.heap.size, 0, none⟩ : Addr).add j) = some u := by
  intro j u h
  have o := Own.new w (FC.cells c) t
  have := o.cell h
  rw [Addr.add_lit, Nat.zero_add]
  exact this
theorem six_one (c : FC) : ∀ v ∈ FC.cells c, v.oneCell' = true := by
  intro v hv; simp at hv; rcases hv with rfl | rfl | rfl | rfl | rfl | rfl <;> rfl

end Go.Proofs.YtjpmnlefjmdelaaGreatDoor
