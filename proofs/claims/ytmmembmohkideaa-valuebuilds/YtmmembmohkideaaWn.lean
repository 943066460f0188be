/- The contract of slices.Clone at fields. -/
import Derived.Test.YtmmembmohkideaaPa
import Derived.Test.YtmmembmohkideaaWm
import Derived.Lib.SliceRun
namespace Go.Proofs.Ytmmembmohkideaa
open Go.RowKit Go.Sort Go.Proofs.LawFrame

theorem fc_one (cs : List FC) : ∀ v ∈ cs.flatMap FC.cells, v.oneCell' = true := by
  intro v hv
  rw [List.mem_flatMap] at hv
  obtain ⟨c, -, hc⟩ := hv
  simp at hc
  rcases hc with rfl | rfl | rfl | rfl | rfl | rfl <;> rfl
set_option maxHeartbeats 2000000 in
set_option maxRecDepth 4000 in
theorem clone_any (v : Value) (cs : List FC) (w : World) (hv : Flat w v cs.length (cs.flatMap FC.cells)) (hn : cs.length ≤ 1000) :
    Calls Try.prog 48 #[v] w fun e w' => ∃ cv, e = .returned cv ∧ w'.ownsRow w.heap.size 35 6 cv cs.length (cs.flatMap FC.cells) ∧ Below w.heap.size w w' := by
  obtain ⟨ao, cap, rfl, hlc, hcap, hr⟩ := hv.out
  unfold maxLen at hcap
  obtain ⟨i35, hi35, hzi35, hsi35, hyi35⟩ := info_parts info35
  have hnil : ∀ (w : World) (a : Option Addr) (n c : Nat), (binOp .eql 23 (.slice a n c) (.slice none 0 0)).run Try.prog w = .ok (.bool a.isNone) w := fun w a n c => Lib.run_eql_slice_nil w 23 35 a n c 0 0 Try.underlying23
  cases ao with
  | none =>
    have h0 : cs.length = 0 := by
      rcases Nat.eq_zero_or_pos cs.length with h | h
      · exact h
      · obtain ⟨b, off, h2, -⟩ := hr h; cases h2
    have hq : cs = [] := List.eq_nil_of_length_eq_zero h0
    subst hq
    go_enter Try.func48, Try.ntmps48
    go_wp2
    go_ret
    exact ⟨_, rfl, own_nil _ _ _ _, Below.refl _ _⟩
  | some ad =>
    have hcells : ∀ j u, (cs.flatMap FC.cells)[j]? = some u → w.cell? (ad.add j) = some u := by
      intro j u hu
      have hp : 0 < cs.length := by
        rcases Nat.eq_zero_or_pos cs.length with h | h
        · have hq : cs = [] := List.eq_nil_of_length_eq_zero h
          subst hq; simp at hu
        · exact h
      obtain ⟨b, off, he, -, hc⟩ := hr hp
      cases he
      rw [Addr.add_lit]
      exact hc j u hu
    have hrow : (w.alloc (.cells #[] 35)).ownsRow w.heap.size 35 6 (.slice (some ⟨w.heap.size, 0, none⟩) 0 0) 0 [] := ⟨by simp, Or.inr ⟨w.heap.size, 0, #[], rfl, Nat.le_refl _, Own.new w [] 35, Nat.le_refl _, Nat.zero_le _, by simp, by simp⟩⟩
    have hcells2 : ∀ j u, (cs.flatMap FC.cells)[j]? = some u → (w.alloc (.cells #[] 35)).cell? (ad.add j) = some u := fun j u hu => Lib.cell?_alloc_some _ (hcells j u hu)
    have hfl := flat_length FC.cells (m := 6) (fun _ => rfl) cs
    have hone := fc_one cs
    go_enter Try.func48, Try.ntmps48
    go_wp2_with (at_builtin; refine wpList_append_own _ rfl (.tmp 5) (.tmp 6) 23 rfl w.heap.size 35 i35 (.agg #[.string ⟨#[]⟩, .int .i64 0, .int .i64 0, .string ⟨#[]⟩, .slice none 0 0, .slice none 0 0]) 6 96 Try.underlying23 hi35 hzi35 hsi35 hyi35 rfl (by decide) _ 0 [] rfl hrow ad cs.length cap (cs.flatMap FC.cells) rfl hfl hcells2 hone (by unfold maxLen; omega) (by omega) (by simp) ?_; intro v' w5 hown5 hgrow5 hnil5)
    go_ret
    exact ⟨v', rfl, by simpa using hown5, below_grown (below_alloc _ _) hgrow5 (by simp) (fun k h => by cases h; exact Nat.le_refl _)⟩
end Go.Proofs.Ytmmembmohkideaa
