/- Contracts of Clone. -/
import Derived.Test.YtfohhokdcobhjaaDoorWp
import Derived.Test.YtfohhokdcobhjaaDoorRr
namespace Go.Proofs.YtfohhokdcobhjaaDoor
open Go.RowKit Go.Sort Go.Proofs.LawFrame

theorem labC_len (l : List Lab) : (l.flatMap labC).length = l.length * 2 := by
  induction l with
  | nil => rfl
  | cons a t ih => rw [List.flatMap_cons, List.length_append, ih, List.length_cons, Nat.succ_mul]; show 2 + _ = _; omega
theorem labC_one {l : List Lab} : ∀ u ∈ l.flatMap labC, u.oneCell' = true := by
  intro u hu
  obtain ⟨p, -, hp⟩ := List.mem_flatMap.1 hu
  simp [labC] at hp
  rcases hp with rfl | rfl <;> rfl

set_option maxRecDepth 4000 in
set_option maxHeartbeats 1000000 in
theorem clone_any (v : Value) (l : List Lab) (w : World) (hv : Labs w v l) (hl : l.length ≤ 1000) :
    Calls Tryd.prog 36 #[v] w fun e w' => ∃ cv, e = .returned cv ∧ w'.ownsRow w.heap.size 45 2 cv l.length (l.flatMap labC) ∧ Below w.heap.size w w' := by
  obtain ⟨ao, cap, rfl, hlc, hcap, hr⟩ := hv.out
  unfold maxLen at hcap
  obtain ⟨i45, hi45, hzi45, hsi45, hyi45⟩ := info_parts info45
  have hnil : ∀ (w : World) (a : Option Addr) (n c : Nat), (binOp .eql 22 (.slice a n c) (.slice none 0 0)).run Tryd.prog w = .ok (.bool a.isNone) w := fun w a n c => Lib.run_eql_slice_nil w 22 45 a n c 0 0 Tryd.underlying22
  cases ao with
  | none =>
    have h0 : l.length = 0 := by
      rcases Nat.eq_zero_or_pos l.length with h | h
      · exact h
      · obtain ⟨b, off, h2, -⟩ := hr h; cases h2
    have hq : l = [] := List.eq_nil_of_length_eq_zero h0
    subst hq
    go_enter Tryd.func36, Tryd.ntmps36
    go_wp2
    go_ret
    exact ⟨_, rfl, own_nil _ _ _ _, Below.refl _ _⟩
  | some ad =>
    have hcells : ∀ j u, (l.flatMap labC)[j]? = some u → w.cell? (ad.add j) = some u := by
      intro j u hu
      have hp : 0 < l.length := by
        rcases Nat.eq_zero_or_pos l.length with h | h
        · have hq : l = [] := List.eq_nil_of_length_eq_zero h
          subst hq; simp at hu
        · exact h
      obtain ⟨b, off, he, -, hc⟩ := hr hp
      cases he
      rw [Addr.add_lit]
      exact hc j u hu
    have hrow : (w.alloc (.cells #[] 45)).ownsRow w.heap.size 45 2 (.slice (some ⟨w.heap.size, 0, none⟩) 0 0) 0 [] := ⟨by simp, Or.inr ⟨w.heap.size, 0, #[], rfl, Nat.le_refl _, Own.new w [] 45, Nat.le_refl _, Nat.zero_le _, by simp, by simp⟩⟩
    have hcells2 : ∀ j u, (l.flatMap labC)[j]? = some u → (w.alloc (.cells #[] 45)).cell? (ad.add j) = some u := fun j u hu => Lib.cell?_alloc_some _ (hcells j u hu)
    have hfl := labC_len l
    go_enter Tryd.func36, Tryd.ntmps36
    go_wp2_with (at_builtin; refine wpList_append_own _ rfl (.tmp 5) (.tmp 6) 22 rfl w.heap.size 45 i45 (.agg #[.string ⟨#[]⟩, .string ⟨#[]⟩]) 2 32 Tryd.underlying22 hi45 hzi45 hsi45 hyi45 rfl (by decide) _ 0 [] rfl hrow ad l.length cap (l.flatMap labC) rfl hfl hcells2 labC_one (by unfold maxLen; omega) (by omega) (by simp) ?_; intro v' w5 hown5 hgrow5 hnil5)
    go_ret
    exact ⟨v', rfl, by simpa using hown5, below_grown (below_alloc _ _) hgrow5 (by simp) (fun k h => by cases h; exact Nat.le_refl _)⟩
end Go.Proofs.YtfohhokdcobhjaaDoor
