/- The contract of readSelector. -/
import Derived.Test.YtfohhokdcobhjaaDoorXe
import Derived.Deep.AppendLies
namespace Go.Proofs.YtfohhokdcobhjaaDoor
open Go.RowKit Go.Sort Go.Proofs.LawFrame

/-- the values of c lie away from p and from what lies below lo -/
def Far (w : World) (lo : Nat) (p : Value) (c : RC) : Prop := 0 < c.n → ∀ b, (Value.slice c.ao c.n c.cap).ownBlock = some b → lo ≤ b ∧ b < w.heap.size ∧ p.ownBlock ≠ some b
theorem Flat.kept' {w w' : World} {v : Value} {n : Nat} {xs : List Value} {row : Option Nat} (h : Flat w v n xs) (hg : w.grownBy w' row) (hne : 0 < n → ∀ b, v.ownBlock = some b → some b ≠ row) : Flat w' v n xs := by
  by_cases hn : 0 < n
  · refine h.kept hg ?_
    cases hv : v.ownBlock with
    | none => exact Or.inl rfl
    | some b => exact Or.inr (hne hn b hv)
  · obtain ⟨ao, cap, rfl, h2, h3, -⟩ := h.out
    exact ⟨ao, cap, rfl, h2, h3, fun h => absurd h hn⟩
theorem flat_lt {w : World} {v : Value} {n : Nat} {xs : List Value} (h : Flat w v n xs) (hn : 0 < n) : ∀ b, v.ownBlock = some b → b < w.heap.size := by
  obtain ⟨ao, cap, rfl, h2, h3, h4⟩ := h.out
  obtain ⟨b, off, rfl, h6, -⟩ := h4 hn
  intro b' hb'
  cases hb'
  exact h6
theorem RIs.n_eq {w : World} {c : RC} {r : Req} (h : RIs w c r) : c.n = r.vals.length := by
  obtain ⟨ao, cap, h1, -⟩ := h.vals.out
  cases c; cases h1; rfl
theorem RIs.kept {w w' : World} {c : RC} {r : Req} {row : Option Nat} (h : RIs w c r) (hg : w.grownBy w' row) (hne : 0 < c.n → ∀ b, (Value.slice c.ao c.n c.cap).ownBlock = some b → some b ≠ row) : RIs w' c r :=
  ⟨h.key, h.op, h.vals.kept' hg (by rw [← h.n_eq]; exact hne)⟩
/-- the cells cs are the requirements acc, away from p -/
structure AccK (lo : Nat) (p : Value) (w : World) (cs : List RC) (acc : List Req) : Prop where
  len : cs.length = acc.length
  all : ∀ (k : Nat) (c : RC) (r : Req), cs[k]? = some c → acc[k]? = some r → RIs w c r ∧ Far w lo p c
theorem AccK.nil (lo : Nat) (p : Value) (w : World) : AccK lo p w [] [] := ⟨rfl, fun k c r h => by simp at h⟩
theorem AccK.grown {lo : Nat} {p : Value} {w w' : World} {cs : List RC} {acc : List Req} {rb : Nat} (h : AccK lo p w cs acc) (hg : w.grownBy w' (some rb)) (hr : rb < lo) : AccK lo p w' cs acc :=
  ⟨h.len, fun k c r hc hr' => by
    obtain ⟨h1, h2⟩ := h.all k c r hc hr'
    exact ⟨h1.kept hg (fun hn b hb e => by cases e; have := (h2 hn _ hb).1; omega), fun hn b hb => by
      obtain ⟨a1, a2, a3⟩ := h2 hn b hb
      exact ⟨a1, Nat.lt_of_lt_of_le a2 hg.size, a3⟩⟩⟩
theorem AccK.below {lo : Nat} {p : Value} {w w' : World} {cs : List RC} {acc : List Req} (h : AccK lo p w cs acc) (hb : Below w.heap.size w w') : AccK lo p w' cs acc :=
  ⟨h.len, fun k c r hc hr' => by
    obtain ⟨h1, h2⟩ := h.all k c r hc hr'
    exact ⟨h1.all hb, fun hn b hb' => by
      obtain ⟨a1, a2, a3⟩ := h2 hn b hb'
      exact ⟨a1, Nat.lt_of_lt_of_le a2 hb.size, a3⟩⟩⟩
theorem AccK.snoc {lo : Nat} {p : Value} {w : World} {cs : List RC} {acc : List Req} {c : RC} {r : Req} (h : AccK lo p w cs acc) (h1 : RIs w c r) (h2 : Far w lo p c) : AccK lo p w (cs ++ [c]) (acc ++ [r]) := by
  refine ⟨by rw [List.length_append, List.length_append, h.len]; rfl, fun k c' r' hc hr => ?_⟩
  have hlen := h.len
  by_cases hk : k < cs.length
  · rw [List.getElem?_append_left hk] at hc
    rw [List.getElem?_append_left (by omega)] at hr
    exact h.all k c' r' hc hr
  · have hk2 : k = cs.length := by have := (List.getElem?_eq_some_iff.1 hc).1; simp at this; omega
    rw [hk2, List.getElem?_append_right (Nat.le_refl _), Nat.sub_self] at hc
    rw [hk2, h.len, List.getElem?_append_right (Nat.le_refl _), Nat.sub_self] at hr
    cases hc; cases hr
    exact ⟨h1, h2⟩
theorem AccK.append {lo : Nat} {p : Value} {w w' : World} {cs : List RC} {acc : List Req} {g n cap : Nat} (h : AccK lo p w cs acc) (hg : w.grownBy w' p.ownBlock) (hl : p.ownBlock = some g ∨ g = w.heap.size) : AccK lo (.slice (some ⟨g, 0, none⟩) n cap) w' cs acc :=
  ⟨h.len, fun k c r hc hr' => by
    obtain ⟨h1, h2⟩ := h.all k c r hc hr'
    refine ⟨h1.kept hg (fun hn b hb e => (h2 hn b hb).2.2 e.symm), fun hn b hb => ?_⟩
    obtain ⟨a1, a2, a3⟩ := h2 hn b hb
    refine ⟨a1, Nat.lt_of_lt_of_le a2 hg.size, fun e => ?_⟩
    cases e
    rcases hl with hl | hl
    · exact a3 hl
    · have a2' : g < w.heap.size := a2
      omega⟩
theorem AccK.reqs {lo base n : Nat} {p : Value} {w : World} {cs : List RC} {acc : List Req} (h : AccK lo p w cs acc) (ho : w.ownsRow base 43 3 p n (cs.flatMap RC.cells)) (hn : n = acc.length) : Reqs w p acc := by
  subst hn
  exact ⟨cs, h.len, Flat.of_own ho, fun k c r hc hr => (h.all k c r hc hr).1⟩
theorem reqs_nil (w : World) : Reqs w (.slice none 0 0) [] := ⟨[], rfl, Flat.nil _ _ _ (Nat.zero_le _) _, fun k c r h => by simp at h⟩
end Go.Proofs.YtfohhokdcobhjaaDoor
