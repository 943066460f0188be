/- Concatenated selectors in memory; the guards of LabelNarrows. -/
import Derived.Test.YtfohhokdcobhjaaDoorYb
import Derived.Test.YtfohhokdcobhjaaDoorMi
import Derived.Laws.AppendOwnNone
namespace Go.Proofs.YtfohhokdcobhjaaDoor
open Go.RowKit Go.Sort Go.Proofs.LawFrame

/-- a slice that came in is nil or has an address -/
def NilOr (v : Value) : Prop := v = .slice none 0 0 ∨ ∃ ad n c, v = .slice (some ad) n c

theorem rcells_len (cs : List RC) : (cs.flatMap RC.cells).length = cs.length * 3 := by
  induction cs with
  | nil => rfl
  | cons a t ih => rw [List.flatMap_cons, List.length_append, ih, List.length_cons, Nat.succ_mul]; show 3 + _ = _; omega
theorem rcells_one {cs : List RC} : ∀ u ∈ cs.flatMap RC.cells, u.oneCell' = true := by
  intro u hu
  obtain ⟨c, -, hc⟩ := List.mem_flatMap.1 hu
  simp [RC.cells] at hc
  rcases hc with rfl | rfl | rfl <;> rfl

/-- append of a selector that came in to a row of the call's own -/
theorem wpList_app_reqs {w : World} {ops : Array Oper} {rest : List Oper} {o : Oper} {a : Act} {Q : Exit → Act → World → Prop} (hgd : o.guard = none) (s x : Operand)
    (ho : o.op = .call { callee := .builtin .append, args := #[s, x], argTypes := #[23, 23] }) (base : Nat) (v : Value) (n : Nat) (xs : List Value) (hs : a.eval s = v) (hown : w.ownsRow base 43 3 v n xs)
    (v2 : Value) (hx : a.eval x = v2) (hn2 : NilOr v2) (cs : List RC) (hf : Flat w v2 cs.length (cs.flatMap RC.cells)) (hb1 : n + cs.length ≤ 1000000) (hbase : base ≤ w.heap.size)
    (h : ∀ v' w', w'.ownsRow base 43 3 v' (n + cs.length) (xs ++ cs.flatMap RC.cells) → w.grownBy w' v.ownBlock → wpList Tryd.prog ops Q rest (a.put o.dst v') w') : wpList Tryd.prog ops Q (o :: rest) a w := by
  obtain ⟨i43, hi43, hz43, hs43, hy43⟩ := info_parts info43
  obtain ⟨ao, cap, rfl, hlc, hcap, hr⟩ := hf.out
  rcases hn2 with hn2 | ⟨ad, n2, c2, hn2⟩
  · have hc0 : cs = [] := List.eq_nil_of_length_eq_zero (by injection hn2)
    subst hc0
    refine wpList_append_own_none hgd s x 23 ho base 43 i43 3 Tryd.underlying23 hi43 v n xs hs hown (hx.trans hn2) ?_
    exact h v w (by simpa using hown) (grown_refl _ _)
  · injection hn2 with h1 h2 h3
    subst h1
    refine wpList_append_own _ hgd s x 23 ho base 43 i43 (.agg #[.string ⟨#[]⟩, .int .i64 0, .slice none 0 0]) 3 48 Tryd.underlying23 hi43 hz43 hs43 hy43 rfl (by decide) v n xs hs hown ad cs.length cap (cs.flatMap RC.cells) hx (rcells_len cs) (fun j u hu => ?_) rcells_one (by unfold maxLen; omega) (by omega) hbase (fun v' w' h1 h2 _ => h v' w' h1 h2)
    have hp : 0 < cs.length := by
      rcases Nat.eq_zero_or_pos cs.length with h0 | h0
      · have : cs = [] := List.eq_nil_of_length_eq_zero h0
        subst this; simp at hu
      · exact h0
    obtain ⟨b, off, he, -, hc⟩ := hr hp
    cases he
    rw [Addr.add_lit]
    exact hc j u hu
theorem reqs_app {w : World} {v : Value} {a b : List Req} {ca cb : List RC} (hla : ca.length = a.length) (hlb : cb.length = b.length) (hf : Flat w v (ca ++ cb).length ((ca ++ cb).flatMap RC.cells))
    (ha : ∀ (k : Nat) (c : RC) (r : Req), ca[k]? = some c → a[k]? = some r → RIs w c r) (hb : ∀ (k : Nat) (c : RC) (r : Req), cb[k]? = some c → b[k]? = some r → RIs w c r) : Reqs w v (a ++ b) := by
  refine ⟨ca ++ cb, by simp [hla, hlb], by rw [List.length_append, hla, hlb, ← List.length_append] at hf; exact hf, fun k c r hc hr => ?_⟩
  by_cases hk : k < ca.length
  · rw [List.getElem?_append_left hk] at hc
    rw [List.getElem?_append_left (by omega)] at hr
    exact ha k c r hc hr
  · rw [List.getElem?_append_right (by omega)] at hc
    rw [List.getElem?_append_right (by omega), ← hla] at hr
    exact hb _ c r hc hr
theorem matches_app (a b : List Req) (l : List Lab) : matchesS (a ++ b) l = (matchesS a l && matchesS b l) := by unfold matchesS; rw [List.all_append]
end Go.Proofs.YtfohhokdcobhjaaDoor
