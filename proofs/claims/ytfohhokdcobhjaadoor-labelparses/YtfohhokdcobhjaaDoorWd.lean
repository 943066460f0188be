/- Contracts of validRequirement and the reference's validOne. -/
import Derived.Test.YtfohhokdcobhjaaDoorWc
namespace Go.Proofs.YtfohhokdcobhjaaDoor
open Go.RowKit Go.Sort Go.Proofs.LawFrame

theorem below_drewN (w : World) (n : Nat) : Below w.heap.size w (w.drewN n) := ⟨rfl, rfl, rfl, Nat.le_refl _, fun _ _ => rfl⟩
theorem below_alloc (w : World) (o : Obj) : Below w.heap.size w (w.alloc o) := (Below.refl _ _).alloc (Nat.le_refl _) _

def reqOk (r : Req) : Bool := keyOk r.key && (if r.op = 1 ∨ r.op = 2 then valsOk r.vals else if r.op = 3 ∨ r.op = 4 then decide (r.vals.length = 0) else false)
theorem reqOk_key {r : Req} (h : keyOk r.key = false) : reqOk r = false := by unfold reqOk; rw [h]; rfl
theorem reqOk_in {r : Req} (h : keyOk r.key = true) (ho : r.op = 1 ∨ r.op = 2) : reqOk r = valsOk r.vals := by unfold reqOk; rw [h, if_pos ho]; rfl
theorem reqOk_ex {r : Req} (h : keyOk r.key = true) (ho : r.op = 3 ∨ r.op = 4) : reqOk r = decide (r.vals.length = 0) := by
  unfold reqOk; rw [h, if_neg (by omega), if_pos ho]; rfl
theorem reqOk_no {r : Req} (h1 : ¬ r.op = 1) (h2 : ¬ r.op = 2) (h3 : ¬ r.op = 3) (h4 : ¬ r.op = 4) : reqOk r = false := by
  unfold reqOk; rw [if_neg (by omega), if_neg (by omega)]; simp

/-- key and values are short -/
def RBd (r : Req) : Prop := r.key.length ≤ 1000000 ∧ Bd r.vals

set_option maxHeartbeats 1000000 in
theorem validRequirement_any (ao : Option Addr) (n cap : Nat) (r : Req) (w : World) (hv : Strs w (.slice ao n cap) r.vals) (hbd : RBd r) :
    Calls Tryd.prog 33 #[.agg #[sV r.key, .int .i64 r.op, .slice ao n cap]] w fun e w' => e = .returned (.bool (reqOk r)) ∧ Below w.heap.size w w' := by
  obtain ⟨key, op, vals⟩ := r
  obtain ⟨ao', cap', he, hlc, hcap, -⟩ := hv.out
  cases he
  unfold maxLen at hcap
  have hk : key.length ≤ 9223372036854775807 := by have := hbd.1; simp only at this; omega
  cases hok : keyOk key
  · go_enter Tryd.func33, Tryd.ntmps33
    go_wp2_with (go_at_call 29; refine (validKey_any _ _ hk).mono ?_; rintro e w' ⟨rfl, rfl⟩)
    go_ret
    exact ⟨ret_bool (reqOk_key hok).symm, below_alloc _ _⟩
  by_cases h1 : op = 1
  · subst h1
    go_enter Tryd.func33, Tryd.ntmps33
    go_wp2_with (first | (go_at_call 29; refine (validKey_any _ _ hk).mono ?_; rintro e w' ⟨rfl, rfl⟩) | (go_at_call 56; refine (validValues_any _ _ _ (hv.all (below_alloc _ _)) hbd.2).mono ?_; rintro e w' ⟨rfl, rfl⟩))
    go_ret
    exact ⟨ret_bool (reqOk_in (r := ⟨key, 1, vals⟩) hok (Or.inl rfl)).symm, below_alloc _ _⟩
  by_cases h2 : op = 2
  · subst h2
    go_enter Tryd.func33, Tryd.ntmps33
    go_wp2_with (first | (go_at_call 29; refine (validKey_any _ _ hk).mono ?_; rintro e w' ⟨rfl, rfl⟩) | (go_at_call 56; refine (validValues_any _ _ _ (hv.all (below_alloc _ _)) hbd.2).mono ?_; rintro e w' ⟨rfl, rfl⟩))
    go_ret
    exact ⟨ret_bool (reqOk_in (r := ⟨key, 2, vals⟩) hok (Or.inr rfl)).symm, below_alloc _ _⟩
  by_cases h3 : op = 3
  · subst h3
    go_enter Tryd.func33, Tryd.ntmps33
    go_wp2_with (first | (go_at_call 29; refine (validKey_any _ _ hk).mono ?_; rintro e w' ⟨rfl, rfl⟩))
    go_ret
    exact ⟨ret_bool (by rw [reqOk_ex hok (Or.inl rfl), Bool.eq_iff_iff]; simp), below_alloc _ _⟩
  by_cases h4 : op = 4
  · subst h4
    go_enter Tryd.func33, Tryd.ntmps33
    go_wp2_with (first | (go_at_call 29; refine (validKey_any _ _ hk).mono ?_; rintro e w' ⟨rfl, rfl⟩))
    go_ret
    exact ⟨ret_bool (by rw [reqOk_ex hok (Or.inr rfl), Bool.eq_iff_iff]; simp), below_alloc _ _⟩
  go_enter Tryd.func33, Tryd.ntmps33
  go_wp2_with (first | (go_at_call 29; refine (validKey_any _ _ hk).mono ?_; rintro e w' ⟨rfl, rfl⟩))
  go_ret
  exact ⟨ret_bool (reqOk_no h1 h2 h3 h4).symm, below_alloc _ _⟩
end Go.Proofs.YtfohhokdcobhjaaDoor
