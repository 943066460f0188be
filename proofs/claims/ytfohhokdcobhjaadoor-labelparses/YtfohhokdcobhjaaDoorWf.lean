/- Contracts of ValidSelector and the reference's. -/
import Derived.Test.YtfohhokdcobhjaaDoorWe
namespace Go.Proofs.YtfohhokdcobhjaaDoor
open Go.RowKit Go.Sort Go.Proofs.LawFrame

def selOk (s : List Req) : Bool := decide (s.length ≤ 16) && s.all reqOk
theorem selOk_len {s : List Req} (h : 16 < s.length) : selOk s = false := by unfold selOk; rw [decide_eq_false (by omega)]; rfl
theorem selOk_eq {s : List Req} (h : ¬ 16 < s.length) : selOk s = s.all reqOk := by unfold selOk; rw [decide_eq_true (by omega)]; rfl
/-- all requirements are short -/
def SBd (s : List Req) : Prop := ∀ r ∈ s, RBd r

set_option maxHeartbeats 1000000 in
theorem validSelector_any (v : Value) (l : List Req) (w : World) (hv : Reqs w v l) (hbd : SBd l) :
    Calls Tryd.prog 15 #[v] w fun e w' => e = .returned (.bool (selOk l)) ∧ Below w.heap.size w w' := by
  obtain ⟨ao, cap, rfl, hlc, hcap⟩ := hv.slice
  unfold maxLen at hcap
  by_cases h1 : 16 < l.length
  · go_enter Tryd.func15, Tryd.ntmps15
    go_wp2
    go_ret
    exact ⟨ret_bool (selOk_len h1).symm, Below.refl _ _⟩
  have HE := Lib.hid (selOk_eq h1)
  go_enter Tryd.func15, Tryd.ntmps15
  go_wp2
  go_loopg [10] l.length (fun g i wr => ∃ k : Nat, k ≤ l.length ∧ g = l.length - k ∧ i = .int .i64 k ∧ Hid (PreA reqOk l k) ∧ Below w.heap.size w wr)
  case atStart => exact ⟨0, Nat.zero_le _, rfl, rfl, Lib.hid (PreA.zero _), Below.refl _ _⟩
  case round =>
    obtain ⟨k, hk, hg, rfl, HC, hb⟩ := hrel
    have HG := Lib.hid hg
    clear hg
    by_cases hlt : k < l.length
    · have hx := get_some hlt
      generalize l[k] = x at hx
      have hxb : RBd x := hbd x (List.mem_of_getElem? hx)
      obtain ⟨b, off, c, rfl, hi, c0, c1, c2⟩ := hv.at hb hx
      have hvs := hi.vals
      have HX := Lib.hid (And.intro hi hx)
      clear hi hx
      cases hok : reqOk x
      · go_wp2_with (go_at_call 33; refine (validRequirement_any _ _ _ _ _ (hvs.all (below_alloc _ _)) hxb).mono ?_; rintro e w' ⟨rfl, hb2⟩)
        go_ret
        exact ⟨ret_bool (by rw [HE.out, all_bad HX.out.2 hok]), below_all (below_all hb (below_alloc _ _)) hb2⟩
      · go_wp2_with (go_at_call 33; refine (validRequirement_any _ _ _ _ _ (hvs.all (below_alloc _ _)) hxb).mono ?_; rintro e w' ⟨rfl, hb2⟩)
        go_roundg (l.length - (k + 1))
        case measure => have := HG.out; omega
        case rel => exact ⟨k + 1, by omega, rfl, by go_num, Lib.hid (HC.out.succ HX.out.2 hok), below_all (below_all hb (below_alloc _ _)) hb2⟩
    · obtain rfl : k = l.length := by omega
      go_wp2
      go_ret
      exact ⟨ret_bool (by rw [HE.out, HC.out.all]), hb⟩

set_option maxHeartbeats 1000000 in
theorem rvalidSelector_any (v : Value) (l : List Req) (w : World) (hv : Reqs w v l) (hbd : SBd l) :
    Calls Tryd.prog 16 #[v] w fun e w' => e = .returned (.bool (selOk l)) ∧ Below w.heap.size w w' := by
  obtain ⟨ao, cap, rfl, hlc, hcap⟩ := hv.slice
  unfold maxLen at hcap
  by_cases h1 : 16 < l.length
  · go_enter Tryd.func16, Tryd.ntmps16
    go_wp2
    go_ret
    exact ⟨ret_bool (selOk_len h1).symm, Below.refl _ _⟩
  have HE := Lib.hid (selOk_eq h1)
  go_enter Tryd.func16, Tryd.ntmps16
  go_wp2
  go_loopg [3] l.length (fun g i wr => ∃ k : Nat, k ≤ l.length ∧ g = l.length - k ∧ i = .int .i64 k ∧ Hid (PreA reqOk l k) ∧ Below w.heap.size w wr)
  case atStart => exact ⟨0, Nat.zero_le _, rfl, rfl, Lib.hid (PreA.zero _), Below.refl _ _⟩
  case round =>
    obtain ⟨k, hk, hg, rfl, HC, hb⟩ := hrel
    have HG := Lib.hid hg
    clear hg
    by_cases hlt : k < l.length
    · have hx := get_some hlt
      generalize l[k] = x at hx
      have hxb : RBd x := hbd x (List.mem_of_getElem? hx)
      obtain ⟨b, off, c, rfl, hi, c0, c1, c2⟩ := hv.at hb hx
      have hvs := hi.vals
      have HX := Lib.hid (And.intro hi hx)
      clear hi hx
      cases hok : reqOk x
      · go_wp2_with (go_at_call 34; refine (validOne_any _ _ _ _ _ hvs hxb).mono ?_; rintro e w' ⟨rfl, hb2⟩)
        go_ret
        exact ⟨ret_bool (by rw [HE.out, all_bad HX.out.2 hok]), below_all hb hb2⟩
      · go_wp2_with (go_at_call 34; refine (validOne_any _ _ _ _ _ hvs hxb).mono ?_; rintro e w' ⟨rfl, hb2⟩)
        go_roundg (l.length - (k + 1))
        case measure => have := HG.out; omega
        case rel => exact ⟨k + 1, by omega, rfl, by go_num, Lib.hid (HC.out.succ HX.out.2 hok), below_all hb hb2⟩
    · obtain rfl : k = l.length := by omega
      go_wp2
      go_ret
      exact ⟨ret_bool (by rw [HE.out, HC.out.all]), hb⟩
end Go.Proofs.YtfohhokdcobhjaaDoor
