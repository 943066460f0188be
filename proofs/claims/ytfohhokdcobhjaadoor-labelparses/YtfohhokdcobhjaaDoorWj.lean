/- Contracts of Same, SameStrings and SameSelector at equal lists. -/
import Derived.Test.YtfohhokdcobhjaaDoorWi
namespace Go.Proofs.YtfohhokdcobhjaaDoor
open Go.RowKit Go.Sort Go.Proofs.LawFrame

set_option maxHeartbeats 1000000 in
theorem same_any (v v2 : Value) (l : List Lab) (w : World) (hv : Labs w v l) (hv2 : Labs w v2 l) :
    Calls Tryd.prog 19 #[v, v2] w fun e w' => e = .returned (.bool true) ∧ Below w.heap.size w w' := by
  obtain ⟨ao, cap, rfl, hlc, hcap, -⟩ := hv.out
  obtain ⟨ao2, cap2, rfl, hlc2, hcap2, -⟩ := hv2.out
  unfold maxLen at hcap hcap2
  go_enter Tryd.func19, Tryd.ntmps19
  go_wp2
  go_loopg [5] l.length (fun g i wr => ∃ k : Nat, k ≤ l.length ∧ g = l.length - k ∧ i = .int .i64 k ∧ Below w.heap.size w wr)
  case atStart => exact ⟨0, Nat.zero_le _, rfl, rfl, Below.refl _ _⟩
  case round =>
    obtain ⟨k, hk, hg, rfl, hb⟩ := hrel
    have HG := Lib.hid hg
    clear hg
    by_cases hlt : k < l.length
    · have hx := get_some hlt
      generalize l[k] = x at hx
      obtain ⟨x1, x2⟩ := x
      obtain ⟨b, off, rfl, c0, c1⟩ := hv.at hb hx
      obtain ⟨b2, off2, rfl, d0, d1⟩ := hv2.at hb hx
      simp only at c0 c1 d0 d1
      go_wp2
      go_quiet (fail)
      go_wp2
      go_roundg (l.length - (k + 1))
      case measure => have := HG.out; omega
      case rel => exact ⟨k + 1, by omega, rfl, by go_num, below_all hb (below_drewN _ _)⟩
    · obtain rfl : k = l.length := by omega
      go_wp2
      go_ret
      exact ⟨rfl, hb⟩

set_option maxHeartbeats 1000000 in
theorem sameStrings_any (v v2 : Value) (l : List Str) (w : World) (hv : Strs w v l) (hv2 : Strs w v2 l) :
    Calls Tryd.prog 48 #[v, v2] w fun e w' => e = .returned (.bool true) ∧ Below w.heap.size w w' := by
  obtain ⟨ao, cap, rfl, hlc, hcap, -⟩ := hv.out
  obtain ⟨ao2, cap2, rfl, hlc2, hcap2, -⟩ := hv2.out
  unfold maxLen at hcap hcap2
  go_enter Tryd.func48, Tryd.ntmps48
  go_wp2
  go_loopg [5] l.length (fun g i wr => ∃ k : Nat, k ≤ l.length ∧ g = l.length - k ∧ i = .int .i64 k ∧ Below w.heap.size w wr)
  case atStart => exact ⟨0, Nat.zero_le _, rfl, rfl, Below.refl _ _⟩
  case round =>
    obtain ⟨k, hk, hg, rfl, hb⟩ := hrel
    have HG := Lib.hid hg
    clear hg
    by_cases hlt : k < l.length
    · have hx := get_some hlt
      generalize l[k] = x at hx
      obtain ⟨b, off, rfl, c0⟩ := hv.at hb hx
      obtain ⟨b2, off2, rfl, d0⟩ := hv2.at hb hx
      go_wp2
      go_quiet (fail)
      go_wp2
      go_roundg (l.length - (k + 1))
      case measure => have := HG.out; omega
      case rel => exact ⟨k + 1, by omega, rfl, by go_num, below_all hb (below_drewN _ _)⟩
    · obtain rfl : k = l.length := by omega
      go_wp2
      go_ret
      exact ⟨rfl, hb⟩

set_option maxHeartbeats 1000000 in
theorem sameSelector_any (v v2 : Value) (l : List Req) (w : World) (hv : Reqs w v l) (hv2 : Reqs w v2 l) :
    Calls Tryd.prog 26 #[v, v2] w fun e w' => e = .returned (.bool true) ∧ Below w.heap.size w w' := by
  obtain ⟨ao, cap, rfl, hlc, hcap⟩ := hv.slice
  obtain ⟨ao2, cap2, rfl, hlc2, hcap2⟩ := hv2.slice
  unfold maxLen at hcap hcap2
  go_enter Tryd.func26, Tryd.ntmps26
  go_wp2
  go_loopg [5] l.length (fun g i wr => ∃ k : Nat, k ≤ l.length ∧ g = l.length - k ∧ i = .int .i64 k ∧ Below w.heap.size w wr)
  case atStart => exact ⟨0, Nat.zero_le _, rfl, rfl, Below.refl _ _⟩
  case round =>
    obtain ⟨k, hk, hg, rfl, hb⟩ := hrel
    have HG := Lib.hid hg
    clear hg
    by_cases hlt : k < l.length
    · have hx := get_some hlt
      generalize l[k] = x at hx
      obtain ⟨b, off, c, rfl, hi, c0, c1, c2⟩ := hv.at hb hx
      obtain ⟨b2, off2, c', rfl, hi2, d0, d1, d2⟩ := hv2.at hb hx
      have k0 := cell_regrown c0
      have k1 := cell_regrown c1
      have k2 := cell_regrown c2
      have j0 := cell_regrown d0
      have j1 := cell_regrown d1
      have j2 := cell_regrown d2
      have cS : ∀ dd os, Calls Tryd.prog 48 #[.slice c.ao c.n c.cap, .slice c'.ao c'.n c'.cap] (grow (redrawn wr dd) os) fun e w'' => e = .returned (.bool true) ∧ ∃ p : Regrown, w'' = grow (redrawn wr p.d) p.os := fun dd os => Calls.regrown_of (sameStrings_any _ _ _ _ (hi.vals.all (below_regrown wr dd os)) (hi2.vals.all (below_regrown wr dd os)))
      clear c0 c1 c2 d0 d1 d2 hi hi2
      go_wp2
      refine wp_region_quiet_below (by kernel_rfl) (by kernel_rfl) ?_
      repeat (first | go_big_quiet_step ((exact cS _ _)) | quiet_step (exact cS _ _))
      refine wpQuiet_nil ?_
      intro _ hw'
      obtain ⟨⟨dq, osq⟩, hw''⟩ := hw'
      subst hw''
      have hb2 := below_all hb (below_regrown wr dq osq)
      clear k0 k1 k2 j0 j1 j2 cS
      generalize grow (redrawn wr dq) osq = V at *
      go_wp2
      go_roundg (l.length - (k + 1))
      case measure => have := HG.out; omega
      case rel => exact ⟨k + 1, by omega, rfl, by go_num, hb2⟩
    · obtain rfl : k = l.length := by omega
      go_wp2
      go_ret
      exact ⟨rfl, hb⟩
end Go.Proofs.YtfohhokdcobhjaaDoor
