/- The contract of Small. -/
import Derived.Test.YtfohhokdcobhjaaDoorWk
namespace Go.Proofs.YtfohhokdcobhjaaDoor
open Go.RowKit Go.Sort Go.Proofs.LawFrame

def shortS (x : Str) : Bool := decide (x.length ≤ 100)
def labS (p : Lab) : Bool := decide (p.1.length ≤ 100) && decide (p.2.length ≤ 100)
def reqS (r : Req) : Bool := decide (r.key.length ≤ 100) && decide (r.vals.length ≤ 100) && r.vals.all shortS
def smallB (l : List Lab) (s : List Req) : Bool := decide (l.length ≤ 40) && decide (s.length ≤ 40) && l.all labS && s.all reqS
theorem smallB_l {l : List Lab} {s : List Req} (h : 40 < l.length) : smallB l s = false := by unfold smallB; rw [decide_eq_false (by omega)]; rfl
theorem smallB_s {l : List Lab} {s : List Req} (h : 40 < s.length) : smallB l s = false := by unfold smallB; rw [decide_eq_false (p := s.length ≤ 40) (by omega)]; simp
theorem smallB_la {l : List Lab} {s : List Req} (h : l.all labS = false) : smallB l s = false := by unfold smallB; rw [h]; simp
theorem smallB_sa {l : List Lab} {s : List Req} (h : s.all reqS = false) : smallB l s = false := by unfold smallB; rw [h]; simp
theorem smallB_yes {l : List Lab} {s : List Req} (h1 : ¬ 40 < l.length) (h2 : ¬ 40 < s.length) (h3 : l.all labS = true) (h4 : s.all reqS = true) : smallB l s = true := by
  unfold smallB; rw [h3, h4, decide_eq_true (by omega), decide_eq_true (by omega)]; rfl
theorem labS_key {x1 x2 : Str} (h : 100 < x1.length) : labS (x1, x2) = false := by unfold labS; rw [decide_eq_false (by simp only; omega)]; rfl
theorem labS_val {x1 x2 : Str} (h : 100 < x2.length) : labS (x1, x2) = false := by unfold labS; rw [decide_eq_false (p := (x1, x2).2.length ≤ 100) (by simp only; omega)]; simp
theorem labS_yes {x1 x2 : Str} (h : ¬ 100 < x1.length) (h2 : ¬ 100 < x2.length) : labS (x1, x2) = true := by unfold labS; simp only; rw [decide_eq_true (by omega), decide_eq_true (by omega)]; rfl
theorem reqS_key {r : Req} (h : 100 < r.key.length) : reqS r = false := by unfold reqS; rw [decide_eq_false (by omega)]; rfl
theorem reqS_len {r : Req} (h : 100 < r.vals.length) : reqS r = false := by unfold reqS; rw [decide_eq_false (p := r.vals.length ≤ 100) (by omega)]; simp
theorem reqS_val {r : Req} (h : r.vals.all shortS = false) : reqS r = false := by unfold reqS; rw [h]; simp
theorem reqS_yes {r : Req} (h : ¬ 100 < r.key.length) (h2 : ¬ 100 < r.vals.length) (h3 : r.vals.all shortS = true) : reqS r = true := by
  unfold reqS; rw [h3, decide_eq_true (by omega), decide_eq_true (by omega)]; rfl

set_option maxHeartbeats 4000000 in
theorem small_any (v v2 : Value) (l : List Lab) (s : List Req) (w : World) (hl : Labs w v l) (hs : Reqs w v2 s) :
    Calls Tryd.prog 11 #[v, v2] w fun e w' => e = .returned (.bool (smallB l s)) ∧ Below w.heap.size w w' := by
  obtain ⟨ao, cap, rfl, hlc, hcap, -⟩ := hl.out
  obtain ⟨ao2, cap2, rfl, hlc2, hcap2⟩ := hs.slice
  unfold maxLen at hcap hcap2
  by_cases h1 : 40 < l.length
  · go_enter Tryd.func11, Tryd.ntmps11
    go_wp2
    go_ret
    exact ⟨ret_bool (smallB_l h1).symm, Below.refl _ _⟩
  by_cases h2 : 40 < s.length
  · go_enter Tryd.func11, Tryd.ntmps11
    go_wp2
    go_ret
    exact ⟨ret_bool (smallB_s h2).symm, Below.refl _ _⟩
  have hd1 : decide (40 < (l.length : Int)) = false := decide_eq_false (by omega)
  have hd2 : decide (40 < (s.length : Int)) = false := decide_eq_false (by omega)
  go_enter Tryd.func11, Tryd.ntmps11
  go_wp2
  go_loopg [21] l.length (fun g i wr => ∃ k : Nat, k ≤ l.length ∧ g = l.length - k ∧ i = .int .i64 k ∧ Hid (PreA labS l k) ∧ Below w.heap.size w wr)
  case atStart => exact ⟨0, Nat.zero_le _, rfl, rfl, Lib.hid (PreA.zero _), Below.refl _ _⟩
  case round =>
    obtain ⟨k, hk, hg, rfl, HC, hb⟩ := hrel
    have HG := Lib.hid hg
    clear hg
    by_cases hlt : k < l.length
    · have hx := get_some hlt
      generalize l[k] = x at hx
      obtain ⟨x1, x2⟩ := x
      obtain ⟨b, off, rfl, c0, c1⟩ := hl.at hb hx
      simp only at c0 c1
      have HX := Lib.hid hx
      clear hx
      by_cases g1 : 100 < x1.length
      · go_wp2
        go_ret
        exact ⟨ret_bool (smallB_la (all_bad HX.out (labS_key g1))).symm, below_all hb (below_alloc _ _)⟩
      by_cases g2 : 100 < x2.length
      · go_wp2
        go_ret
        exact ⟨ret_bool (smallB_la (all_bad HX.out (labS_val g2))).symm, below_all hb (below_alloc _ _)⟩
      go_wp2
      go_roundg (l.length - (k + 1))
      case measure => have := HG.out; omega
      case rel => exact ⟨k + 1, by omega, rfl, by go_num, Lib.hid (HC.out.succ HX.out (labS_yes g1 g2)), below_all hb (below_alloc _ _)⟩
    · obtain rfl : k = l.length := by omega
      have HL := Lib.hid HC.out.all
      clear HG HC
      go_wp2
      go_loopg [38] s.length (fun g i wr => ∃ k : Nat, k ≤ s.length ∧ g = s.length - k ∧ i = .int .i64 k ∧ Hid (PreA reqS s k) ∧ Below w.heap.size w wr)
      case atStart => exact ⟨0, Nat.zero_le _, rfl, rfl, Lib.hid (PreA.zero _), hb⟩
      case round =>
        clear hb
        obtain ⟨k, hk, hg, rfl, HC, hb⟩ := hrel
        have HG := Lib.hid hg
        clear hg
        by_cases hlt : k < s.length
        · have hx := get_some hlt
          generalize s[k] = x at hx
          obtain ⟨b, off, ⟨ck, cop, ca, cn, cc⟩, rfl, hi, c0, c1, c2⟩ := hs.at hb hx
          have hvs : Strs wr (.slice ca cn cc) x.vals := hi.vals
          obtain ⟨ao3, cap3, he, hlc3, hcap3, -⟩ := hvs.out
          cases he
          simp only at c2
          unfold maxLen at hcap3
          have HX := Lib.hid hx
          clear hx hi
          by_cases g1 : 100 < x.key.length
          · go_wp2
            go_ret
            exact ⟨ret_bool (smallB_sa (all_bad HX.out (reqS_key g1))).symm, below_all hb (below_alloc _ _)⟩
          by_cases g2 : 100 < x.vals.length
          · go_wp2
            go_ret
            exact ⟨ret_bool (smallB_sa (all_bad HX.out (reqS_len g2))).symm, below_all hb (below_alloc _ _)⟩
          go_wp2
          have hb1 := below_all hb (below_alloc wr (.cells #[sV x.key, .int .i64 x.op, .slice ca x.vals.length cc] 43))
          have hvs1 : Strs _ (.slice ca x.vals.length cc) x.vals := hvs.all (below_alloc wr (.cells #[sV x.key, .int .i64 x.op, .slice ca x.vals.length cc] 43))
          clear c0 c1 c2 hvs hb
          generalize wr.alloc (.cells #[sV x.key, .int .i64 x.op, .slice ca x.vals.length cc] 43) = V at *
          generalize wr.heap.size = hz at *
          go_loop [55] (fun i => ∃ j : Nat, j ≤ x.vals.length ∧ i = .int .i64 j ∧ Hid (PreA shortS x.vals j)) (fun i => x.vals.length - (intOf i).toNat)
          case atStart => exact ⟨0, Nat.zero_le _, rfl, Lib.hid (PreA.zero _)⟩
          case round =>
            obtain ⟨j, hj, rfl, HD⟩ := hrel
            by_cases hlt3 : j < x.vals.length
            · have hy := get_some hlt3
              generalize x.vals[j] = y at hy
              obtain ⟨b3, off3, rfl, d0⟩ := hvs1.at (Below.refl _ _) hy
              have HY := Lib.hid hy
              clear hy
              by_cases g3 : 100 < y.length
              · go_wp2
                go_ret
                exact ⟨ret_bool (smallB_sa (all_bad HX.out (reqS_val (all_bad HY.out (decide_eq_false (by omega)))))).symm, hb1⟩
              · go_wp2
                go_round
                case rel => exact ⟨j + 1, by omega, by go_num, Lib.hid (HD.out.succ HY.out (decide_eq_true (by omega)))⟩
                case measure => simp [intOf]; omega
            · obtain rfl : j = x.vals.length := by omega
              go_wp2
              go_roundg (s.length - (k + 1))
              case measure => have := HG.out; omega
              case rel => exact ⟨k + 1, by omega, rfl, by go_num, Lib.hid (HC.out.succ HX.out (reqS_yes g1 g2 HD.out.all)), hb1⟩
        · obtain rfl : k = s.length := by omega
          go_wp2
          go_ret
          exact ⟨ret_bool (smallB_yes h1 h2 HL.out HC.out.all).symm, hb⟩
end Go.Proofs.YtfohhokdcobhjaaDoor
