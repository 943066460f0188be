/- The contract of the reference's validOne. -/
import Derived.Test.YtfohhokdcobhjaaDoorWd
import Derived.Deep.LoopGhost
import Derived.BigRegion
namespace Go.Proofs.YtfohhokdcobhjaaDoor
open Go.RowKit Go.Sort Go.Proofs.LawFrame


theorem quiet_same {P : Program} {f : FuncId} {args : Array Value} {w : World} {n : Nat} {v : Value} (h : Calls P f args (w.drewN n) fun e w' => e = .returned v ∧ w.drewN n = w') :
    Calls P f args (w.drewN n) fun e w'' => e = .returned v ∧ ∃ m, w'' = w.drewN m := h.mono fun _ _ ⟨he, hm⟩ => ⟨he, n, hm.symm⟩

set_option maxHeartbeats 2000000 in
theorem validOne_any (ao : Option Addr) (n cap : Nat) (r : Req) (w : World) (hv : Strs w (.slice ao n cap) r.vals) (hbd : RBd r) :
    Calls Tryd.prog 34 #[.agg #[sV r.key, .int .i64 r.op, .slice ao n cap]] w fun e w' => e = .returned (.bool (reqOk r)) ∧ Below w.heap.size w w' := by
  obtain ⟨key, op, vals⟩ := r
  obtain ⟨ao', cap', he, hlc, hcap, -⟩ := hv.out
  cases he
  unfold maxLen at hcap
  simp only at hlc
  have hk : key.length ≤ 9223372036854775807 := by have := hbd.1; simp only at this; omega
  cases hok : keyOk key
  · go_enter Tryd.func34, Tryd.ntmps34
    go_wp2_with (go_at_call 31; refine (rvalidKey_any _ _ hk).mono ?_; rintro e w' ⟨rfl, rfl⟩)
    go_ret
    exact ⟨ret_bool (reqOk_key hok).symm, below_alloc _ _⟩
  by_cases h3 : op = 3
  · subst h3
    go_enter Tryd.func34, Tryd.ntmps34
    go_wp2_with (first | (go_at_call 31; refine (rvalidKey_any _ _ hk).mono ?_; rintro e w' ⟨rfl, rfl⟩))
    go_ret
    exact ⟨ret_bool (by rw [reqOk_ex hok (Or.inl rfl), Bool.eq_iff_iff]; simp), below_alloc _ _⟩
  by_cases h4 : op = 4
  · subst h4
    go_enter Tryd.func34, Tryd.ntmps34
    go_wp2_with (first | (go_at_call 31; refine (rvalidKey_any _ _ hk).mono ?_; rintro e w' ⟨rfl, rfl⟩))
    go_ret
    exact ⟨ret_bool (by rw [reqOk_ex hok (Or.inr rfl), Bool.eq_iff_iff]; simp), below_alloc _ _⟩
  by_cases h12 : op = 1 ∨ op = 2
  rotate_left
  · obtain ⟨h1, h2⟩ : ¬ op = 1 ∧ ¬ op = 2 := by omega
    have HN := Lib.hid (reqOk_no (r := ⟨key, op, vals⟩) h1 h2 h3 h4)
    have q1 : (op == 1) = false := by simpa using h1
    have q2 : (op == 2) = false := by simpa using h2
    have q3 : (op == 3) = false := by simpa using h3
    have q4 : (op == 4) = false := by simpa using h4
    have n1 : (op != 1) = true := by simpa using h1
    have n2 : (op != 2) = true := by simpa using h2
    clear h3 h4 h12
    go_enter Tryd.func34, Tryd.ntmps34
    go_wp2_with (first | (go_at_call 31; refine (rvalidKey_any _ _ hk).mono ?_; rintro e w' ⟨rfl, rfl⟩))
    go_ret
    exact ⟨ret_bool HN.out.symm, below_alloc _ _⟩
  have HE := Lib.hid (reqOk_in (r := ⟨key, op, vals⟩) hok h12)
  by_cases h0 : vals.length < 1
  · rcases h12 with rfl | rfl
    all_goals
      go_enter Tryd.func34, Tryd.ntmps34
      go_wp2_with (first | (go_at_call 31; refine (rvalidKey_any _ _ hk).mono ?_; rintro e w' ⟨rfl, rfl⟩))
      go_ret
      exact ⟨ret_bool (by rw [HE.out]; exact (valsOk_len (Or.inl h0)).symm), below_alloc _ _⟩
  by_cases h1 : 64 < vals.length
  · rcases h12 with rfl | rfl
    all_goals
      go_enter Tryd.func34, Tryd.ntmps34
      go_wp2_with (first | (go_at_call 31; refine (rvalidKey_any _ _ hk).mono ?_; rintro e w' ⟨rfl, rfl⟩))
      go_ret
      exact ⟨ret_bool (by rw [HE.out]; exact (valsOk_len (Or.inr h1)).symm), below_alloc _ _⟩
  replace HE := Lib.hid (HE.out.trans (valsOk_eq h0 h1))
  have hbv : Bd vals := hbd.2
  rcases h12 with rfl | rfl
  · clear h3 h4
    go_enter Tryd.func34, Tryd.ntmps34
    go_wp2_with (first | (go_at_call 31; refine (rvalidKey_any _ _ hk).mono ?_; rintro e w' ⟨rfl, rfl⟩))
    have o0 := Own.new w [sV key, .int .i64 1, .slice ao vals.length cap] 43
    have hw0 := below_alloc w (.cells #[sV key, .int .i64 1, .slice ao vals.length cap] 43)
    have R0 := Lib.hid (And.intro hw0 o0)
    clear hw0 o0
    generalize w.alloc (.cells #[sV key, .int .i64 1, .slice ao vals.length cap] 43) = W at *
    go_loopg [3] vals.length (fun g i wr => ∃ k : Nat, k ≤ vals.length ∧ g = vals.length - k ∧ i = .int .i64 k ∧ Hid (ChTo valOk sLt vals k) ∧ Below w.heap.size w wr ∧ Own wr w.heap.size [sV key, .int .i64 1, .slice ao vals.length cap] 43)
    case atStart => exact ⟨0, Nat.zero_le _, rfl, rfl, Lib.hid (ChTo.zero _), R0.out.1, R0.out.2⟩
    case round =>
      obtain ⟨k, hk, hg, rfl, HC, hb, o0⟩ := hrel
      have HG := Lib.hid hg
      clear hg R0
      have hsl : wr.cell? ⟨w.heap.size, 2, none⟩ = some (.slice ao vals.length cap) := o0.cell rfl
      by_cases hlt : k < vals.length
      · have hx := get_some hlt
        generalize vals[k] = x at hx
        have hxl : x.length ≤ 9223372036854775807 := by have := hbv x (List.mem_of_getElem? hx); omega
        obtain ⟨b, off, rfl, hc⟩ := hv.at hb hx
        have CV := Lib.hid (fun w2 => rvalidValue_any x w2 hxl)
        cases hok : valOk x
        · have hok2 : valOk x = false := hok
          rw [hok] at CV
          go_wp2
          go_quiet ((go_at_call 32; exact quiet_same (CV.out _)))
          go_wp2
          go_ret
          exact ⟨ret_bool (by rw [HE.out, chain_bad hx hok]), below_all hb (below_drewN _ _)⟩
        · rw [hok] at CV
          by_cases hp : 0 < k
          · have hp2 : decide ((0 : Int) < (k : Int)) = true := decide_eq_true (by omega)
            have hy := get_some (show k - 1 < vals.length by omega)
            generalize vals[k - 1] = y at hy
            obtain ⟨b', off', he, hc'⟩ := hv.at hb hy
            cases he
            cases hyx : Op.bytesLess y x
            · go_wp2
              go_quiet ((go_at_call 32; exact quiet_same (CV.out _)))
              go_wp2
              go_ret
              exact ⟨ret_bool (by rw [HE.out, chain_bad_lt hx hp hy hyx]), below_all hb (below_drewN _ _)⟩
            · go_wp2
              go_quiet ((go_at_call 32; exact quiet_same (CV.out _)))
              go_wp2
              go_roundg (vals.length - (k + 1))
              case measure => have := HG.out; omega
              case rel => exact ⟨k + 1, by omega, rfl, by go_num, Lib.hid (HC.out.succ hx hok (ChTo.at_pos hy hyx)), below_all hb (below_drewN _ _), o0.all (below_drewN _ _)⟩
          · have hp2 : decide ((0 : Int) < (k : Int)) = false := decide_eq_false (by omega)
            go_wp2
            go_quiet ((go_at_call 32; exact quiet_same (CV.out _)))
            go_wp2
            go_roundg (vals.length - (k + 1))
            case measure => have := HG.out; omega
            case rel => exact ⟨k + 1, by omega, rfl, by go_num, Lib.hid (HC.out.succ hx hok (ChTo.at_zero hp)), below_all hb (below_drewN _ _), o0.all (below_drewN _ _)⟩
      · obtain rfl : k = vals.length := by omega
        go_wp2
        go_ret
        exact ⟨ret_bool (by rw [HE.out, chain_of HC.out]), hb⟩
  · clear h3 h4
    go_enter Tryd.func34, Tryd.ntmps34
    go_wp2_with (first | (go_at_call 31; refine (rvalidKey_any _ _ hk).mono ?_; rintro e w' ⟨rfl, rfl⟩))
    have o0 := Own.new w [sV key, .int .i64 2, .slice ao vals.length cap] 43
    have hw0 := below_alloc w (.cells #[sV key, .int .i64 2, .slice ao vals.length cap] 43)
    have R0 := Lib.hid (And.intro hw0 o0)
    clear hw0 o0
    generalize w.alloc (.cells #[sV key, .int .i64 2, .slice ao vals.length cap] 43) = W at *
    go_loopg [3] vals.length (fun g i wr => ∃ k : Nat, k ≤ vals.length ∧ g = vals.length - k ∧ i = .int .i64 k ∧ Hid (ChTo valOk sLt vals k) ∧ Below w.heap.size w wr ∧ Own wr w.heap.size [sV key, .int .i64 2, .slice ao vals.length cap] 43)
    case atStart => exact ⟨0, Nat.zero_le _, rfl, rfl, Lib.hid (ChTo.zero _), R0.out.1, R0.out.2⟩
    case round =>
      obtain ⟨k, hk, hg, rfl, HC, hb, o0⟩ := hrel
      have HG := Lib.hid hg
      clear hg R0
      have hsl : wr.cell? ⟨w.heap.size, 2, none⟩ = some (.slice ao vals.length cap) := o0.cell rfl
      by_cases hlt : k < vals.length
      · have hx := get_some hlt
        generalize vals[k] = x at hx
        have hxl : x.length ≤ 9223372036854775807 := by have := hbv x (List.mem_of_getElem? hx); omega
        obtain ⟨b, off, rfl, hc⟩ := hv.at hb hx
        have CV := Lib.hid (fun w2 => rvalidValue_any x w2 hxl)
        cases hok : valOk x
        · have hok2 : valOk x = false := hok
          rw [hok] at CV
          go_wp2
          go_quiet ((go_at_call 32; exact quiet_same (CV.out _)))
          go_wp2
          go_ret
          exact ⟨ret_bool (by rw [HE.out, chain_bad hx hok]), below_all hb (below_drewN _ _)⟩
        · rw [hok] at CV
          by_cases hp : 0 < k
          · have hp2 : decide ((0 : Int) < (k : Int)) = true := decide_eq_true (by omega)
            have hy := get_some (show k - 1 < vals.length by omega)
            generalize vals[k - 1] = y at hy
            obtain ⟨b', off', he, hc'⟩ := hv.at hb hy
            cases he
            cases hyx : Op.bytesLess y x
            · go_wp2
              go_quiet ((go_at_call 32; exact quiet_same (CV.out _)))
              go_wp2
              go_ret
              exact ⟨ret_bool (by rw [HE.out, chain_bad_lt hx hp hy hyx]), below_all hb (below_drewN _ _)⟩
            · go_wp2
              go_quiet ((go_at_call 32; exact quiet_same (CV.out _)))
              go_wp2
              go_roundg (vals.length - (k + 1))
              case measure => have := HG.out; omega
              case rel => exact ⟨k + 1, by omega, rfl, by go_num, Lib.hid (HC.out.succ hx hok (ChTo.at_pos hy hyx)), below_all hb (below_drewN _ _), o0.all (below_drewN _ _)⟩
          · have hp2 : decide ((0 : Int) < (k : Int)) = false := decide_eq_false (by omega)
            go_wp2
            go_quiet ((go_at_call 32; exact quiet_same (CV.out _)))
            go_wp2
            go_roundg (vals.length - (k + 1))
            case measure => have := HG.out; omega
            case rel => exact ⟨k + 1, by omega, rfl, by go_num, Lib.hid (HC.out.succ hx hok (ChTo.at_zero hp)), below_all hb (below_drewN _ _), o0.all (below_drewN _ _)⟩
      · obtain rfl : k = vals.length := by omega
        go_wp2
        go_ret
        exact ⟨ret_bool (by rw [HE.out, chain_of HC.out]), hb⟩
end Go.Proofs.YtfohhokdcobhjaaDoor
