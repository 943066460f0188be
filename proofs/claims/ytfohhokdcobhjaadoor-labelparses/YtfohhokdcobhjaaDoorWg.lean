/- Contracts of Valid and the reference's. -/
import Derived.Test.YtfohhokdcobhjaaDoorWf
namespace Go.Proofs.YtfohhokdcobhjaaDoor
open Go.RowKit Go.Sort Go.Proofs.LawFrame

def labOk (p : Lab) : Bool := keyOk p.1 && valOk p.2
def labLt (a b : Lab) : Bool := sLt a.1 b.1
def labsOk (l : List Lab) : Bool := decide (l.length ≤ 16) && chain labOk labLt l
theorem labsOk_len {l : List Lab} (h : 16 < l.length) : labsOk l = false := by unfold labsOk; rw [decide_eq_false (by omega)]; rfl
theorem labsOk_eq {l : List Lab} (h : ¬ 16 < l.length) : labsOk l = chain labOk labLt l := by unfold labsOk; rw [decide_eq_true (by omega)]; rfl
/-- all labels are short -/
def LBd (l : List Lab) : Prop := ∀ p ∈ l, p.1.length ≤ 1000000 ∧ p.2.length ≤ 1000000
theorem labOk_key {p : Lab} (h : keyOk p.1 = false) : labOk p = false := by unfold labOk; rw [h]; rfl
theorem labOk_val {p : Lab} (h : valOk p.2 = false) : labOk p = false := by unfold labOk; rw [h]; simp
theorem labOk_yes {p : Lab} (h : keyOk p.1 = true) (h' : valOk p.2 = true) : labOk p = true := by unfold labOk; rw [h, h']; rfl

set_option maxHeartbeats 2000000 in
theorem valid_any (v : Value) (l : List Lab) (w : World) (hv : Labs w v l) (hbd : LBd l) :
    Calls Tryd.prog 13 #[v] w fun e w' => e = .returned (.bool (labsOk l)) ∧ Below w.heap.size w w' := by
  obtain ⟨ao, cap, rfl, hlc, hcap, -⟩ := hv.out
  unfold maxLen at hcap
  by_cases h1 : 16 < l.length
  · go_enter Tryd.func13, Tryd.ntmps13
    go_wp2
    go_ret
    exact ⟨ret_bool (labsOk_len h1).symm, Below.refl _ _⟩
  have HE := Lib.hid (labsOk_eq h1)
  go_enter Tryd.func13, Tryd.ntmps13
  go_wp2
  go_loopg [10] l.length (fun g i wr => ∃ k : Nat, k ≤ l.length ∧ g = l.length - k ∧ i = .int .i64 k ∧ Hid (ChTo labOk labLt l k) ∧ Below w.heap.size w wr)
  case atStart => exact ⟨0, Nat.zero_le _, rfl, rfl, Lib.hid (ChTo.zero _), Below.refl _ _⟩
  case round =>
    obtain ⟨k, hk, hg, rfl, HC, hb⟩ := hrel
    have HG := Lib.hid hg
    clear hg
    by_cases hlt : k < l.length
    · have hx := get_some hlt
      generalize l[k] = x at hx
      obtain ⟨x1, x2⟩ := x
      obtain ⟨hxa, hxb⟩ : x1.length ≤ 9223372036854775807 ∧ x2.length ≤ 9223372036854775807 := by have := hbd _ (List.mem_of_getElem? hx); simp only at this; omega
      obtain ⟨b, off, rfl, c0, c1⟩ := hv.at hb hx
      simp only at c0 c1
      have HX := Lib.hid hx
      clear hx
      cases hok : keyOk x1
      · go_wp2_with (first | (go_at_call 29; refine (validKey_any _ _ hxa).mono ?_; rintro e w' ⟨rfl, rfl⟩))
        go_ret
        exact ⟨ret_bool (by rw [HE.out, chain_bad HX.out (labOk_key hok)]), below_all hb (below_alloc _ _)⟩
      cases hok2 : valOk x2
      · go_wp2_with (first | (go_at_call 29; refine (validKey_any _ _ hxa).mono ?_; rintro e w' ⟨rfl, rfl⟩) | (go_at_call 30; refine (validValue_any _ _ hxb).mono ?_; rintro e w' ⟨rfl, rfl⟩))
        go_ret
        exact ⟨ret_bool (by rw [HE.out, chain_bad HX.out (labOk_val hok2)]), below_all hb (below_alloc _ _)⟩
      go_wp2_with (first | (go_at_call 29; refine (validKey_any _ _ hxa).mono ?_; rintro e w' ⟨rfl, rfl⟩) | (go_at_call 30; refine (validValue_any _ _ hxb).mono ?_; rintro e w' ⟨rfl, rfl⟩))
      have o := Own.new wr [sV x1, sV x2] 45
      have hb1 := below_all hb (below_alloc wr (.cells #[sV x1, sV x2] 45))
      have e0 : (wr.alloc (.cells #[sV x1, sV x2] 45)).cell? ⟨wr.heap.size, 0, none⟩ = some (sV x1) := o.cell rfl
      clear c0 c1 hb o
      generalize wr.alloc (.cells #[sV x1, sV x2] 45) = V at *
      generalize wr.heap.size = hz at *
      by_cases hp : 0 < k
      · have hp2 : decide ((0 : Int) < (k : Int)) = true := decide_eq_true (by omega)
        have hy := get_some (show k - 1 < l.length by omega)
        generalize l[k - 1] = y at hy
        obtain ⟨y1, y2⟩ := y
        obtain ⟨b', off', he, d0, d1⟩ := hv.at hb1 hy
        cases he
        simp only at d0 d1
        cases hyx : Op.bytesLess y1 x1
        · go_quiet (fail)
          go_wp2
          go_ret
          exact ⟨ret_bool (by rw [HE.out, chain_bad_lt HX.out hp hy hyx]), below_all hb1 (below_drewN _ _)⟩
        · go_quiet (fail)
          go_wp2
          go_roundg (l.length - (k + 1))
          case measure => have := HG.out; omega
          case rel => exact ⟨k + 1, by omega, rfl, by go_num, Lib.hid (HC.out.succ HX.out (labOk_yes hok hok2) (ChTo.at_pos hy hyx)), below_all hb1 (below_drewN _ _)⟩
      · have hp2 : decide ((0 : Int) < (k : Int)) = false := decide_eq_false (by omega)
        go_quiet (fail)
        go_wp2
        go_roundg (l.length - (k + 1))
        case measure => have := HG.out; omega
        case rel => exact ⟨k + 1, by omega, rfl, by go_num, Lib.hid (HC.out.succ HX.out (labOk_yes hok hok2) (ChTo.at_zero hp)), below_all hb1 (below_drewN _ _)⟩
    · obtain rfl : k = l.length := by omega
      go_wp2
      go_ret
      exact ⟨ret_bool (by rw [HE.out, chain_of HC.out]), hb⟩

set_option maxHeartbeats 2000000 in
theorem rvalid_any (v : Value) (l : List Lab) (w : World) (hv : Labs w v l) (hbd : LBd l) :
    Calls Tryd.prog 14 #[v] w fun e w' => e = .returned (.bool (labsOk l)) ∧ Below w.heap.size w w' := by
  obtain ⟨ao, cap, rfl, hlc, hcap, -⟩ := hv.out
  unfold maxLen at hcap
  by_cases h1 : 16 < l.length
  · go_enter Tryd.func14, Tryd.ntmps14
    go_wp2
    go_ret
    exact ⟨ret_bool (labsOk_len h1).symm, Below.refl _ _⟩
  have HE := Lib.hid (labsOk_eq h1)
  go_enter Tryd.func14, Tryd.ntmps14
  go_wp2
  go_loopg [3] l.length (fun g i wr => ∃ k : Nat, k ≤ l.length ∧ g = l.length - k ∧ i = .int .i64 k ∧ Hid (ChTo labOk labLt l k) ∧ Below w.heap.size w wr)
  case atStart => exact ⟨0, Nat.zero_le _, rfl, rfl, Lib.hid (ChTo.zero _), Below.refl _ _⟩
  case round =>
    obtain ⟨k, hk, hg, rfl, HC, hb⟩ := hrel
    have HG := Lib.hid hg
    clear hg
    by_cases hlt : k < l.length
    · have hx := get_some hlt
      generalize l[k] = x at hx
      obtain ⟨x1, x2⟩ := x
      obtain ⟨hxa, hxb⟩ : x1.length ≤ 9223372036854775807 ∧ x2.length ≤ 9223372036854775807 := by have := hbd _ (List.mem_of_getElem? hx); simp only at this; omega
      obtain ⟨b, off, rfl, c0, c1⟩ := hv.at hb hx
      simp only at c0 c1
      have HX := Lib.hid hx
      clear hx
      have CK := Lib.hid (fun w2 => rvalidKey_any x1 w2 hxa)
      have CV := Lib.hid (fun w2 => rvalidValue_any x2 w2 hxb)
      cases hok : keyOk x1
      · rw [hok] at CK
        go_wp2
        go_quiet (first | (go_at_call 31; exact quiet_same (CK.out _)) | (go_at_call 32; exact quiet_same (CV.out _)))
        go_wp2
        go_ret
        exact ⟨ret_bool (by rw [HE.out, chain_bad HX.out (labOk_key hok)]), below_all hb (below_drewN _ _)⟩
      rw [hok] at CK
      cases hok2 : valOk x2
      · rw [hok2] at CV
        go_wp2
        go_quiet (first | (go_at_call 31; exact quiet_same (CK.out _)) | (go_at_call 32; exact quiet_same (CV.out _)))
        go_wp2
        go_ret
        exact ⟨ret_bool (by rw [HE.out, chain_bad HX.out (labOk_val hok2)]), below_all hb (below_drewN _ _)⟩
      rw [hok2] at CV
      by_cases hp : 0 < k
      · have hp2 : decide ((0 : Int) < (k : Int)) = true := decide_eq_true (by omega)
        have hy := get_some (show k - 1 < l.length by omega)
        generalize l[k - 1] = y at hy
        obtain ⟨y1, y2⟩ := y
        obtain ⟨b', off', he, d0, d1⟩ := hv.at hb hy
        cases he
        simp only at d0 d1
        cases hyx : Op.bytesLess y1 x1
        · go_wp2
          go_quiet (first | (go_at_call 31; exact quiet_same (CK.out _)) | (go_at_call 32; exact quiet_same (CV.out _)))
          go_wp2
          go_ret
          exact ⟨ret_bool (by rw [HE.out, chain_bad_lt HX.out hp hy hyx]), below_all hb (below_drewN _ _)⟩
        · go_wp2
          go_quiet (first | (go_at_call 31; exact quiet_same (CK.out _)) | (go_at_call 32; exact quiet_same (CV.out _)))
          go_wp2
          go_roundg (l.length - (k + 1))
          case measure => have := HG.out; omega
          case rel => exact ⟨k + 1, by omega, rfl, by go_num, Lib.hid (HC.out.succ HX.out (labOk_yes hok hok2) (ChTo.at_pos hy hyx)), below_all hb (below_drewN _ _)⟩
      · have hp2 : decide ((0 : Int) < (k : Int)) = false := decide_eq_false (by omega)
        go_wp2
        go_quiet (first | (go_at_call 31; exact quiet_same (CK.out _)) | (go_at_call 32; exact quiet_same (CV.out _)))
        go_wp2
        go_roundg (l.length - (k + 1))
        case measure => have := HG.out; omega
        case rel => exact ⟨k + 1, by omega, rfl, by go_num, Lib.hid (HC.out.succ HX.out (labOk_yes hok hok2) (ChTo.at_zero hp)), below_all hb (below_drewN _ _)⟩
    · obtain rfl : k = l.length := by omega
      go_wp2
      go_ret
      exact ⟨ret_bool (by rw [HE.out, chain_of HC.out]), hb⟩
end Go.Proofs.YtfohhokdcobhjaaDoor
