/- Contracts of checkParsed, wrong, at and word. -/
import Derived.Test.YtfohhokdcobhjaaDoorWj
namespace Go.Proofs.YtfohhokdcobhjaaDoor
open Go.RowKit Go.Sort Go.Proofs.LawFrame

/-- what is wrong with a requirement that follows the grammar -/
def errOf (r : Req) : Int := if keyOk r.key = false then 1 else if r.vals.all valOk = false then 1 else if 64 < r.vals.length then 4 else 0
theorem errOf_key {key : Str} {op : Int} {vals : List Str} (h : keyOk key = false) : errOf ⟨key, op, vals⟩ = 1 := by unfold errOf; rw [if_pos h]
theorem errOf_val {key : Str} {op : Int} {vals : List Str} (h : keyOk key = true) (h2 : vals.all valOk = false) : errOf ⟨key, op, vals⟩ = 1 := by
  unfold errOf; rw [if_neg (by simp [h]), if_pos h2]
theorem errOf_long {key : Str} {op : Int} {vals : List Str} (h : keyOk key = true) (h2 : vals.all valOk = true) (h3 : 64 < vals.length) : errOf ⟨key, op, vals⟩ = 4 := by
  unfold errOf; rw [if_neg (by simp [h]), if_neg (by simp [h2]), if_pos h3]
theorem errOf_ok {key : Str} {op : Int} {vals : List Str} (h : keyOk key = true) (h2 : vals.all valOk = true) (h3 : ¬ 64 < vals.length) : errOf ⟨key, op, vals⟩ = 0 := by
  unfold errOf; rw [if_neg (by simp [h]), if_neg (by simp [h2]), if_neg h3]

set_option maxHeartbeats 1000000 in
theorem checkParsed_any (ao : Option Addr) (n cap : Nat) (r : Req) (w : World) (hv : Strs w (.slice ao n cap) r.vals) (hbd : RBd r) :
    Calls Tryd.prog 44 #[.agg #[sV r.key, .int .i64 r.op, .slice ao n cap]] w fun e w' => e = .returned (.int .i64 (errOf r)) ∧ Below w.heap.size w w' := by
  obtain ⟨key, op, vals⟩ := r
  obtain ⟨ao', cap', he, hlc, hcap, -⟩ := hv.out
  cases he
  unfold maxLen at hcap
  simp only at hlc
  have hk : key.length ≤ 9223372036854775807 := by have := hbd.1; simp only at this; omega
  have hbv : Bd vals := hbd.2
  cases hok : keyOk key
  · go_enter Tryd.func44, Tryd.ntmps44
    go_wp2_with (go_at_call 29; refine (validKey_any _ _ hk).mono ?_; rintro e w' ⟨rfl, rfl⟩)
    go_ret
    exact ⟨ret_int (errOf_key hok).symm, below_alloc _ _⟩
  go_enter Tryd.func44, Tryd.ntmps44
  go_wp2_with (go_at_call 29; refine (validKey_any _ _ hk).mono ?_; rintro e w' ⟨rfl, rfl⟩)
  have hb := below_alloc w (.cells #[sV key, .int .i64 op, .slice ao vals.length cap] 43)
  have o0 := Own.new w [sV key, .int .i64 op, .slice ao vals.length cap] 43
  have hsl : (w.alloc (.cells #[sV key, .int .i64 op, .slice ao vals.length cap] 43)).cell? ⟨w.heap.size, 2, none⟩ = some (.slice ao vals.length cap) := o0.cell rfl
  have hvs : Strs _ (.slice ao vals.length cap) vals := hv.all hb
  clear o0 hv
  generalize w.alloc (.cells #[sV key, .int .i64 op, .slice ao vals.length cap] 43) = W at *
  go_loop [12] (fun i => ∃ k : Nat, k ≤ vals.length ∧ i = .int .i64 k ∧ Hid (PreA valOk vals k)) (fun i => vals.length - (intOf i).toNat)
  case atStart => exact ⟨0, Nat.zero_le _, rfl, Lib.hid (PreA.zero _)⟩
  case round =>
    obtain ⟨k, hk, rfl, HC⟩ := hrel
    by_cases hlt : k < vals.length
    · have hx := get_some hlt
      generalize vals[k] = x at hx
      have hxl : x.length ≤ 9223372036854775807 := by have := hbv x (List.mem_of_getElem? hx); omega
      obtain ⟨b, off, rfl, c0⟩ := hvs.at (Below.refl _ _) hx
      have HX := Lib.hid hx
      clear hx
      cases hok2 : valOk x
      · go_wp2_with (go_at_call 30; refine (validValue_any _ _ hxl).mono ?_; rintro e w' ⟨rfl, rfl⟩)
        go_ret
        exact ⟨ret_int (errOf_val hok (all_bad HX.out hok2)).symm, hb⟩
      · go_wp2_with (go_at_call 30; refine (validValue_any _ _ hxl).mono ?_; rintro e w' ⟨rfl, rfl⟩)
        go_round
        case rel => exact ⟨k + 1, by omega, by go_num, Lib.hid (HC.out.succ HX.out hok2)⟩
        case measure => simp [intOf]; omega
    · obtain rfl : k = vals.length := by omega
      by_cases h64 : 64 < vals.length
      · go_wp2
        go_ret
        exact ⟨ret_int (errOf_long hok HC.out.all h64).symm, hb⟩
      · go_wp2
        go_ret
        exact ⟨ret_int (errOf_ok hok HC.out.all h64).symm, hb⟩

set_option maxHeartbeats 1000000 in
theorem wrong_any (ao : Option Addr) (n cap : Nat) (r : Req) (w : World) (hv : Strs w (.slice ao n cap) r.vals) (hbd : RBd r) :
    Calls Tryd.prog 47 #[.agg #[sV r.key, .int .i64 r.op, .slice ao n cap]] w fun e w' => e = .returned (.int .i64 (errOf r)) ∧ Below w.heap.size w w' := by
  obtain ⟨key, op, vals⟩ := r
  obtain ⟨ao', cap', he, hlc, hcap, -⟩ := hv.out
  cases he
  unfold maxLen at hcap
  simp only at hlc
  have hk : key.length ≤ 9223372036854775807 := by have := hbd.1; simp only at this; omega
  have hbv : Bd vals := hbd.2
  cases hok : keyOk key
  · go_enter Tryd.func47, Tryd.ntmps47
    go_wp2_with (go_at_call 31; refine (rvalidKey_any _ _ hk).mono ?_; rintro e w' ⟨rfl, rfl⟩)
    go_ret
    exact ⟨ret_int (errOf_key hok).symm, below_alloc _ _⟩
  go_enter Tryd.func47, Tryd.ntmps47
  go_wp2_with (go_at_call 31; refine (rvalidKey_any _ _ hk).mono ?_; rintro e w' ⟨rfl, rfl⟩)
  have hb := below_alloc w (.cells #[sV key, .int .i64 op, .slice ao vals.length cap] 43)
  have o0 := Own.new w [sV key, .int .i64 op, .slice ao vals.length cap] 43
  have hsl : (w.alloc (.cells #[sV key, .int .i64 op, .slice ao vals.length cap] 43)).cell? ⟨w.heap.size, 2, none⟩ = some (.slice ao vals.length cap) := o0.cell rfl
  have hvs : Strs _ (.slice ao vals.length cap) vals := hv.all hb
  clear o0 hv
  generalize w.alloc (.cells #[sV key, .int .i64 op, .slice ao vals.length cap] 43) = W at *
  go_loop [3] (fun i => ∃ k : Nat, k ≤ vals.length ∧ i = .int .i64 k ∧ Hid (PreA valOk vals k)) (fun i => vals.length - (intOf i).toNat)
  case atStart => exact ⟨0, Nat.zero_le _, rfl, Lib.hid (PreA.zero _)⟩
  case round =>
    obtain ⟨k, hk, rfl, HC⟩ := hrel
    by_cases hlt : k < vals.length
    · have hx := get_some hlt
      generalize vals[k] = x at hx
      have hxl : x.length ≤ 9223372036854775807 := by have := hbv x (List.mem_of_getElem? hx); omega
      obtain ⟨b, off, rfl, c0⟩ := hvs.at (Below.refl _ _) hx
      have HX := Lib.hid hx
      clear hx
      cases hok2 : valOk x
      · go_wp2_with (go_at_call 32; refine (rvalidValue_any _ _ hxl).mono ?_; rintro e w' ⟨rfl, rfl⟩)
        go_ret
        exact ⟨ret_int (errOf_val hok (all_bad HX.out hok2)).symm, hb⟩
      · go_wp2_with (go_at_call 32; refine (rvalidValue_any _ _ hxl).mono ?_; rintro e w' ⟨rfl, rfl⟩)
        go_round
        case rel => exact ⟨k + 1, by omega, by go_num, Lib.hid (HC.out.succ HX.out hok2)⟩
        case measure => simp [intOf]; omega
    · obtain rfl : k = vals.length := by omega
      by_cases h64 : 64 < vals.length
      · go_wp2
        go_ret
        exact ⟨ret_int (errOf_long hok HC.out.all h64).symm, hb⟩
      · go_wp2
        go_ret
        exact ⟨ret_int (errOf_ok hok HC.out.all h64).symm, hb⟩

/-- the token with an index, or nothing -/
def tokAt (l : List Str) (i : Nat) : Str := l.getD i []
theorem tokAt_some {l : List Str} {i : Nat} {x : Str} (h : l[i]? = some x) : tokAt l i = x := by unfold tokAt; rw [List.getD_eq_getElem?_getD, h]; rfl
theorem tokAt_none {l : List Str} {i : Nat} (h : ¬ i < l.length) : tokAt l i = [] := by unfold tokAt; rw [List.getD_eq_getElem?_getD, List.getElem?_eq_none (by omega)]; rfl

set_option maxHeartbeats 1000000 in
theorem at_any (v : Value) (l : List Str) (i : Nat) (w : World) (hv : Strs w v l) (hi : i ≤ 1000000) :
    Calls Tryd.prog 64 #[v, .int .i64 i] w fun e w' => e = .returned (sV (tokAt l i)) ∧ w = w' := by
  obtain ⟨ao, cap, rfl, hlc, hcap, -⟩ := hv.out
  unfold maxLen at hcap
  by_cases hlt : i < l.length
  · have hx := get_some hlt
    generalize l[i] = x at hx
    obtain ⟨b, off, rfl, c0⟩ := hv.at (Below.refl _ _) hx
    have HX := Lib.hid (tokAt_some hx)
    clear hx
    go_enter Tryd.func64, Tryd.ntmps64
    go_wp2
    go_ret
    exact ⟨by rw [HX.out]; rfl, rfl⟩
  · go_enter Tryd.func64, Tryd.ntmps64
    go_wp2
    go_ret
    exact ⟨by rw [tokAt_none hlt]; rfl, rfl⟩

/-- a token that is a word -/
def isWord (s : Str) : Bool := match s with | [] => false | c :: _ => isWb c
set_option maxHeartbeats 1000000 in
theorem word_any (s : Str) (w : World) :
    Calls Tryd.prog 65 #[sV s] w fun e w' => e = .returned (.bool (isWord s)) ∧ w = w' := by
  cases s with
  | nil =>
    go_enter Tryd.func65, Tryd.ntmps65
    go_wp2
    go_ret
    exact ⟨rfl, rfl⟩
  | cons c t =>
    have hp : 0 < (c :: t).length := by simp
    have C := Lib.hid (char_any c)
    go_enter Tryd.func65, Tryd.ntmps65
    go_wp2_with (go_at_call 55; refine (C.out _).mono ?_; rintro e w' ⟨rfl, rfl⟩)
    go_ret
    exact ⟨rfl, rfl⟩
end Go.Proofs.YtfohhokdcobhjaaDoor
