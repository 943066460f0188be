/- Contracts of the reference's shown and of both Prints. -/
import Derived.Test.YtfohhokdcobhjaaDoorWm
import Derived.Test.YtfohhokdcobhjaaDoorPa
namespace Go.Proofs.YtfohhokdcobhjaaDoor
open Go.RowKit Go.Sort Go.Proofs.LawFrame

theorem jnTo_len {vals : List Str} (h : vals.length ≤ 64) (h2 : ∀ x ∈ vals, x.length ≤ 40) (k : Nat) : (jnTo [44] vals k).length ≤ 2624 :=
  jn_len [44] (vals.take k) (m := 40) (n := 64) (fun x hx => h2 x (List.mem_of_mem_take hx)) (by rw [List.length_take]; omega)

set_option maxHeartbeats 1000000 in
theorem shown_any (ao : Option Addr) (n cap : Nat) (r : Req) (w : World) (hv : Strs w (.slice ao n cap) r.vals) (hok : reqOk r = true) :
    Calls Tryd.prog 51 #[.agg #[sV r.key, .int .i64 r.op, .slice ao n cap]] w fun e w' => e = .returned (sV (reqText r)) ∧ Below w.heap.size w w' := by
  have hvl := (reqOk_vals hok).1
  have hop := reqOk_op hok
  have hkl := keyOk_le (reqOk_keyOk hok)
  have HV : Hid (r.vals.length ≤ 64 ∧ ∀ x ∈ r.vals, x.length ≤ 40) := Lib.hid ⟨hvl, fun x hx => valOk_le ((reqOk_vals hok).2 x hx)⟩
  obtain ⟨key, op, vals⟩ := r
  obtain ⟨ao', cap', he, hlc, hcap, -⟩ := hv.out
  cases he
  unfold maxLen at hcap
  simp only at hlc hvl hop hv hkl HV
  clear hok
  rcases hop with rfl | rfl | rfl | rfl
  · go_enter Tryd.func51, Tryd.ntmps51
    go_wp2
    have hw0 := below_alloc w (.cells #[sV key, .int .i64 1, .slice ao vals.length cap] 43)
    have o0 := Own.new w [sV key, .int .i64 1, .slice ao vals.length cap] 43
    have hvs : Strs _ (.slice ao vals.length cap) vals := hv.all hw0
    generalize w.alloc (.cells #[sV key, .int .i64 1, .slice ao vals.length cap] 43) = W at *
    have c2 := o0.cell (i := 2) rfl
    clear o0
    go_loop [3, 4] (fun s i => ∃ k : Nat, k ≤ vals.length ∧ i = .int .i64 k ∧ s = sV (key ++ [32, 105, 110, 32, 40] ++ jnTo [44] vals k)) (fun _ i => vals.length - (intOf i).toNat)
    case atStart => exact ⟨0, Nat.zero_le _, rfl, congrArg Value.string (by rw [jnTo_zero]; apply ByteArray.ext; simp)⟩
    case round =>
      obtain ⟨k, hk, rfl, rfl⟩ := hrel
      by_cases hlt : k < vals.length
      · have hx := get_some hlt
        generalize vals[k] = x at hx
        obtain ⟨b, off, rfl, c0⟩ := hvs.at (Below.refl _ _) hx
        have hjl := jnTo_len HV.out.1 HV.out.2 k
        have hxl := HV.out.2 x (List.mem_of_getElem? hx)
        have HX := Lib.hid hx
        clear hx
        by_cases hp : 0 < k
        · have hp2 : (0 : Int) < (k : Int) := by omega
          go_wp2
          go_round
          case rel => exact ⟨k + 1, by omega, by go_num, congrArg Value.string (by rw [jnTo_succ [44] hp HX.out]; apply ByteArray.ext; simp)⟩
          case measure => simp [intOf]; omega
        · have hp2 : ¬ (0 : Int) < (k : Int) := by omega
          obtain rfl : k = 0 := by omega
          have c0' : W.cell? ⟨b, off, none⟩ = some (sV x) := c0
          go_wp2
          go_round
          case rel => exact ⟨0 + 1, by omega, by go_num, congrArg Value.string (by rw [show jnTo [44] vals (0 + 1) = x from jnTo_first [44] HX.out]; apply ByteArray.ext; simp [jnTo_zero])⟩
          case measure => simp [intOf]; omega
      · obtain rfl : k = vals.length := by omega
        have hjl := jnTo_len HV.out.1 HV.out.2 vals.length
        go_wp2
        go_ret
        exact ⟨ret_s (by rw [reqText_1]; apply ByteArray.ext; simp [jnTo_all]), hw0⟩
  · go_enter Tryd.func51, Tryd.ntmps51
    go_wp2
    have hw0 := below_alloc w (.cells #[sV key, .int .i64 2, .slice ao vals.length cap] 43)
    have o0 := Own.new w [sV key, .int .i64 2, .slice ao vals.length cap] 43
    have hvs : Strs _ (.slice ao vals.length cap) vals := hv.all hw0
    generalize w.alloc (.cells #[sV key, .int .i64 2, .slice ao vals.length cap] 43) = W at *
    have c2 := o0.cell (i := 2) rfl
    clear o0
    go_loop [3, 4] (fun s i => ∃ k : Nat, k ≤ vals.length ∧ i = .int .i64 k ∧ s = sV (key ++ [32, 110, 111, 116, 105, 110, 32, 40] ++ jnTo [44] vals k)) (fun _ i => vals.length - (intOf i).toNat)
    case atStart => exact ⟨0, Nat.zero_le _, rfl, congrArg Value.string (by rw [jnTo_zero]; apply ByteArray.ext; simp)⟩
    case round =>
      obtain ⟨k, hk, rfl, rfl⟩ := hrel
      by_cases hlt : k < vals.length
      · have hx := get_some hlt
        generalize vals[k] = x at hx
        obtain ⟨b, off, rfl, c0⟩ := hvs.at (Below.refl _ _) hx
        have hjl := jnTo_len HV.out.1 HV.out.2 k
        have hxl := HV.out.2 x (List.mem_of_getElem? hx)
        have HX := Lib.hid hx
        clear hx
        by_cases hp : 0 < k
        · have hp2 : (0 : Int) < (k : Int) := by omega
          go_wp2
          go_round
          case rel => exact ⟨k + 1, by omega, by go_num, congrArg Value.string (by rw [jnTo_succ [44] hp HX.out]; apply ByteArray.ext; simp)⟩
          case measure => simp [intOf]; omega
        · have hp2 : ¬ (0 : Int) < (k : Int) := by omega
          obtain rfl : k = 0 := by omega
          have c0' : W.cell? ⟨b, off, none⟩ = some (sV x) := c0
          go_wp2
          go_round
          case rel => exact ⟨0 + 1, by omega, by go_num, congrArg Value.string (by rw [show jnTo [44] vals (0 + 1) = x from jnTo_first [44] HX.out]; apply ByteArray.ext; simp [jnTo_zero])⟩
          case measure => simp [intOf]; omega
      · obtain rfl : k = vals.length := by omega
        have hjl := jnTo_len HV.out.1 HV.out.2 vals.length
        go_wp2
        go_ret
        exact ⟨ret_s (by rw [reqText_2]; apply ByteArray.ext; simp [jnTo_all]), hw0⟩
  · go_enter Tryd.func51, Tryd.ntmps51
    go_wp2
    go_ret
    exact ⟨rfl, below_alloc _ _⟩
  · go_enter Tryd.func51, Tryd.ntmps51
    go_wp2
    go_ret
    exact ⟨ret_s (str_app [33] key), below_alloc _ _⟩

/-- text and error of Print -/
def printS (s : List Req) : Str := if selOk s = false then [] else if 20000 < (selText s).length then [] else selText s
def printE (s : List Req) : Int := if selOk s = false then 1 else if 20000 < (selText s).length then 4 else 0
theorem print_bad {s : List Req} (h : selOk s = false) : printS s = [] ∧ printE s = 1 := by unfold printS printE; rw [if_pos h, if_pos h]; exact ⟨rfl, rfl⟩
theorem print_long {s : List Req} (h : selOk s = true) (h2 : 20000 < (selText s).length) : printS s = [] ∧ printE s = 4 := by
  unfold printS printE; rw [h]; simp [h2]
theorem print_ok {s : List Req} (h : selOk s = true) (h2 : ¬ 20000 < (selText s).length) : printS s = selText s ∧ printE s = 0 := by
  unfold printS printE; rw [h]; simp [h2]
/-- the texts of the first k requirements -/
def txtTo (s : List Req) (k : Nat) : List Str := (s.take k).map reqText
theorem txtTo_succ {s : List Req} {k : Nat} {r : Req} (h : s[k]? = some r) : txtTo s (k + 1) = txtTo s k ++ [reqText r] := by
  obtain ⟨hlt, rfl⟩ := List.getElem?_eq_some_iff.1 h
  unfold txtTo; rw [List.take_succ_eq_append_getElem hlt, List.map_append]; rfl
theorem txtTo_len {s : List Req} {k : Nat} (h : k ≤ s.length) : (txtTo s k).length = k := by unfold txtTo; rw [List.length_map, List.length_take]; omega
theorem txtTo_all (s : List Req) : txtTo s s.length = s.map reqText := by unfold txtTo; rw [List.take_length]

set_option maxRecDepth 4000 in
set_option maxHeartbeats 2000000 in
theorem print_any (v : Value) (s : List Req) (w : World) (hv : Reqs w v s) (hbd : SBd s) :
    Calls Tryd.prog 27 #[v] w fun e w' => e = .returned (.tuple #[sV (printS s), .int .i64 (printE s)]) ∧ Below w.heap.size w w' := by
  obtain ⟨ao, cap, rfl, hlc, hcap⟩ := hv.slice
  unfold maxLen at hcap
  cases hok : selOk s
  · go_enter Tryd.func27, Tryd.ntmps27
    go_wp2_with (go_at_call 15; refine (validSelector_any _ _ _ hv hbd).mono ?_; rintro e w' ⟨rfl, hb⟩)
    go_ret2
    exact ⟨tup2 (by rw [(print_bad hok).1]; rfl) (by rw [(print_bad hok).2]; rfl), hb⟩
  have hl16 := (selOk_mem hok).1
  have hlen := selText_len hok
  have HM := Lib.hid (selOk_mem hok).2
  obtain ⟨i9, hi9, hz9, hs9, hy9⟩ := info_parts info9
  go_enter Tryd.func27, Tryd.ntmps27
  go_wp2_with (first | (go_at_call 15; refine (validSelector_any _ _ _ hv hbd).mono ?_; rintro e w1 ⟨rfl, hb⟩) | (at_make; refine wpList_make_own _ rfl _ _ 41 rfl w.heap.size 9 i9 (.string ⟨#[]⟩) 1 Tryd.underlying41 hi9 hz9 hs9 .i64 .i64 _ s.length rfl rfl rfl (by rw [hy9]; omega) (by unfold maxLen; omega) hb.size ?_; intro w2 hown hgrow))
  replace hb := below_grown hb hgrow hb.size (fun k h => by cases h)
  clear hgrow
  generalize Value.slice (some ⟨w1.heap.size, 0, none⟩) 0 s.length = pv at *
  go_loopg [4, 16] s.length (fun g p i wr => ∃ k : Nat, k ≤ s.length ∧ g = s.length - k ∧ i = .int .i64 k ∧ Below w.heap.size w wr ∧ wr.ownsRow w.heap.size 9 1 p k ((txtTo s k).map sV))
  case atStart => exact ⟨0, Nat.zero_le _, rfl, rfl, hb, hown⟩
  case round =>
    clear hb hown
    obtain ⟨k, hk, hg, rfl, hb, hown⟩ := hrel
    have HG := Lib.hid hg
    clear hg
    by_cases hlt : k < s.length
    · have hx := get_some hlt
      generalize s[k] = x at hx
      obtain ⟨b, off, c, rfl, hi, c0, c1, c2⟩ := hv.at hb hx
      have hvs := hi.vals
      have hxo : reqOk x = true := HM.out x (List.mem_of_getElem? hx)
      have HX := Lib.hid hx
      clear hx hi
      have ho1 := hown.alloc (.cells #[sV x.key, .int .i64 x.op, .slice c.ao c.n c.cap] 43)
      have hb1 := below_all hb (below_alloc wr (.cells #[sV x.key, .int .i64 x.op, .slice c.ao c.n c.cap] 43))
      go_wp2_with (first | (go_at_call 49; refine (requirementText_any _ _ _ _ _ (hvs.all (below_alloc _ _)) hxo).mono ?_; rintro e w4 ⟨rfl, hb2⟩; have ho2 := own_below ho1 hb2; have hb3 := below_all hb1 hb2) | (at_builtin; refine wpList_append_own _ rfl (.tmp 20) (.tmp 23) 41 rfl w.heap.size 9 i9 (.string ⟨#[]⟩) 1 16 Tryd.underlying41 hi9 hz9 hs9 hy9 rfl (by decide) _ _ _ rfl (ho2.alloc _) ⟨w4.heap.size, 0, none⟩ 1 1 [sV (reqText x)] rfl rfl (cell_one_new _ _ _) (fun u hu => by simp at hu; subst hu; rfl) (by unfold maxLen; omega) (by omega) (by have := hb3.size; simp; omega) ?_; intro v' w5 hown5 hgrow5 hnil5))
      go_roundg (s.length - (k + 1))
      case measure => have := HG.out; omega
      case rel => exact ⟨k + 1, by omega, rfl, by go_num, below_grown (below_all hb3 (below_alloc _ _)) hgrow5 (by have := hb3.size; simp; omega) (own_row ho2), by rw [txtTo_succ HX.out, List.map_append]; exact hown5⟩
    · obtain rfl : k = s.length := by omega
      have hst : Strs wr u4 (s.map reqText) := by
        have := Flat.of_own hown
        rw [txtTo_all] at this
        unfold Strs; rw [List.length_map]; exact this
      have hjl : (jn [44, 32] (s.map reqText)).length ≤ 140737488355328 := Nat.le_trans hlen (by decide)
      have hml : (s.map reqText).length ≤ 140737488355328 := by rw [List.length_map]; omega
      have CJ := Lib.hid (join_any u4 (s.map reqText) [44, 32] wr hst hjl hml)
      clear hst hjl hml hown
      rw [show jn [44, 32] (s.map reqText) = selText s from rfl] at CJ
      generalize hT : selText s = T at *
      have HTT := Lib.hid hT
      clear hT
      by_cases h2 : 20000 < T.length
      · go_wp2_with (go_at_call 50; refine CJ.out.mono ?_; rintro e w6 ⟨rfl, hb6⟩)
        go_ret2
        rw [← HTT.out] at h2
        exact ⟨tup2 (by rw [(print_long hok h2).1]; rfl) (by rw [(print_long hok h2).2]; rfl), below_all hb hb6⟩
      · go_wp2_with (go_at_call 50; refine CJ.out.mono ?_; rintro e w6 ⟨rfl, hb6⟩)
        go_ret2
        rw [← HTT.out] at h2 ⊢
        exact ⟨tup2 (by rw [(print_ok hok h2).1]; rfl) (by rw [(print_ok hok h2).2]; rfl), below_all hb hb6⟩

theorem selTo_first {s : List Req} {r : Req} (h : s[0]? = some r) : jn [44, 32] (txtTo s 1) = reqText r := by
  cases s with
  | nil => simp at h
  | cons a t => simp at h; subst h; simp [txtTo, jn]
theorem selTo_succ {s : List Req} {k : Nat} {r : Req} (hk : 0 < k) (h : s[k]? = some r) : jn [44, 32] (txtTo s (k + 1)) = jn [44, 32] (txtTo s k) ++ [44, 32] ++ reqText r := by
  rw [txtTo_succ h, jn_snoc]
  intro h0
  have := congrArg List.length h0
  rw [txtTo_len (by have := (List.getElem?_eq_some_iff.1 h).1; omega)] at this
  simp at this; omega
theorem selTo_len {s : List Req} (h : selOk s = true) (k : Nat) : (jn [44, 32] (txtTo s k)).length ≤ 43232 := by
  have := selOk_mem h
  refine jn_len [44, 32] (txtTo s k) (m := 2700) (n := 16) (fun x hx => ?_) (by unfold txtTo; rw [List.length_map, List.length_take]; omega)
  obtain ⟨r, hr, rfl⟩ := List.mem_map.1 hx
  exact reqText_len (this.2 r (List.mem_of_mem_take hr))

set_option maxHeartbeats 2000000 in
theorem rprint_any (v : Value) (s : List Req) (w : World) (hv : Reqs w v s) (hbd : SBd s) :
    Calls Tryd.prog 28 #[v] w fun e w' => e = .returned (.tuple #[sV (printS s), .int .i64 (printE s)]) ∧ Below w.heap.size w w' := by
  obtain ⟨ao, cap, rfl, hlc, hcap⟩ := hv.slice
  unfold maxLen at hcap
  cases hok : selOk s
  · go_enter Tryd.func28, Tryd.ntmps28
    go_wp2_with (go_at_call 16; refine (rvalidSelector_any _ _ _ hv hbd).mono ?_; rintro e w' ⟨rfl, hb⟩)
    go_ret2
    exact ⟨tup2 (by rw [(print_bad hok).1]; rfl) (by rw [(print_bad hok).2]; rfl), hb⟩
  have hl16 := (selOk_mem hok).1
  have HT := Lib.hid (selTo_len hok)
  have HM := Lib.hid (selOk_mem hok).2
  go_enter Tryd.func28, Tryd.ntmps28
  go_wp2_with (first | (go_at_call 16; refine (rvalidSelector_any _ _ _ hv hbd).mono ?_; rintro e w1 ⟨rfl, hb⟩))
  go_loopg [4, 5] s.length (fun g p i wr => ∃ k : Nat, k ≤ s.length ∧ g = s.length - k ∧ i = .int .i64 k ∧ Below w.heap.size w wr ∧ p = sV (jn [44, 32] (txtTo s k)))
  case atStart => exact ⟨0, Nat.zero_le _, rfl, rfl, hb, rfl⟩
  case round =>
    clear hb
    obtain ⟨k, hk, hg, rfl, hb, rfl⟩ := hrel
    have HG := Lib.hid hg
    clear hg
    have htl := HT.out k
    by_cases hlt : k < s.length
    · have hx := get_some hlt
      generalize s[k] = x at hx
      obtain ⟨b, off, c, rfl, hi, c0, c1, c2⟩ := hv.at hb hx
      have hvs := hi.vals
      have hxo : reqOk x = true := HM.out x (List.mem_of_getElem? hx)
      have hxt := reqText_len hxo
      have HX := Lib.hid hx
      clear hx hi
      by_cases hp : 0 < k
      · have hp2 : (0 : Int) < (k : Int) := by omega
        have HS := Lib.hid (selTo_succ hp HX.out)
        generalize jn [44, 32] (txtTo s k) = J at *
        go_wp2_with (first | (go_at_call 51; refine (shown_any _ _ _ _ _ hvs hxo).mono ?_; rintro e w4 ⟨rfl, hb2⟩))
        go_roundg (s.length - (k + 1))
        case measure => have := HG.out; omega
        case rel => exact ⟨k + 1, by omega, rfl, by go_num, below_all hb hb2, congrArg Value.string (by rw [HS.out]; apply ByteArray.ext; simp)⟩
      · have hp2 : ¬ (0 : Int) < (k : Int) := by omega
        obtain rfl : k = 0 := by omega
        have HS := Lib.hid (selTo_first HX.out)
        have HJ : Hid (jn [44, 32] (txtTo s 0) = []) := Lib.hid rfl
        simp only [Nat.zero_mul, Nat.add_zero, Nat.zero_add] at c0 c1 c2
        generalize jn [44, 32] (txtTo s 0) = J at *
        go_wp2_with (first | (go_at_call 51; refine (shown_any _ _ _ _ _ hvs hxo).mono ?_; rintro e w4 ⟨rfl, hb2⟩))
        go_roundg (s.length - (0 + 1))
        case measure => have := HG.out; omega
        case rel => exact ⟨0 + 1, by omega, rfl, by go_num, below_all hb hb2, congrArg Value.string (by rw [show jn [44, 32] (txtTo s (0 + 1)) = reqText x from HS.out, HJ.out]; apply ByteArray.ext; simp)⟩
    · obtain rfl : k = s.length := by omega
      have HJ : Hid (jn [44, 32] (txtTo s s.length) = selText s) := Lib.hid (by rw [txtTo_all]; rfl)
      rw [HJ.out]
      rw [HJ.out] at htl
      by_cases h2 : 20000 < (selText s).length
      · go_wp2
        go_ret2
        exact ⟨tup2 (by rw [(print_long hok h2).1]; rfl) (by rw [(print_long hok h2).2]; rfl), hb⟩
      · go_wp2
        go_ret2
        exact ⟨tup2 (by rw [(print_ok hok h2).1]; rfl) (by rw [(print_ok hok h2).2]; rfl), hb⟩
end Go.Proofs.YtfohhokdcobhjaaDoor
