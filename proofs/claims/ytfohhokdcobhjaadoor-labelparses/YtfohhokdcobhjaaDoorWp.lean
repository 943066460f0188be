/- Contracts of With's closures and of IndexFunc with them. -/
import Derived.Test.YtfohhokdcobhjaaDoorWo
namespace Go.Proofs.YtfohhokdcobhjaaDoor
open Go.RowKit Go.Sort Go.Proofs.LawFrame

/-- the key is this one -/
def eqK (key : Str) (p : Lab) : Bool := p.1 == key
/-- the first index whose element passes, or -1 -/
def idxI (p : Lab → Bool) (l : List Lab) : Int := match l.findIdx? p with | some k => (k : Int) | none => -1
theorem idxI_found {p : Lab → Bool} {l : List Lab} {k : Nat} {x : Lab} (h : PreA (fun y => !p y) l k) (hx : l[k]? = some x) (hp : p x = true) : idxI p l = k := by
  unfold idxI
  obtain ⟨hlt, rfl⟩ := List.getElem?_eq_some_iff.1 hx
  rw [List.findIdx?_eq_some_iff_getElem.2 ⟨hlt, hp, fun j hj => by have := h j _ hj (get_some (by omega)); simpa using this⟩]
theorem idxI_none {p : Lab → Bool} {l : List Lab} (h : PreA (fun y => !p y) l l.length) : idxI p l = -1 := by
  unfold idxI
  have : l.findIdx? p = none := by
    rw [List.findIdx?_eq_none_iff]
    intro x hx
    have := h.all; rw [List.all_eq_true] at this; simpa using this x hx
  rw [this]

set_option maxHeartbeats 400000 in
theorem clo37_any (x1 x2 key : Str) (kb : Nat) (w : World) (hkb : kb < w.heap.size) (hk : w.cell? ⟨kb, 0, none⟩ = some (sV key)) :
    Calls Tryd.prog 37 #[.agg #[sV x1, sV x2], .pointer (some ⟨kb, 0, none⟩)] w fun e w' => e = .returned (.bool (eqK key (x1, x2))) ∧ Below w.heap.size w w' := by
  have hk2 : (w.alloc (.cells #[sV x1, sV x2] 45)).cell? ⟨kb, 0, none⟩ = some (sV key) := by
    rw [(below_alloc w (.cells #[sV x1, sV x2] 45)).cell (p := ⟨kb, 0, none⟩) hkb]; exact hk
  go_enter Tryd.func37, Tryd.ntmps37
  go_wp2
  go_ret
  exact ⟨rfl, below_alloc _ _⟩

set_option maxHeartbeats 400000 in
theorem clo39_any (x1 x2 key : Str) (kb : Nat) (w : World) (hkb : kb < w.heap.size) (hk : w.cell? ⟨kb, 0, none⟩ = some (sV key)) :
    Calls Tryd.prog 39 #[.agg #[sV x1, sV x2], .pointer (some ⟨kb, 0, none⟩)] w fun e w' => e = .returned (.bool (gtK key (x1, x2))) ∧ Below w.heap.size w w' := by
  have hk2 : (w.alloc (.cells #[sV x1, sV x2] 45)).cell? ⟨kb, 0, none⟩ = some (sV key) := by
    rw [(below_alloc w (.cells #[sV x1, sV x2] 45)).cell (p := ⟨kb, 0, none⟩) hkb]; exact hk
  go_enter Tryd.func39, Tryd.ntmps39
  go_wp2
  go_ret
  exact ⟨rfl, below_alloc _ _⟩

set_option maxHeartbeats 1000000 in
theorem indexFunc37_any (v : Value) (l : List Lab) (key : Str) (kb : Nat) (w : World) (hv : Labs w v l) (hkb : kb < w.heap.size) (hk : w.cell? ⟨kb, 0, none⟩ = some (sV key)) :
    Calls Tryd.prog 38 #[v, .func (.func 37) #[] #[.pointer (some ⟨kb, 0, none⟩)]] w fun e w' => e = .returned (.int .i64 (idxI (eqK key) l)) ∧ Below w.heap.size w w' := by
  obtain ⟨ao, cap, rfl, hlc, hcap, -⟩ := hv.out
  unfold maxLen at hcap
  go_enter Tryd.func38, Tryd.ntmps38
  go_wp2
  go_loopg [8] l.length (fun g i wr => ∃ k : Nat, k ≤ l.length ∧ g = l.length - k ∧ i = .int .i64 k ∧ Hid (PreA (fun y => !eqK key y) l k) ∧ Below w.heap.size w wr)
  case atStart => exact ⟨0, Nat.zero_le _, rfl, rfl, Lib.hid (PreA.zero _), Below.refl _ _⟩
  case round =>
    obtain ⟨k, hk', hg, rfl, HC, hb⟩ := hrel
    have HG := Lib.hid hg
    clear hg
    by_cases hlt : k < l.length
    · have hx := get_some hlt
      generalize l[k] = x at hx
      obtain ⟨x1, x2⟩ := x
      obtain ⟨b, off, rfl, c0, c1⟩ := hv.at hb hx
      simp only at c0 c1
      have hkr : wr.cell? ⟨kb, 0, none⟩ = some (sV key) := by rw [hb.cell (p := ⟨kb, 0, none⟩) hkb]; exact hk
      have CC := Lib.hid (clo37_any x1 x2 key kb wr (Nat.lt_of_lt_of_le hkb hb.size) hkr)
      clear hkr
      have HX := Lib.hid hx
      clear hx
      cases he : eqK key (x1, x2)
      · rw [he] at CC
        go_wp2_with (go_at_call 37; refine CC.out.mono ?_; rintro e w2 ⟨rfl, hb2⟩)
        go_roundg (l.length - (k + 1))
        case measure => have := HG.out; omega
        case rel => exact ⟨k + 1, by omega, rfl, by go_num, Lib.hid (HC.out.succ HX.out (by rw [he]; rfl)), below_all hb hb2⟩
      · rw [he] at CC
        go_wp2_with (go_at_call 37; refine CC.out.mono ?_; rintro e w2 ⟨rfl, hb2⟩)
        go_ret
        exact ⟨ret_int (idxI_found HC.out HX.out he).symm, below_all hb hb2⟩
    · obtain rfl : k = l.length := by omega
      go_wp2
      go_ret
      exact ⟨ret_int (idxI_none HC.out).symm, hb⟩

set_option maxHeartbeats 1000000 in
theorem indexFunc39_any (v : Value) (l : List Lab) (key : Str) (kb : Nat) (w : World) (hv : Labs w v l) (hkb : kb < w.heap.size) (hk : w.cell? ⟨kb, 0, none⟩ = some (sV key)) :
    Calls Tryd.prog 38 #[v, .func (.func 39) #[] #[.pointer (some ⟨kb, 0, none⟩)]] w fun e w' => e = .returned (.int .i64 (idxI (gtK key) l)) ∧ Below w.heap.size w w' := by
  obtain ⟨ao, cap, rfl, hlc, hcap, -⟩ := hv.out
  unfold maxLen at hcap
  go_enter Tryd.func38, Tryd.ntmps38
  go_wp2
  go_loopg [8] l.length (fun g i wr => ∃ k : Nat, k ≤ l.length ∧ g = l.length - k ∧ i = .int .i64 k ∧ Hid (PreA (fun y => !gtK key y) l k) ∧ Below w.heap.size w wr)
  case atStart => exact ⟨0, Nat.zero_le _, rfl, rfl, Lib.hid (PreA.zero _), Below.refl _ _⟩
  case round =>
    obtain ⟨k, hk', hg, rfl, HC, hb⟩ := hrel
    have HG := Lib.hid hg
    clear hg
    by_cases hlt : k < l.length
    · have hx := get_some hlt
      generalize l[k] = x at hx
      obtain ⟨x1, x2⟩ := x
      obtain ⟨b, off, rfl, c0, c1⟩ := hv.at hb hx
      simp only at c0 c1
      have hkr : wr.cell? ⟨kb, 0, none⟩ = some (sV key) := by rw [hb.cell (p := ⟨kb, 0, none⟩) hkb]; exact hk
      have CC := Lib.hid (clo39_any x1 x2 key kb wr (Nat.lt_of_lt_of_le hkb hb.size) hkr)
      clear hkr
      have HX := Lib.hid hx
      clear hx
      cases he : gtK key (x1, x2)
      · rw [he] at CC
        go_wp2_with (go_at_call 39; refine CC.out.mono ?_; rintro e w2 ⟨rfl, hb2⟩)
        go_roundg (l.length - (k + 1))
        case measure => have := HG.out; omega
        case rel => exact ⟨k + 1, by omega, rfl, by go_num, Lib.hid (HC.out.succ HX.out (by rw [he]; rfl)), below_all hb hb2⟩
      · rw [he] at CC
        go_wp2_with (go_at_call 39; refine CC.out.mono ?_; rintro e w2 ⟨rfl, hb2⟩)
        go_ret
        exact ⟨ret_int (idxI_found HC.out HX.out he).symm, below_all hb hb2⟩
    · obtain rfl : k = l.length := by omega
      go_wp2
      go_ret
      exact ⟨ret_int (idxI_none HC.out).symm, hb⟩
end Go.Proofs.YtfohhokdcobhjaaDoor
