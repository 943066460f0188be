/- Contracts of Contains, among, Get and the reference's Get. -/
import Derived.Test.YtfohhokdcobhjaaDoorWg
import Derived.Test.YtfohhokdcobhjaaDoorShelf
namespace Go.Proofs.YtfohhokdcobhjaaDoor
open Go.RowKit Go.Sort Go.Proofs.LawFrame

def hasS (l : List Str) (x : Str) : Bool := l.any (· == x)
theorem hasS_iff (l : List Str) (x : Str) : hasS l x = true ↔ x ∈ l := by simp [hasS]
theorem bytes_inj {a b : Str} (h : (⟨a.toArray⟩ : ByteArray) = ⟨b.toArray⟩) : a = b := by
  have : a.toArray = b.toArray := by injection h
  simpa using congrArg Array.toList this
theorem containsS_eq (l : List Str) (x : Str) : Lib.containsS (l.map fun s => (⟨s.toArray⟩ : ByteArray)) ⟨x.toArray⟩ = hasS l x := by
  rw [Bool.eq_iff_iff, Lib.containsS_iff, hasS_iff, List.mem_map]
  constructor
  · rintro ⟨y, hy, he⟩; rw [← bytes_inj he]; exact hy
  · intro h; exact ⟨x, h, rfl⟩

theorem contains_any (v : Value) (l : List Str) (x : Str) (w : World) (hv : Strs w v l) :
    Calls Tryd.prog 59 #[v, sV x] w fun e w' => e = .returned (.bool (hasS l x)) ∧ w = w' := by
  obtain ⟨ao, cap, rfl, hlc, hcap, hr⟩ := hv.out
  unfold maxLen at hcap
  by_cases h0 : 0 < l.length
  · obtain ⟨b, off, rfl, hb, hc⟩ := hr h0
    refine (Tryd.slices_Contains_string b off l.length cap (l.map fun s => (⟨s.toArray⟩ : ByteArray)) ⟨x.toArray⟩ w (by simp) (by omega) ?_).mono ?_
    · intro j hj
      rw [List.length_map] at hj
      rw [hc j (sV l[j]) (by rw [List.getElem?_map, get_some hj]; rfl)]
      simp [hj]
    · rintro e w' ⟨rfl, rfl⟩
      rw [List.take_of_length_le (by simp), containsS_eq]
      exact ⟨rfl, rfl⟩
  · have : l = [] := List.eq_nil_of_length_eq_zero (by omega)
    subst this
    refine (Tryd.slices_Contains_string_empty ao cap ⟨x.toArray⟩ w).mono ?_
    rintro e w' ⟨rfl, rfl⟩
    exact ⟨rfl, rfl⟩

theorem hasS_found {l : List Str} {x y : Str} {k : Nat} (hy : l[k]? = some y) (h : (y == x) = true) : hasS l x = true := by
  rw [hasS_iff]; rw [beq_iff_eq] at h; rw [← h]; exact List.mem_of_getElem? hy
theorem hasS_none {l : List Str} {x : Str} (h : PreA (fun y => !(y == x)) l l.length) : hasS l x = false := by
  have := h.all
  unfold hasS
  rw [List.any_eq_false]; rw [List.all_eq_true] at this
  intro y hy; simpa using this y hy

set_option maxHeartbeats 1000000 in
theorem among_any (v : Value) (l : List Str) (x : Str) (w : World) (hv : Strs w v l) :
    Calls Tryd.prog 60 #[v, sV x] w fun e w' => e = .returned (.bool (hasS l x)) ∧ w = w' := by
  obtain ⟨ao, cap, rfl, hlc, hcap, -⟩ := hv.out
  unfold maxLen at hcap
  go_enter Tryd.func60, Tryd.ntmps60
  go_wp2
  go_loop [5] (fun i => ∃ k : Nat, k ≤ l.length ∧ i = .int .i64 k ∧ Hid (PreA (fun y => !(y == x)) l k)) (fun i => l.length - (intOf i).toNat)
  case atStart => exact ⟨0, Nat.zero_le _, rfl, Lib.hid (PreA.zero _)⟩
  case round =>
    obtain ⟨k, hk, rfl, HC⟩ := hrel
    by_cases hlt : k < l.length
    · have hx := get_some hlt
      generalize l[k] = y at hx
      obtain ⟨b, off, rfl, c0⟩ := hv.at (Below.refl _ _) hx
      have HX := Lib.hid hx
      clear hx
      cases he : (y == x)
      · have HE := Lib.hid he
        go_wp2
        go_round
        case rel => exact ⟨k + 1, by omega, by go_num, Lib.hid (HC.out.succ HX.out (by rw [HE.out]; rfl))⟩
        case measure => simp [intOf]; omega
      · have HE := Lib.hid he
        go_wp2
        go_ret
        exact ⟨ret_bool (hasS_found HX.out HE.out).symm, rfl⟩
    · obtain rfl : k = l.length := by omega
      go_wp2
      go_ret
      exact ⟨ret_bool (hasS_none HC.out).symm, rfl⟩

def getL (l : List Lab) (key : Str) : Option Str := (l.find? (fun p => p.1 == key)).map (·.2)
def getV (l : List Lab) (key : Str) : Str := (getL l key).getD []
def getB (l : List Lab) (key : Str) : Bool := (getL l key).isSome
theorem getL_found {l : List Lab} {key : Str} {k : Nat} {p : Lab} (h : PreA (fun y => !(y.1 == key)) l k) (hp : l[k]? = some p) (he : (p.1 == key) = true) : getL l key = some p.2 := by
  unfold getL
  have : l.find? (fun p => p.1 == key) = some p := by
    induction l generalizing k with
    | nil => simp at hp
    | cons a t ih =>
      cases k with
      | zero => simp at hp; subst hp; simp [he]
      | succ k =>
        have ha := h 0 a (by omega) rfl
        simp only [Bool.not_eq_true'] at ha
        rw [List.find?_cons_of_neg (by simp [ha])]
        exact ih (k := k) (fun i x hi hx => h (i + 1) x (by omega) (by simpa using hx)) (by simpa using hp)
  rw [this]; rfl
theorem getL_none {l : List Lab} {key : Str} (h : PreA (fun y => !(y.1 == key)) l l.length) : getL l key = none := by
  unfold getL
  rw [List.find?_eq_none.2]
  · rfl
  · intro x hx; have := h.all; rw [List.all_eq_true] at this; simpa using this x hx

set_option maxHeartbeats 1000000 in
theorem get_any (v : Value) (l : List Lab) (key : Str) (w : World) (hv : Labs w v l) :
    Calls Tryd.prog 17 #[v, sV key] w fun e w' => e = .returned (.tuple #[sV (getV l key), .bool (getB l key)]) ∧ Below w.heap.size w w' := by
  obtain ⟨ao, cap, rfl, hlc, hcap, -⟩ := hv.out
  unfold maxLen at hcap
  go_enter Tryd.func17, Tryd.ntmps17
  go_wp2
  go_loopg [10] l.length (fun g i wr => ∃ k : Nat, k ≤ l.length ∧ g = l.length - k ∧ i = .int .i64 k ∧ Hid (PreA (fun y => !(y.1 == key)) l k) ∧ Below w.heap.size w wr)
  case atStart => exact ⟨0, Nat.zero_le _, rfl, rfl, Lib.hid (PreA.zero _), Below.refl _ _⟩
  case round =>
    obtain ⟨k, hk, hg, rfl, HC, hb⟩ := hrel
    have HG := Lib.hid hg
    clear hg
    by_cases hlt : k < l.length
    · have hx := get_some hlt
      generalize l[k] = x at hx
      obtain ⟨x1, x2⟩ := x
      obtain ⟨b, off, rfl, c0, c1⟩ := hv.at hb hx
      simp only at c0 c1
      have HX := Lib.hid hx
      clear hx
      cases he : (x1 == key)
      · have HE := Lib.hid he
        go_wp2
        go_roundg (l.length - (k + 1))
        case measure => have := HG.out; omega
        case rel => exact ⟨k + 1, by omega, rfl, by go_num, Lib.hid (HC.out.succ HX.out (by rw [HE.out]; rfl)), below_all hb (below_alloc _ _)⟩
      · have HE := Lib.hid he
        go_wp2
        go_ret2
        have := getL_found HC.out HX.out HE.out
        exact ⟨tup2 (by unfold getV; rw [this]; rfl) (by unfold getB; rw [this]; rfl), below_all hb (below_alloc _ _)⟩
    · obtain rfl : k = l.length := by omega
      go_wp2
      go_ret2
      have := getL_none HC.out
      exact ⟨tup2 (by unfold getV; rw [this]; rfl) (by unfold getB; rw [this]; rfl), hb⟩

set_option maxHeartbeats 1000000 in
theorem rget_any (v : Value) (l : List Lab) (key : Str) (w : World) (hv : Labs w v l) :
    Calls Tryd.prog 18 #[v, sV key] w fun e w' => e = .returned (.tuple #[sV (getV l key), .bool (getB l key)]) ∧ Below w.heap.size w w' := by
  obtain ⟨ao, cap, rfl, hlc, hcap, -⟩ := hv.out
  unfold maxLen at hcap
  go_enter Tryd.func18, Tryd.ntmps18
  go_wp2
  go_loopg [6] l.length (fun g i wr => ∃ k : Nat, k ≤ l.length ∧ g = l.length - k ∧ i = .int .i64 k ∧ Hid (PreA (fun y => !(y.1 == key)) l k) ∧ Below w.heap.size w wr)
  case atStart => exact ⟨0, Nat.zero_le _, rfl, rfl, Lib.hid (PreA.zero _), Below.refl _ _⟩
  case round =>
    obtain ⟨k, hk, hg, rfl, HC, hb⟩ := hrel
    have HG := Lib.hid hg
    clear hg
    by_cases hlt : k < l.length
    · have hx := get_some hlt
      generalize l[k] = x at hx
      obtain ⟨x1, x2⟩ := x
      obtain ⟨b, off, rfl, c0, c1⟩ := hv.at hb hx
      simp only at c0 c1
      have HX := Lib.hid hx
      clear hx
      cases he : (x1 == key)
      · have HE := Lib.hid he
        go_wp2
        go_roundg (l.length - (k + 1))
        case measure => have := HG.out; omega
        case rel => exact ⟨k + 1, by omega, rfl, by go_num, Lib.hid (HC.out.succ HX.out (by rw [HE.out]; rfl)), hb⟩
      · have HE := Lib.hid he
        go_wp2
        go_ret2
        have := getL_found HC.out HX.out HE.out
        exact ⟨tup2 (by unfold getV; rw [this]; rfl) (by unfold getB; rw [this]; rfl), hb⟩
    · obtain rfl : k = l.length := by omega
      go_wp2
      go_ret2
      have := getL_none HC.out
      exact ⟨tup2 (by unfold getV; rw [this]; rfl) (by unfold getB; rw [this]; rfl), hb⟩
end Go.Proofs.YtfohhokdcobhjaaDoor
