/- With: plain mathematics. -/
import Derived.Test.YtfohhokdcobhjaaDoorWh
namespace Go.Proofs.YtfohhokdcobhjaaDoor

/-- the key is not this one -/
def nk (key : Str) (p : Lab) : Bool := !(p.1 == key)
/-- the key is greater -/
def gtK (key : Str) (p : Lab) : Bool := !sLt p.1 key && !(p.1 == key)
def restL (l : List Lab) (key : Str) : List Lab := l.filter (nk key)
def insL (r : List Lab) (key v : Str) : List Lab := r.takeWhile (fun p => !gtK key p) ++ (key, v) :: r.dropWhile (fun p => !gtK key p)
def withL (l : List Lab) (key v : Str) : List Lab := insL (restL l key) key v

def restTo (l : List Lab) (key : Str) (k : Nat) : List Lab := (l.take k).filter (nk key)
theorem restTo_yes {l : List Lab} {key : Str} {k : Nat} {x : Lab} (h : l[k]? = some x) (hn : (x.1 == key) = false) : restTo l key (k + 1) = restTo l key k ++ [x] := by
  obtain ⟨hlt, rfl⟩ := List.getElem?_eq_some_iff.1 h
  unfold restTo; rw [List.take_succ_eq_append_getElem hlt, List.filter_append]
  simp [nk, hn]
theorem restTo_no {l : List Lab} {key : Str} {k : Nat} {x : Lab} (h : l[k]? = some x) (hn : (x.1 == key) = true) : restTo l key (k + 1) = restTo l key k := by
  obtain ⟨hlt, rfl⟩ := List.getElem?_eq_some_iff.1 h
  unfold restTo; rw [List.take_succ_eq_append_getElem hlt, List.filter_append]
  simp [nk, hn]
theorem restTo_all (l : List Lab) (key : Str) : restTo l key l.length = restL l key := by unfold restTo restL; rw [List.take_length]
theorem restTo_len (l : List Lab) (key : Str) (k : Nat) : (restTo l key k).length ≤ l.length := by
  unfold restTo; exact Nat.le_trans (List.length_filter_le _ _) (by rw [List.length_take]; omega)
theorem restL_len (l : List Lab) (key : Str) : (restL l key).length ≤ l.length := List.length_filter_le _ _

theorem restL_ne {l : List Lab} {key : Str} : ∀ x ∈ restL l key, (x.1 == key) = false := by
  intro x hx; have := (List.mem_filter.1 hx).2; simpa [nk] using this
theorem gtK_no {key x1 x2 : Str} (h : Op.bytesLess x1 key = true) : gtK key (x1, x2) = false := by unfold gtK; simp only; rw [show sLt x1 key = true from h]; rfl
theorem gtK_yes {key x1 x2 : Str} (h : Op.bytesLess x1 key = false) (h2 : (x1 == key) = false) : gtK key (x1, x2) = true := by unfold gtK; simp only; rw [show sLt x1 key = false from h, h2]; rfl

def dn (r : List Lab) (key : Str) (k : Nat) : Bool := (r.take k).any (gtK key)
def outTo (r : List Lab) (key v : Str) (k : Nat) : List Lab := if dn r key k then insL (r.take k) key v else r.take k
theorem dn_zero (r : List Lab) (key : Str) : dn r key 0 = false := by simp [dn]
theorem outTo_zero (r : List Lab) (key v : Str) : outTo r key v 0 = [] := by simp [outTo, dn_zero]
theorem dn_succ {r : List Lab} {key : Str} {k : Nat} {x : Lab} (h : r[k]? = some x) : dn r key (k + 1) = (dn r key k || gtK key x) := by
  obtain ⟨hlt, rfl⟩ := List.getElem?_eq_some_iff.1 h
  unfold dn; rw [List.take_succ_eq_append_getElem hlt, List.any_append]; simp
theorem tw_all {p : Lab → Bool} : ∀ {l : List Lab}, (∀ x ∈ l, p x = true) → l.takeWhile p = l ∧ l.dropWhile p = [] := by
  intro l
  induction l with
  | nil => intro _; simp
  | cons a t ih =>
    intro h
    have := ih (fun x hx => h x (by simp [hx]))
    simp [h a (by simp), this.1, this.2]
theorem tw_app {p : Lab → Bool} : ∀ {l : List Lab} {m : List Lab}, (∀ x ∈ l, p x = true) → (l ++ m).takeWhile p = l ++ m.takeWhile p ∧ (l ++ m).dropWhile p = m.dropWhile p := by
  intro l
  induction l with
  | nil => intro m _; simp
  | cons a t ih =>
    intro m h
    have := ih (m := m) (fun x hx => h x (by simp [hx]))
    simp [h a (by simp), this.1, this.2]
theorem tw_stop {p : Lab → Bool} : ∀ {l : List Lab} {m : List Lab}, (∃ x ∈ l, p x = false) → (l ++ m).takeWhile p = l.takeWhile p ∧ (l ++ m).dropWhile p = l.dropWhile p ++ m := by
  intro l
  induction l with
  | nil => intro m h; obtain ⟨x, hx, -⟩ := h; cases hx
  | cons a t ih =>
    intro m h
    cases ha : p a with
    | false => simp [ha]
    | true =>
      obtain ⟨x, hx, hpx⟩ := h
      have hx' : x ∈ t := by
        rcases List.mem_cons.1 hx with rfl | h
        · rw [ha] at hpx; cases hpx
        · exact h
      have := ih (m := m) ⟨x, hx', hpx⟩
      simp [ha, this.1, this.2]
theorem insL_none {r : List Lab} {key v : Str} (h : r.any (gtK key) = false) : insL r key v = r ++ [(key, v)] := by
  have h' : ∀ x ∈ r, (!gtK key x) = true := by rw [List.any_eq_false] at h; intro x hx; simpa using h x hx
  unfold insL; rw [(tw_all h').1, (tw_all h').2]
theorem insL_hit {r : List Lab} {key v : Str} {x : Lab} (h : r.any (gtK key) = false) (hx : gtK key x = true) : insL (r ++ [x]) key v = r ++ [(key, v)] ++ [x] := by
  have h' : ∀ x ∈ r, (!gtK key x) = true := by rw [List.any_eq_false] at h; intro x hx; simpa using h x hx
  unfold insL; rw [(tw_app h').1, (tw_app h').2]; simp [hx]
theorem insL_done {r : List Lab} {key v : Str} {x : Lab} (h : r.any (gtK key) = true) : insL (r ++ [x]) key v = insL r key v ++ [x] := by
  have h' : ∃ y ∈ r, (!gtK key y) = false := by rw [List.any_eq_true] at h; obtain ⟨y, hy, h2⟩ := h; exact ⟨y, hy, by simp [h2]⟩
  unfold insL; rw [(tw_stop h').1, (tw_stop h').2]; simp
theorem take_snoc {α : Type} {l : List α} {k : Nat} {x : α} (h : l[k]? = some x) : l.take (k + 1) = l.take k ++ [x] := by
  obtain ⟨hlt, rfl⟩ := List.getElem?_eq_some_iff.1 h
  exact List.take_succ_eq_append_getElem hlt
theorem outTo_done {r : List Lab} {key v : Str} {k : Nat} {x : Lab} (h : r[k]? = some x) (hd : dn r key k = true) : outTo r key v (k + 1) = outTo r key v k ++ [x] := by
  unfold outTo; rw [dn_succ h, hd, Bool.true_or, if_pos rfl, if_pos rfl, take_snoc h, insL_done hd]
theorem outTo_hit {r : List Lab} {key v : Str} {k : Nat} {x : Lab} (h : r[k]? = some x) (hd : dn r key k = false) (hx : gtK key x = true) : outTo r key v (k + 1) = outTo r key v k ++ [(key, v)] ++ [x] := by
  unfold outTo; rw [dn_succ h, hd, hx, Bool.false_or, if_pos rfl, if_neg (by simp), take_snoc h, insL_hit hd hx]
theorem outTo_miss {r : List Lab} {key v : Str} {k : Nat} {x : Lab} (h : r[k]? = some x) (hd : dn r key k = false) (hx : gtK key x = false) : outTo r key v (k + 1) = outTo r key v k ++ [x] := by
  unfold outTo; rw [dn_succ h, hd, hx, Bool.false_or, if_neg (by simp), if_neg (by simp), take_snoc h]
theorem outTo_end {r : List Lab} {key v : Str} (hd : dn r key r.length = true) : outTo r key v r.length = insL r key v := by
  unfold outTo; rw [hd, if_pos rfl, List.take_length]
theorem outTo_last {r : List Lab} {key v : Str} (hd : dn r key r.length = false) : outTo r key v r.length ++ [(key, v)] = insL r key v := by
  unfold outTo; rw [hd, if_neg (by simp), List.take_length]
  have : r.any (gtK key) = false := by unfold dn at hd; rw [List.take_length] at hd; exact hd
  exact (insL_none this).symm
theorem insL_len (r : List Lab) (key v : Str) : (insL r key v).length = r.length + 1 := by
  unfold insL; rw [List.length_append, List.length_cons, ← Nat.add_assoc, ← List.length_append, List.takeWhile_append_dropWhile]
theorem outTo_len (r : List Lab) (key v : Str) (k : Nat) : (outTo r key v k).length ≤ r.length + 1 := by
  unfold outTo; split
  · rw [insL_len, List.length_take]; omega
  · rw [List.length_take]; omega
theorem flatMap_snoc {α β : Type} (f : α → List β) (l : List α) (x : α) : (l ++ [x]).flatMap f = l.flatMap f ++ f x := by simp
end Go.Proofs.YtfohhokdcobhjaaDoor
