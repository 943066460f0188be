/- Bytes, words, keys and values: plain mathematics. -/
namespace Go.Proofs.YtfohhokdcobhjaaDoor

abbrev Str := List UInt8

def isLet (c : UInt8) : Bool := decide (97 ≤ c.toNat) && decide (c.toNat ≤ 122)
def isWb (c : UInt8) : Bool := isLet c || (decide (48 ≤ c.toNat) && decide (c.toNat ≤ 57)) || decide (c.toNat = 45) || decide (c.toNat = 46) || decide (c.toNat = 47)
def isVb (c : UInt8) : Bool := isWb c && !decide (c.toNat = 47)
theorem isLet_iff (c : UInt8) : isLet c = true ↔ 97 ≤ c.toNat ∧ c.toNat ≤ 122 := by simp [isLet]
theorem isLet_not (c : UInt8) : isLet c = false ↔ ¬ (97 ≤ c.toNat ∧ c.toNat ≤ 122) := by rw [← isLet_iff]; simp

theorem isVb_slash {c : UInt8} (h : c.toNat = 47) : isVb c = false := by unfold isVb; rw [decide_eq_true h]; simp

def AllTo (p : UInt8 → Bool) (l : Str) (k : Nat) : Prop := ∀ c ∈ l.take k, p c = true
theorem AllTo_zero (p : UInt8 → Bool) (l : Str) : AllTo p l 0 := by intro c hc; simp at hc
theorem AllTo_succ {p : UInt8 → Bool} {l : Str} {k : Nat} (h : AllTo p l k) (hk : k < l.length) (hd : p l[k] = true) : AllTo p l (k + 1) := by
  intro c hc
  rw [List.take_succ_eq_append_getElem hk, List.mem_append] at hc
  rcases hc with hc | hc
  · exact h c hc
  · simp at hc; rw [hc]; exact hd
theorem takeWhile_of {p : UInt8 → Bool} {l : Str} {k : Nat} (h : AllTo p l k) (hk : k < l.length) (hd : p l[k] = false) : l.takeWhile p = l.take k ∧ l.dropWhile p = l.drop k := by
  induction k generalizing l with
  | zero =>
    cases l with
    | nil => simp at hk
    | cons a l => simp at hd; simp [hd]
  | succ k ih =>
    cases l with
    | nil => simp at hk
    | cons a l =>
      have ha : p a = true := h a (by simp)
      have := ih (l := l) (fun c hc => h c (by simp [hc])) (by simpa using hk) (by simpa using hd)
      simp [ha, this.1, this.2]
theorem takeWhile_end {p : UInt8 → Bool} {l : Str} (h : AllTo p l l.length) : l.takeWhile p = l ∧ l.dropWhile p = [] := by
  rw [AllTo, List.take_length] at h
  induction l with
  | nil => simp
  | cons a l ih =>
    have := ih (fun c hc => h c (by simp [hc]))
    simp [h a (by simp), this.1, this.2]
theorem all_of {p : UInt8 → Bool} {l : Str} (h : AllTo p l l.length) : l.all p = true := by
  rw [AllTo, List.take_length] at h; simpa using h
theorem all_not {p : UInt8 → Bool} {l : Str} {k : Nat} (hk : k < l.length) (hd : p l[k] = false) : l.all p = false := by
  rw [List.all_eq_false]; exact ⟨l[k], List.getElem_mem hk, by simp [hd]⟩

/-- the number of bytes at the beginning that form a word -/
def wlen (l : Str) : Nat := (l.takeWhile isWb).length
theorem wlen_le (l : Str) : wlen l ≤ l.length := by unfold wlen; exact (List.takeWhile_sublist isWb).length_le
theorem wlen_all (l : Str) : decide (wlen l = l.length) = l.all isWb := by
  unfold wlen
  cases h : l.all isWb with
  | true =>
    have : l.takeWhile isWb = l := (takeWhile_end (p := isWb) (l := l) (by rw [AllTo, List.take_length]; simpa using h)).1
    simp [this]
  | false =>
    rw [decide_eq_false_iff_not]; intro he
    have e : l.takeWhile isWb = l := (List.takeWhile_sublist isWb).eq_of_length he
    rw [List.all_eq_false] at h
    obtain ⟨x, hx, hn⟩ := h
    rw [← e] at hx
    exact hn (by
      have : ∀ (m : Str), ∀ y ∈ m.takeWhile isWb, isWb y = true := by
        intro m; induction m with
        | nil => simp
        | cons a m ih =>
          intro y hy
          rw [List.takeWhile_cons] at hy
          split at hy
          · rcases List.mem_cons.1 hy with rfl | hy
            · assumption
            · exact ih y hy
          · cases hy
      exact this l x hx)

def keyOk (l : Str) : Bool := decide (1 ≤ l.length) && decide (l.length ≤ 40) && isLet (l.headD 0) && l.all isWb
def valOk (l : Str) : Bool := decide (l.length ≤ 40) && l.all isVb
theorem headD_get {l : Str} (h : 0 < l.length) : l.headD 0 = l[0] := by cases l with | nil => simp at h | cons a l => rfl
theorem keyOk_len {l : Str} (h : l.length < 1 ∨ 40 < l.length) : keyOk l = false := by
  unfold keyOk; rcases h with h | h
  · rw [decide_eq_false (by omega)]; rfl
  · rw [decide_eq_false (p := l.length ≤ 40) (by omega)]; simp
theorem keyOk_head {l : Str} (h : 0 < l.length) (hl : isLet l[0] = false) : keyOk l = false := by
  unfold keyOk; rw [headD_get h, hl]; simp
theorem keyOk_eq {l : Str} (h0 : 1 ≤ l.length) (h1 : l.length ≤ 40) (h : 0 < l.length) (hl : isLet l[0] = true) : keyOk l = l.all isWb := by
  unfold keyOk; rw [headD_get h, hl]; simp [h0, h1]
theorem valOk_len {l : Str} (h : 40 < l.length) : valOk l = false := by unfold valOk; rw [decide_eq_false (by omega)]; rfl
theorem valOk_eq {l : Str} (h : l.length ≤ 40) : valOk l = l.all isVb := by unfold valOk; simp [h]
end Go.Proofs.YtfohhokdcobhjaaDoor
