/- Lengths of what is parsed; the first error. -/
import Derived.Test.YtfohhokdcobhjaaDoorMf
namespace Go.Proofs.YtfohhokdcobhjaaDoor

def TB (S : List Str) : Prop := ∀ t ∈ S, t.length ≤ 1000000
theorem TB.nil : TB [] := fun t ht => by cases ht
theorem TB.tail {S : List Str} (h : TB S) : TB S.tail := fun t ht => h t (List.mem_of_mem_tail ht)
theorem TB.hd {S : List Str} (h : TB S) : (hd S).length ≤ 1000000 := by
  cases S with
  | nil => simp [YtfohhokdcobhjaaDoor.hd]
  | cons a t => exact h a (by simp)
theorem TB.wRest {S : List Str} (h : TB S) : TB (wRest S) := by unfold YtfohhokdcobhjaaDoor.wRest; split; exact h.tail; exact h
theorem TB.wVal {S : List Str} (h : TB S) : (wVal S).length ≤ 1000000 := by unfold YtfohhokdcobhjaaDoor.wVal; split; exact h.hd; simp
theorem TB.bang {S : List Str} (h : TB S) : TB (bang S) := by unfold YtfohhokdcobhjaaDoor.bang; split; exact h.tail; exact h
theorem TB.vloop : ∀ (n : Nat) {S : List Str}, S.length ≤ n → TB S → TB (vloop S).1 ∧ TB (vloop S).2 := by
  intro n
  induction n with
  | zero =>
    intro S hS _
    have : S = [] := List.eq_nil_of_length_eq_zero (by omega)
    subst this; exact ⟨TB.nil, TB.nil⟩
  | succ n ih =>
    intro S hS h
    by_cases h44 : YtfohhokdcobhjaaDoor.hd S = [44]
    · rw [vloop_yes h44]
      have h1 := wRest_len S.tail
      have h2 : S.tail.length + 1 ≤ S.length := by
        cases S with
        | nil => rw [hd_nil] at h44; cases h44
        | cons a t => simp
      have := ih (S := YtfohhokdcobhjaaDoor.wRest S.tail) (by omega) h.tail.wRest
      refine ⟨fun t ht => ?_, this.2⟩
      rcases List.mem_cons.1 ht with rfl | ht
      · exact h.tail.wVal
      · exact this.1 t ht
    · rw [vloop_no h44]; exact ⟨TB.nil, h⟩
theorem TB.pList {S : List Str} (h : TB S) {p : List Str × List Str} (hp : pList S = some p) : TB p.1 ∧ TB p.2 := by
  unfold YtfohhokdcobhjaaDoor.pList at hp
  split at hp
  · split at hp
    · cases hp
      have hv := TB.vloop _ (Nat.le_refl _) h.tail.wRest
      refine ⟨fun t ht => ?_, hv.2.tail⟩
      rcases List.mem_cons.1 ((norm_mem _ t).1 ht) with rfl | ht
      · exact h.tail.wVal
      · exact hv.1 t ht
    · cases hp
  · cases hp
theorem TB.pReq {S : List Str} (h : TB S) {r : Req} {S' : List Str} (hp : pReq S = some (r, S')) : RBd r ∧ TB S' := by
  unfold YtfohhokdcobhjaaDoor.pReq at hp
  have hb := h.bang
  have hn : Bd [] := by intro x hx; cases hx
  have h1 : Bd [YtfohhokdcobhjaaDoor.wVal (YtfohhokdcobhjaaDoor.bang S).tail.tail] := by intro x hx; simp at hx; rw [hx]; exact hb.tail.tail.wVal
  split at hp
  · cases hp
  · split at hp
    · cases hp; exact ⟨⟨hb.hd, hn⟩, hb.tail⟩
    · split at hp
      · cases hp; exact ⟨⟨hb.hd, h1⟩, hb.tail.tail.wRest⟩
      · split at hp
        · cases hp; exact ⟨⟨hb.hd, h1⟩, hb.tail.tail.wRest⟩
        · split at hp
          · obtain ⟨q, hq, he⟩ := Option.map_eq_some_iff.1 hp
            cases he
            have := hb.tail.tail.pList hq
            exact ⟨⟨hb.hd, this.1⟩, this.2⟩
          · split at hp
            · obtain ⟨q, hq, he⟩ := Option.map_eq_some_iff.1 hp
              cases he
              have := hb.tail.tail.pList hq
              exact ⟨⟨hb.hd, this.1⟩, this.2⟩
            · cases hp; exact ⟨⟨hb.hd, hn⟩, hb.tail⟩
theorem TB.pSelF : ∀ (n : Nat) {S : List Str}, TB S → ∀ {s : List Req}, pSelF n S = some s → SBd s := by
  intro n
  induction n with
  | zero => intro S _ s h; cases h
  | succ n ih =>
    intro S hS s h
    unfold YtfohhokdcobhjaaDoor.pSelF at h
    cases hq : YtfohhokdcobhjaaDoor.pReq S with
    | none => rw [hq] at h; cases h
    | some p =>
      obtain ⟨r, S'⟩ := p
      rw [hq] at h
      obtain ⟨h1, h2⟩ := hS.pReq hq
      simp only at h
      split at h
      · cases h; intro x hx; simp at hx; rw [hx]; exact h1
      · split at h
        · obtain ⟨t, ht, rfl⟩ := Option.map_eq_some_iff.1 h
          have := ih h2.tail ht
          intro x hx
          rcases List.mem_cons.1 hx with rfl | hx
          · exact h1
          · exact this x hx
        · cases h
theorem readT_bd {text : Str} (hl : text.length ≤ 20000) {s : List Req} (h : readT text = some s) : SBd s := by
  unfold readT at h
  split at h
  · cases h; intro x hx; cases hx
  · refine TB.pSelF _ (fun t ht => ?_) h
    have := (lex_mem _ text (Nat.le_refl _) t ht).2
    omega

theorem firstErr_at {s : List Req} {k : Nat} {r : Req} (h : PreA (fun r => decide (errOf r = 0)) s k) (hr : s[k]? = some r) (he : ¬ errOf r = 0) : firstErr s = errOf r := by
  induction s generalizing k with
  | nil => simp at hr
  | cons a t ih =>
    cases k with
    | zero => simp at hr; subst hr; unfold firstErr; rw [if_neg he]
    | succ k =>
      have ha : errOf a = 0 := by simpa using h 0 a (by omega) rfl
      unfold firstErr; rw [if_pos ha]
      exact ih (k := k) (fun i x hi hx => h (i + 1) x (by omega) (by simpa using hx)) (by simpa using hr)
theorem firstErr_zero {s : List Req} (h : PreA (fun r => decide (errOf r = 0)) s s.length) : firstErr s = 0 := by
  induction s with
  | nil => rfl
  | cons a t ih =>
    have ha : errOf a = 0 := by simpa using h 0 a (by simp) rfl
    unfold firstErr; rw [if_pos ha]
    exact ih (fun i x hi hx => h (i + 1) x (by simpa using hi) (by simpa using hx))

theorem parse_long {text : Str} (h : 20000 < text.length) : parseE text = 4 ∧ parseS text = [] := by unfold parseE parseS; rw [if_pos h, if_pos h]; exact ⟨rfl, rfl⟩
theorem parse_syn {text : Str} (h : ¬ 20000 < text.length) (h2 : readT text = none) : parseE text = 2 ∧ parseS text = [] := by
  unfold parseE parseS; rw [if_neg h, if_neg h, h2]; exact ⟨rfl, rfl⟩
theorem parse_err {text : Str} {s : List Req} (h : ¬ 20000 < text.length) (h2 : readT text = some s) (h3 : ¬ firstErr s = 0) : parseE text = firstErr s ∧ parseS text = [] := by
  unfold parseE parseS; rw [if_neg h, if_neg h, h2]
  have : chkE s = firstErr s := by unfold chkE; rw [if_neg h3]
  simp only [this, if_neg h3]; exact ⟨trivial, trivial⟩
theorem parse_many {text : Str} {s : List Req} (h : ¬ 20000 < text.length) (h2 : readT text = some s) (h3 : firstErr s = 0) (h4 : 16 < s.length) : parseE text = 4 ∧ parseS text = [] := by
  unfold parseE parseS; rw [if_neg h, if_neg h, h2]
  have : chkE s = 4 := by unfold chkE; rw [if_pos h3, if_pos h4]
  simp only [this]; exact ⟨trivial, by simp⟩
theorem parse_good {text : Str} {s : List Req} (h : ¬ 20000 < text.length) (h2 : readT text = some s) (h3 : firstErr s = 0) (h4 : ¬ 16 < s.length) : parseE text = 0 ∧ parseS text = s := by
  unfold parseE parseS; rw [if_neg h, if_neg h, h2]
  have : chkE s = 0 := by unfold chkE; rw [if_pos h3, if_neg h4]
  simp only [this]; exact ⟨trivial, by simp⟩
end Go.Proofs.YtfohhokdcobhjaaDoor
