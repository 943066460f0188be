/- Field paths: steps, their validity, names at the beginning of a text, what is read of a text: plain mathematics. Field paths in value trees: finding, setting, removing: plain mathematics. -/
import Derived.Test.YtjpmnlefjmdelaaGreatDoorNaJ
import Derived.Lib.ItoaLen
import Derived.Test.YtjpmnlefjmdelaaGreatDoorMu
set_option linter.unusedSimpArgs false
set_option linter.unusedVariables false
namespace Go.Proofs.YtjpmnlefjmdelaaGreatDoor
open Go.RowKit Go.Proofs.LawFrame

/-- a step -/
structure S where
  k : Int
  nm : Str
  ix : Int
  vl : Str
abbrev S.cells (s : S) : List Value := [.int .i64 s.k, sV s.nm, .int .i64 s.ix, sV s.vl]
abbrev S.val (s : S) : Value := .agg #[.int .i64 s.k, sV s.nm, .int .i64 s.ix, sV s.vl]
theorem S.ext' {a b : S} (h1 : a.k = b.k) (h2 : a.nm = b.nm) (h3 : a.ix = b.ix) (h4 : a.vl = b.vl) : a = b := by cases a; cases b; simp at h1 h2 h3 h4; simp [h1, h2, h3, h4]
def S.eqb (a b : S) : Bool := decide (a.k = b.k) && decide (a.nm = b.nm) && decide (a.ix = b.ix) && decide (a.vl = b.vl)
theorem S.eqb_iff {a b : S} : S.eqb a b = true ↔ a = b := by
  unfold S.eqb
  constructor
  · intro h
    simp only [Bool.and_eq_true, decide_eq_true_eq] at h
    exact S.ext' h.1.1.1 h.1.1.2 h.1.2 h.2
  · rintro rfl; simp
instance : DecidableEq S := fun a b => if h : S.eqb a b = true then .isTrue (S.eqb_iff.1 h) else .isFalse (fun e => h (S.eqb_iff.2 e))

def S0 : S := ⟨0, [], 0, []⟩
def stepOk (s : S) : Bool :=
  if s.k = 1 then nameOk s.nm && decide (s.ix = 0) && decide (s.vl = [])
  else if s.k = 2 then decide (0 ≤ s.ix) && decide (s.ix ≤ 64) && decide (s.nm = []) && decide (s.vl = [])
  else if s.k = 3 then nameOk s.nm && strOk s.vl && decide (s.ix = 0)
  else false
def pathOk (p : List S) : Bool := decide (p.length ≤ 16) && p.all stepOk
/-- may a code point stand in a name -/
def nmI (r : Int) : Bool := (decide (97 ≤ r) && decide (r ≤ 122)) || (decide (65 ≤ r) && decide (r ≤ 90)) || (decide (48 ≤ r) && decide (r ≤ 57)) || decide (r = 45) || decide (r = 95) || decide (r = 47)
def digI (r : Int) : Bool := decide (48 ≤ r) && decide (r ≤ 57)
theorem nmI_byte (c : UInt8) : nmI (c.toNat : Int) = nmByte c := by
  unfold nmI nmByte; rw [Bool.eq_iff_iff]; simp; omega
theorem nmI_high {r : Int} (h : 128 ≤ r) : nmI r = false := by
  unfold nmI; rw [Bool.eq_false_iff]; simp; omega
theorem nmByte_low {c : UInt8} (h : nmByte c = true) : c.toNat < 128 := by
  unfold nmByte at h; simp at h; omega
theorem digI_byte (c : UInt8) : digI (c.toNat : Int) = dig c := by
  unfold digI dig; rw [Bool.eq_iff_iff]; simp; omega

def nlen (l : Str) : Nat := (l.takeWhile nmByte).length
theorem nlen_le (l : Str) : nlen l ≤ l.length := by
  unfold nlen; have := congrArg List.length (List.takeWhile_append_dropWhile (p := nmByte) (l := l)); rw [List.length_append] at this; omega
theorem take_nlen (l : Str) : l.take (nlen l) = l.takeWhile nmByte := by
  have h := List.takeWhile_append_dropWhile (p := nmByte) (l := l)
  unfold nlen
  generalize l.takeWhile nmByte = a at *
  generalize l.dropWhile nmByte = b at *
  subst h
  exact List.take_left' rfl
theorem drop_nlen (l : Str) : l.drop (nlen l) = l.dropWhile nmByte := by
  have h := List.takeWhile_append_dropWhile (p := nmByte) (l := l)
  unfold nlen
  generalize l.takeWhile nmByte = a at *
  generalize l.dropWhile nmByte = b at *
  subst h
  exact List.drop_left' rfl
theorem tw_all {p : UInt8 → Bool} : ∀ {l : Str}, l.all p = true → l.takeWhile p = l
  | [], _ => rfl
  | c :: l, h => by
    simp only [List.all_cons, Bool.and_eq_true] at h
    rw [List.takeWhile_cons, if_pos h.1, tw_all h.2]
theorem tw_mem {p : UInt8 → Bool} : ∀ {l : Str}, (l.takeWhile p).all p = true
  | [] => rfl
  | c :: l => by
    rw [List.takeWhile_cons]
    split
    · rename_i h; simp only [List.all_cons, h, Bool.true_and]; exact tw_mem
    · rfl
theorem nlen_all {l : Str} (h : l.all nmByte = true) : nlen l = l.length := by unfold nlen; rw [tw_all h]
theorem nlen_at : ∀ {l : Str} {k : Nat}, AllTo nmByte l k → ∀ h : k < l.length, nmByte l[k] = false → nlen l = k
  | [], k, _, h, _ => by simp at h
  | c :: l, 0, _, _, hk => by unfold nlen; rw [List.takeWhile_cons]; simp at hk; rw [hk]; rfl
  | c :: l, k + 1, ha, h, hk => by
    have hc : nmByte c = true := ha c (by simp)
    have ih := nlen_at (l := l) (k := k) (fun d hd => ha d (by simp [hd])) (by simpa using h) (by simpa using hk)
    unfold nlen at *
    rw [List.takeWhile_cons, if_pos hc, List.length_cons, ih]
theorem nlen_full {l : Str} : nlen l = l.length ↔ l.all nmByte = true := by
  constructor
  · intro h
    have h2 := take_nlen l
    rw [h, List.take_length] at h2
    rw [h2]; exact tw_mem
  · exact nlen_all
theorem nameOk_nlen (l : Str) : nameOk l = (decide (1 ≤ l.length) && decide (l.length ≤ 40) && decide (nlen l = l.length)) := by
  unfold nameOk
  congr 1
  rw [Bool.eq_iff_iff, decide_eq_true_eq, nlen_full]

/-- what the digits denote; numbers above 64 are 65 -/
def idxN (n : Int) : Str → Int
  | [] => n
  | c :: r => idxN (min (10 * n + ((c.toNat : Int) - 48)) 65) r
def idxOk (d : Str) : Bool := decide (d ≠ []) && !(decide (1 < d.length) && decide (d.head? = some 48)) && d.all dig
/-- the content of a quoted string and what follows it -/
def quoP : Str → Option (Str × Str)
  | [] => none
  | c :: r =>
    if c.toNat = 34 then some ([], r)
    else if c.toNat = 92 then
      match r with
      | [] => none
      | e :: r' =>
        if e.toNat = 34 then (quoP r').map (fun p => (34 :: p.1, p.2))
        else if e.toNat = 92 then (quoP r').map (fun p => (92 :: p.1, p.2))
        else if e.toNat = 110 then (quoP r').map (fun p => (10 :: p.1, p.2))
        else none
    else if prt c then (quoP r).map (fun p => (c :: p.1, p.2))
    else none
/-- a word, if it is next -/
def cutP : Str → Str → Option Str
  | [], r => some r
  | _ :: _, [] => none
  | a :: u, c :: r => if a = c then cutP u r else none
def keyP (n r : Str) : Option (S × Str) :=
  match cutP [61, 34] r with
  | none => none
  | some q => match quoP q with
    | none => none
    | some (v, q2) => match cutP [93] q2 with
      | none => none
      | some q3 => some (⟨3, n, 0, v⟩, q3)
def brkN (n r : Str) : Option (S × Str) :=
  match cutP [93] r with
  | some q => if idxOk n then some (⟨2, [], idxN 0 n, []⟩, q) else none
  | none => if n = [] then none else keyP n r
/-- behind an opening bracket -/
def brkP (r : Str) : Option (S × Str) := brkN (r.takeWhile nmByte) (r.dropWhile nmByte)
def fldP (r : Str) : Option (S × Str) := if r.takeWhile nmByte = [] then none else some (⟨1, r.takeWhile nmByte, 0, []⟩, r.dropWhile nmByte)
def stpP (first : Bool) (r : Str) : Option (S × Str) :=
  match cutP [91] r with
  | some q => brkP q
  | none => if first then fldP r else match cutP [46] r with
    | some q => fldP q
    | none => none
def pathP : Nat → Bool → Str → Option (List S)
  | 0, _, _ => none
  | _ + 1, _, [] => some []
  | n + 1, first, c :: r => match stpP first (c :: r) with
    | none => none
    | some (s, r') => (pathP n false r').map (fun l => s :: l)
def resP (s : Str) : List S × Int :=
  if 20000 < s.length then ([], 4) else match pathP (s.length + 1) true s with
    | none => ([], 2)
    | some l => if pathOk l then (l, 0) else ([], 1)

theorem cutP_iff : ∀ (u r q : Str), cutP u r = some q ↔ r = u ++ q
  | [], r, q => by simp [cutP]
  | a :: u, [], q => by simp [cutP]
  | a :: u, c :: r, q => by
    rw [cutP]
    split
    · rename_i h; subst h; rw [cutP_iff u r q]; simp
    · rename_i h; constructor
      · intro h'; cases h'
      · intro h'; simp at h'; exact absurd h'.1.symm h
theorem cutP_len {u r q : Str} (h : cutP u r = some q) : r.length = u.length + q.length := by
  rw [(cutP_iff u r q).1 h, List.length_append]
theorem dw_len (r : Str) : r.length = (r.takeWhile nmByte).length + (r.dropWhile nmByte).length := by
  conv => lhs; rw [← List.takeWhile_append_dropWhile (p := nmByte) (l := r)]
  rw [List.length_append]
theorem quoP_len : ∀ (n : Nat) (r : Str), r.length ≤ n → ∀ v q, quoP r = some (v, q) → q.length + v.length < r.length := by
  intro n
  induction n with
  | zero => intro r h v q; cases r with
    | nil => simp [quoP]
    | cons c r => simp at h
  | succ n ih =>
    intro r h v q hq
    cases r with
    | nil => simp [quoP] at hq
    | cons c r =>
      rw [quoP.eq_def] at hq
      simp only at hq
      have hl : ∀ (x : UInt8) (u : Str), u.length ≤ n → (quoP u).map (fun p => (x :: p.1, p.2)) = some (v, q) → q.length + v.length < u.length + 1 := fun x u hu he => by
        cases hc : quoP u with
        | none => rw [hc] at he; cases he
        | some p =>
          rw [hc] at he
          obtain ⟨a, b⟩ := p
          simp at he
          obtain ⟨rfl, rfl⟩ := he
          have := ih u hu a b hc
          simp; omega
      simp only [List.length_cons] at h ⊢
      split at hq
      · simp at hq; obtain ⟨rfl, rfl⟩ := hq; simp
      · split at hq
        · cases r with
          | nil => simp at hq
          | cons e r' =>
            simp only [List.length_cons] at h ⊢
            simp only at hq
            split at hq
            · have := hl _ r' (by omega) hq; omega
            · split at hq
              · have := hl _ r' (by omega) hq; omega
              · split at hq
                · have := hl _ r' (by omega) hq; omega
                · cases hq
        · split at hq
          · have := hl _ r (by omega) hq; omega
          · cases hq
theorem keyP_len {n r : Str} {s : S} {q : Str} (h : keyP n r = some (s, q)) : q.length < r.length := by
  unfold keyP at h
  split at h
  · cases h
  · rename_i q1 h1
    split at h
    · cases h
    · rename_i v q2 h2
      split at h
      · cases h
      · rename_i q3 h3
        simp at h; obtain ⟨-, rfl⟩ := h
        have a := cutP_len h1; have b := quoP_len _ _ (Nat.le_refl _) _ _ h2; have c := cutP_len h3
        simp at a c; omega
theorem brkP_len {r : Str} {s : S} {q : Str} (h : brkP r = some (s, q)) : q.length < r.length := by
  unfold brkP brkN at h
  have hd := dw_len r
  split at h
  · rename_i q1 h1
    split at h
    · simp at h; obtain ⟨-, rfl⟩ := h
      have := cutP_len h1; simp at this; omega
    · cases h
  · split at h
    · cases h
    · have := keyP_len h; omega
theorem fldP_len {r : Str} {s : S} {q : Str} (h : fldP r = some (s, q)) : q.length < r.length := by
  unfold fldP at h
  split at h
  · cases h
  · rename_i h1
    simp at h; obtain ⟨-, rfl⟩ := h
    have hd := dw_len r
    have : 0 < (r.takeWhile nmByte).length := List.length_pos_iff.2 h1
    omega
theorem stpP_len {first : Bool} {r : Str} {s : S} {q : Str} (h : stpP first r = some (s, q)) : q.length < r.length := by
  unfold stpP at h
  split at h
  · rename_i q1 h1
    have := brkP_len h; have := cutP_len h1; simp at this; omega
  · split at h
    · exact fldP_len h
    · split at h
      · rename_i q1 h1
        have := fldP_len h; have := cutP_len h1; simp at this; omega
      · cases h
theorem pathP_fuel : ∀ (n m : Nat) (first : Bool) (r : Str), r.length < n → r.length < m → pathP n first r = pathP m first r := by
  intro n
  induction n with
  | zero => intro m first r h; omega
  | succ n ih =>
    intro m first r h h'
    cases m with
    | zero => omega
    | succ m =>
      cases r with
      | nil => rfl
      | cons c r =>
        simp only [pathP]
        cases hs : stpP first (c :: r) with
        | none => rfl
        | some p =>
          obtain ⟨s, q⟩ := p
          have := stpP_len hs
          simp only
          rw [ih m false q (by simp at this h; omega) (by simp at this h'; omega)]
theorem pathP_len : ∀ (n : Nat) (first : Bool) (r : Str) (l : List S), pathP n first r = some l → l.length ≤ r.length := by
  intro n
  induction n with
  | zero => intro first r l h; simp [pathP] at h
  | succ n ih =>
    intro first r l h
    cases r with
    | nil => simp [pathP] at h; subst h; simp
    | cons c r =>
      simp only [pathP] at h
      cases hs : stpP first (c :: r) with
      | none => rw [hs] at h; cases h
      | some p =>
        obtain ⟨s, q⟩ := p
        rw [hs] at h
        simp only at h
        cases hp : pathP n false q with
        | none => rw [hp] at h; cases h
        | some l' =>
          rw [hp] at h; simp at h; subst h
          have := ih false q l' hp; have := stpP_len hs
          simp at this ⊢; omega

/-- the text of a step, without the dot before a name -/
def stpT (s : S) : Str := if s.k = 2 then [91] ++ Lib.decDigits s.ix.toNat ++ [93] else if s.k = 3 then [91] ++ s.nm ++ [61] ++ quoteR s.vl ++ [93] else s.nm
def dotT (first : Bool) (s : S) : Str := if s.k = 1 ∧ first = false then 46 :: stpT s else stpT s
def pathT : Bool → List S → Str
  | _, [] => []
  | first, s :: l => dotT first s ++ pathT false l
theorem pathT_snoc : ∀ (l : List S) (first : Bool) (s : S), pathT first (l ++ [s]) = pathT first l ++ dotT (first && l.isEmpty) s
  | [], first, s => by simp [pathT]
  | a :: l, first, s => by
    simp only [List.cons_append, pathT, pathT_snoc l false s, List.isEmpty_cons, Bool.and_false, Bool.false_and, List.append_assoc]
def prP (p : List S) : Str × Int := if pathOk p then (pathT true p, 0) else ([], 1)
end Go.Proofs.YtjpmnlefjmdelaaGreatDoor
namespace Go.Proofs.YtjpmnlefjmdelaaGreatDoor

/-- does the value have, as a map, a field nm that is the string vl -/
def hasK (nm vl : Str) : T → Bool
  | .mk k _ _ _ f => decide (k = 5) && (match look nm f with
    | some (.mk k' _ s' _ _) => decide (k' = 3) && decide (s' = vl)
    | none => false)
def plF (nm : Str) (f : List (Str × T)) : Option Nat := f.findIdx? (fun p => decide (p.1 = nm))
/-- where the step leads on -/
def place (s : S) : T → Option Nat
  | .mk k _ _ l f =>
    if s.k = 1 then (if k = 5 then plF s.nm f else none)
    else if s.k = 2 then (if k = 4 ∧ s.ix < l.length then some s.ix.toNat else none)
    else if s.k = 3 then (if k = 4 then l.findIdx? (hasK s.nm s.vl) else none)
    else none
def kidAt (s : S) (i : Nat) : T → Option T
  | .mk _ _ _ l f => if s.k = 1 then (f[i]?).map (·.2) else l[i]?
def kid (s : S) (t : T) : Option T := match place s t with
  | none => none
  | some i => kidAt s i t
def findT : T → List S → Option T
  | t, [] => some t
  | t, s :: p => match kid s t with
    | none => none
    | some c => findT c p
/-- the text of what a place is as a number -/
def ixO : Option Nat → Int
  | none => -1
  | some i => i
def cutAt (s : S) (i : Nat) : T → T
  | .mk k n x l f => if s.k = 1 then .mk k n x l (f.eraseIdx i) else .mk k n x (l.eraseIdx i) f
def putAt (s : S) (i : Nat) (c : T) : T → T
  | .mk k n x l f => if s.k = 1 then (match f[i]? with
    | some p => .mk k n x l (f.set i (p.1, c))
    | none => .mk k n x l f) else .mk k n x (l.set i c) f
def remT : List S → T → Option T
  | [], _ => none
  | s :: p, t => match place s t with
    | none => none
    | some i => match p with
      | [] => some (cutAt s i t)
      | s' :: p' => match kidAt s i t with
        | none => none
        | some c => match remT (s' :: p') c with
          | none => none
          | some c' => some (putAt s i c' t)
/-- why the step cannot lead into the value -/
def entE (s : S) : T → Int
  | .mk k _ _ l _ => if ¬ k = (if s.k = 1 then 5 else 4) then 6 else if s.k = 2 ∧ (l.length : Int) < s.ix then 5 else 0
def newT (s : S) : T := if s.k = 3 then .mk 5 0 [] [] [(s.nm, .mk 3 0 s.vl [] [])] else .mk 5 0 [] [] []
theorem place_lt {s : S} {k n : Int} {x : Str} {l : List T} {f : List (Str × T)} {i : Nat} (hs : 0 ≤ s.ix) (h : place s (.mk k n x l f) = some i) : if s.k = 1 then i < f.length else i < l.length := by
  simp only [place] at h
  by_cases h1 : s.k = 1
  · rw [if_pos h1]
    rw [if_pos h1] at h
    split at h
    · unfold plF at h
      rw [List.findIdx?_eq_some_iff_getElem] at h
      exact h.1
    · cases h
  · rw [if_neg h1]
    rw [if_neg h1] at h
    split at h
    · split at h
      · rename_i h2; simp at h; omega
      · cases h
    · split at h
      · split at h
        · rw [List.findIdx?_eq_some_iff_getElem] at h
          exact h.1
        · cases h
      · cases h
theorem kid_some {s : S} {t : T} {i : Nat} (hs : 0 ≤ s.ix) (h : place s t = some i) : ∃ c, kidAt s i t = some c := by
  obtain ⟨k, n, x, l, f⟩ := t
  have := place_lt hs h
  simp only [kidAt]
  by_cases h1 : s.k = 1
  · rw [if_pos h1] at this ⊢; exact ⟨f[i].2, by rw [List.getElem?_eq_getElem this]; rfl⟩
  · rw [if_neg h1] at this ⊢; exact ⟨l[i], List.getElem?_eq_getElem this⟩
end Go.Proofs.YtjpmnlefjmdelaaGreatDoor
