/- Tokens and the grammar of selectors: plain mathematics. -/
import Derived.Test.YtfohhokdcobhjaaDoorMc
namespace Go.Proofs.YtfohhokdcobhjaaDoor

def trim (s : Str) : Str := s.dropWhile (· == 32)
def tokLen (t : Str) : Nat := if 0 < wlen t then wlen t else if Lib.hasPrefix t [33, 61] then 2 else min 1 t.length
theorem trim_len (s : Str) : (trim s).length ≤ s.length := (List.dropWhile_sublist _).length_le
theorem tokLen_le (t : Str) : tokLen t ≤ t.length := by
  unfold tokLen
  split
  · exact wlen_le t
  · split
    · rename_i h
      unfold Lib.hasPrefix at h
      have := (List.isPrefixOf_iff_prefix.1 h).length_le
      simpa using this
    · exact Nat.min_le_right _ _
theorem tokLen_pos {t : Str} (h : t ≠ []) : 0 < tokLen t := by
  have : 0 < t.length := List.length_pos_iff.2 h
  unfold tokLen
  split
  · assumption
  · split
    · omega
    · omega

def lexF : Nat → Str → List Str
  | 0, _ => []
  | n + 1, s => if trim s = [] then [] else (trim s).take (tokLen (trim s)) :: lexF n ((trim s).drop (tokLen (trim s)))
def lex (s : Str) : List Str := lexF s.length s
theorem drop_lt {s : Str} (h : ¬ trim s = []) : ((trim s).drop (tokLen (trim s))).length < s.length := by
  have h1 := trim_len s
  have h2 := tokLen_pos h
  have h3 : 0 < (trim s).length := List.length_pos_iff.2 h
  rw [List.length_drop]; omega
theorem lexF_mono : ∀ (n m : Nat) (s : Str), s.length ≤ n → s.length ≤ m → lexF n s = lexF m s := by
  intro n
  induction n with
  | zero =>
    intro m s hn _
    have : s = [] := List.eq_nil_of_length_eq_zero (by omega)
    subst this
    cases m with
    | zero => rfl
    | succ m => simp [lexF, trim]
  | succ n ih =>
    intro m s hn hm
    cases m with
    | zero =>
      have : s = [] := List.eq_nil_of_length_eq_zero (by omega)
      subst this; simp [lexF, trim]
    | succ m =>
      unfold lexF
      by_cases h : trim s = []
      · rw [if_pos h, if_pos h]
      · rw [if_neg h, if_neg h]
        have := drop_lt h
        rw [ih m _ (by omega) (by omega)]
theorem lex_nil {s : Str} (h : trim s = []) : lex s = [] := by
  unfold lex
  cases hs : s.length with
  | zero => rfl
  | succ n => unfold lexF; rw [if_pos h]
theorem lex_cons {s : Str} (h : ¬ trim s = []) : lex s = (trim s).take (tokLen (trim s)) :: lex ((trim s).drop (tokLen (trim s))) := by
  have h1 := drop_lt h
  unfold lex
  cases hs : s.length with
  | zero => omega
  | succ n =>
    rw [lexF, if_neg h, lexF_mono n ((trim s).drop (tokLen (trim s))).length _ (by omega) (Nat.le_refl _)]
/-- one step of the reader -/
theorem lex_step (s : Str) : (trim s).take (tokLen (trim s)) = (lex s).headD [] ∧ lex ((trim s).drop (tokLen (trim s))) = (lex s).tail := by
  by_cases h : trim s = []
  · rw [lex_nil h, h]; exact ⟨by simp, by rw [lex_nil (by simp [trim])]; rfl⟩
  · rw [lex_cons h]; exact ⟨rfl, rfl⟩
theorem lex_mem : ∀ (n : Nat) (s : Str), s.length ≤ n → ∀ t ∈ lex s, t ≠ [] ∧ t.length ≤ s.length := by
  intro n
  induction n with
  | zero =>
    intro s hs t ht
    have : s = [] := List.eq_nil_of_length_eq_zero (by omega)
    subst this; rw [lex_nil (by simp [trim])] at ht; cases ht
  | succ n ih =>
    intro s hs t ht
    by_cases h : trim s = []
    · rw [lex_nil h] at ht; cases ht
    · rw [lex_cons h] at ht
      have h1 := drop_lt h
      rcases List.mem_cons.1 ht with rfl | ht
      · have h2 := tokLen_pos h
        have h3 : 0 < (trim s).length := List.length_pos_iff.2 h
        have h4 := trim_len s
        refine ⟨fun h0 => ?_, by rw [List.length_take]; omega⟩
        have := congrArg List.length h0
        rw [List.length_take, List.length_nil] at this; omega
      · have := ih _ (by omega) t ht
        exact ⟨this.1, by omega⟩
theorem lex_len : ∀ (n : Nat) (s : Str), s.length ≤ n → (lex s).length ≤ s.length := by
  intro n
  induction n with
  | zero =>
    intro s hs
    have : s = [] := List.eq_nil_of_length_eq_zero (by omega)
    subst this; rw [lex_nil (by simp [trim])]; simp
  | succ n ih =>
    intro s hs
    by_cases h : trim s = []
    · rw [lex_nil h]; simp
    · rw [lex_cons h]
      have h1 := drop_lt h
      have := ih ((trim s).drop (tokLen (trim s))) (by omega)
      simp only [List.length_cons]; omega

theorem wlen_isWord (t : Str) : decide (wlen t = 0) = !isWord t := by
  unfold wlen isWord
  cases t with
  | nil => rfl
  | cons c t =>
    cases h : isWb c with
    | true => simp [h]
    | false => simp [h]

def hd (S : List Str) : Str := S.headD []
/-- a word or nothing, and what follows -/
def wVal (S : List Str) : Str := if isWord (hd S) = true then hd S else []
def wRest (S : List Str) : List Str := if isWord (hd S) = true then S.tail else S
theorem wRest_len (S : List Str) : (wRest S).length ≤ S.length := by unfold wRest; split <;> simp
theorem hd_cons (t : Str) (T : List Str) : hd (t :: T) = t := rfl
theorem hd_nil : hd [] = [] := rfl

/-- the values behind the first one -/
def vloop : List Str → List Str × List Str
  | [] => ([], [])
  | [t] => if t = [44] then ([[]], []) else ([], [t])
  | t :: u :: U => if t = [44] then (if isWord u = true then (u :: (vloop U).1, (vloop U).2) else ([] :: (vloop (u :: U)).1, (vloop (u :: U)).2)) else ([], t :: u :: U)
theorem vloop_no {S : List Str} (h : ¬ hd S = [44]) : vloop S = ([], S) := by
  match S with
  | [] => rfl
  | [t] => unfold vloop; rw [if_neg (show ¬ t = [44] from h)]
  | t :: u :: U => unfold vloop; rw [if_neg (show ¬ t = [44] from h)]
theorem vloop_yes {S : List Str} (h : hd S = [44]) : vloop S = (wVal S.tail :: (vloop (wRest S.tail)).1, (vloop (wRest S.tail)).2) := by
  match S with
  | [] => rw [hd_nil] at h; cases h
  | [t] =>
    have ht : t = [44] := h
    unfold vloop; rw [if_pos ht]; rfl
  | t :: u :: U =>
    have ht : t = [44] := h
    rw [vloop, if_pos ht]
    cases hu : isWord u with
    | true => simp [wVal, wRest, hd, hu]
    | false => simp [wVal, wRest, hd, hu]
theorem vloop_len : ∀ (n : Nat) (S : List Str), S.length ≤ n → (vloop S).2.length ≤ S.length ∧ (vloop S).1.length ≤ S.length := by
  intro n
  induction n with
  | zero =>
    intro S hS
    have : S = [] := List.eq_nil_of_length_eq_zero (by omega)
    subst this; simp [vloop]
  | succ n ih =>
    intro S hS
    by_cases h : hd S = [44]
    · rw [vloop_yes h]
      have h1 := wRest_len S.tail
      have h2 : S.tail.length + 1 ≤ S.length := by
        cases S with
        | nil => rw [hd_nil] at h; cases h
        | cons a t => simp
      have := ih (wRest S.tail) (by omega)
      simp only [List.length_cons]; omega
    · rw [vloop_no h]; simp

/-- a string put into a sorted list without duplicates -/
def putS : List Str → Str → List Str
  | [], s => [s]
  | a :: l, s => if sLt a s = true then a :: putS l s else if a = s then a :: l else s :: a :: l
def norm (l : List Str) : List Str := l.foldl putS []

def pList (S : List Str) : Option (List Str × List Str) :=
  if hd S = [40] then
    if hd (vloop (wRest S.tail)).2 = [41] then some (norm (wVal S.tail :: (vloop (wRest S.tail)).1), (vloop (wRest S.tail)).2.tail) else none
  else none
theorem pList_lt {S : List Str} {p : List Str × List Str} (h : pList S = some p) : p.2.length < S.length := by
  unfold pList at h
  split at h
  · split at h
    · cases h
      rename_i h1 h2
      have a := wRest_len S.tail
      have b := (vloop_len _ (wRest S.tail) (Nat.le_refl _)).1
      have c : S.tail.length + 1 ≤ S.length := by
        cases S with
        | nil => rw [hd_nil] at h1; cases h1
        | cons a t => simp
      simp only [List.length_tail]; omega
    · cases h
  · cases h

def bang (S : List Str) : List Str := if hd S = [33] then S.tail else S
def pReq (S : List Str) : Option (Req × List Str) :=
  if isWord (hd (bang S)) = false then none
  else if hd S = [33] then some (⟨hd (bang S), 4, []⟩, (bang S).tail)
  else if hd (bang S).tail = [61] then some (⟨hd (bang S), 1, [wVal (bang S).tail.tail]⟩, wRest (bang S).tail.tail)
  else if hd (bang S).tail = [33, 61] then some (⟨hd (bang S), 2, [wVal (bang S).tail.tail]⟩, wRest (bang S).tail.tail)
  else if hd (bang S).tail = [105, 110] then (pList (bang S).tail.tail).map fun p => (⟨hd (bang S), 1, p.1⟩, p.2)
  else if hd (bang S).tail = [110, 111, 116, 105, 110] then (pList (bang S).tail.tail).map fun p => (⟨hd (bang S), 2, p.1⟩, p.2)
  else some (⟨hd (bang S), 3, []⟩, (bang S).tail)
theorem tail_lt {S : List Str} (h : isWord (hd S) = true) : S.tail.length < S.length := by
  cases S with
  | nil => cases h
  | cons a t => simp
theorem bang_len (S : List Str) : (bang S).length ≤ S.length := by unfold bang; split <;> simp
theorem pReq_lt {S : List Str} {p : Req × List Str} (h : pReq S = some p) : p.2.length < S.length := by
  unfold pReq at h
  have hb := bang_len S
  split at h
  · cases h
  · rename_i hw
    have hw' : isWord (hd (bang S)) = true := by simpa using hw
    have ht := tail_lt hw'
    have hr := wRest_len (bang S).tail.tail
    have htt : (bang S).tail.tail.length ≤ (bang S).tail.length := by simp
    split at h
    · cases h; simp only; omega
    · split at h
      · cases h; simp only; omega
      · split at h
        · cases h; simp only; omega
        · split at h
          · obtain ⟨q, hq, rfl⟩ := Option.map_eq_some_iff.1 h
            have := pList_lt hq; simp only; omega
          · split at h
            · obtain ⟨q, hq, rfl⟩ := Option.map_eq_some_iff.1 h
              have := pList_lt hq; simp only; omega
            · cases h; simp only; omega

def pSelF : Nat → List Str → Option (List Req)
  | 0, _ => none
  | n + 1, S =>
    match pReq S with
    | none => none
    | some (r, S') => if S' = [] then some [r] else if hd S' = [44] then (pSelF n S'.tail).map (r :: ·) else none
def pSel (S : List Str) : Option (List Req) := pSelF (S.length + 1) S
theorem pSelF_mono : ∀ (n m : Nat) (S : List Str), S.length < n → S.length < m → pSelF n S = pSelF m S := by
  intro n
  induction n with
  | zero => intro m S h; omega
  | succ n ih =>
    intro m S hn hm
    cases m with
    | zero => omega
    | succ m =>
      unfold pSelF
      cases hq : pReq S with
      | none => rfl
      | some p =>
        obtain ⟨r, S'⟩ := p
        have := pReq_lt hq
        simp only at this ⊢
        by_cases h1 : S' = []
        · rw [if_pos h1, if_pos h1]
        · rw [if_neg h1, if_neg h1]
          have h3 : 0 < S'.length := List.length_pos_iff.2 h1
          rw [ih m S'.tail (by rw [List.length_tail]; omega) (by rw [List.length_tail]; omega)]
theorem pSel_eq (S : List Str) : pSel S = match pReq S with
    | none => none
    | some (r, S') => if S' = [] then some [r] else if hd S' = [44] then (pSel S'.tail).map (r :: ·) else none := by
  unfold pSel
  rw [pSelF]
  cases hq : pReq S with
  | none => rfl
  | some p =>
    obtain ⟨r, S'⟩ := p
    have := pReq_lt hq
    simp only at this ⊢
    by_cases h1 : S' = []
    · rw [if_pos h1, if_pos h1]
    · rw [if_neg h1, if_neg h1]
      have h3 : 0 < S'.length := List.length_pos_iff.2 h1
      rw [pSelF_mono S.length (S'.tail.length + 1) S'.tail (by rw [List.length_tail]; omega) (by omega)]

/-- the requirements of a text -/
def readT (text : Str) : Option (List Req) := if lex text = [] then some [] else pSel (lex text)
def firstErr : List Req → Int
  | [] => 0
  | r :: t => if errOf r = 0 then firstErr t else errOf r
def chkE (s : List Req) : Int := if firstErr s = 0 then (if 16 < s.length then 4 else 0) else firstErr s
def parseE (text : Str) : Int := if 20000 < text.length then 4 else match readT text with | none => 2 | some s => chkE s
def parseS (text : Str) : List Req := if 20000 < text.length then [] else match readT text with | none => [] | some s => if chkE s = 0 then s else []
end Go.Proofs.YtfohhokdcobhjaaDoor
