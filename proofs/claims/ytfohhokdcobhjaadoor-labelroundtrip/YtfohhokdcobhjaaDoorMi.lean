/- Parsing what was printed: plain mathematics. -/
import Derived.Test.YtfohhokdcobhjaaDoorMg
import Derived.Test.YtfohhokdcobhjaaDoorWn
namespace Go.Proofs.YtfohhokdcobhjaaDoor

theorem lex_trim {s s' : Str} (h : trim s = trim s') : lex s = lex s' := by
  by_cases h0 : trim s = []
  · rw [lex_nil h0, lex_nil (by rw [← h]; exact h0)]
  · have h1 := lex_cons (s := s') (by rw [← h]; exact h0)
    rw [lex_cons h0, h1, h]
theorem lex_blank (u : Str) : lex (32 :: u) = lex u := lex_trim (by simp [trim])
theorem wb_ne {c : UInt8} (h : isWb c = true) : (c == 32) = false := by
  cases hc : (c == 32) with
  | false => rfl
  | true =>
    have : c = 32 := by simpa using hc
    subst this; exact absurd h (by decide)
theorem trim_self {c : UInt8} (h : (c == 32) = false) (u : Str) : trim (c :: u) = c :: u := by simp [trim, h]
/-- the text that follows does not go on with the word -/
def Stops (u : Str) : Prop := ∀ c t, u = c :: t → isWb c = false
theorem wlen_app {wd u : Str} (h : ∀ c ∈ wd, isWb c = true) (hu : Stops u) : wlen (wd ++ u) = wd.length := by
  unfold wlen
  have : (wd ++ u).takeWhile isWb = wd := by
    induction wd with
    | nil =>
      cases u with
      | nil => rfl
      | cons c t => simp [hu c t rfl]
    | cons a wd ih => simp [h a (by simp), ih (fun c hc => h c (by simp [hc]))]
  rw [this]
theorem lex_word {wd u : Str} (hne : wd ≠ []) (h : ∀ c ∈ wd, isWb c = true) (hu : Stops u) : lex (wd ++ u) = wd :: lex u := by
  obtain ⟨c, t, rfl⟩ : ∃ c t, wd = c :: t := by
    cases wd with
    | nil => exact absurd rfl hne
    | cons c t => exact ⟨c, t, rfl⟩
  have ht : trim (c :: t ++ u) = c :: t ++ u := trim_self (wb_ne (h c (by simp))) _
  have hw := wlen_app h hu
  have hk : tokLen (c :: t ++ u) = (c :: t).length := by unfold tokLen; rw [if_pos (by rw [hw]; simp), hw]
  rw [lex_cons (by rw [ht]; simp), ht, hk, List.take_left, List.drop_left]
theorem lex_punct {c : UInt8} {u : Str} (h1 : isWb c = false) (h2 : (c == 32) = false) (h3 : Lib.hasPrefix (c :: u) [33, 61] = false) : lex (c :: u) = [c] :: lex u := by
  have ht : trim (c :: u) = c :: u := trim_self h2 u
  have hk : tokLen (c :: u) = 1 := by
    unfold tokLen
    have : wlen (c :: u) = 0 := by unfold wlen; simp [h1]
    rw [if_neg (by omega), h3]; simp
  rw [lex_cons (by rw [ht]; simp), ht, hk]; rfl
theorem lex_comma (u : Str) : lex (44 :: u) = [44] :: lex u := lex_punct (by decide) (by decide) (by simp [Lib.hasPrefix, List.isPrefixOf])
theorem lex_open (u : Str) : lex (40 :: u) = [40] :: lex u := lex_punct (by decide) (by decide) (by simp [Lib.hasPrefix, List.isPrefixOf])
theorem lex_shut (u : Str) : lex (41 :: u) = [41] :: lex u := lex_punct (by decide) (by decide) (by simp [Lib.hasPrefix, List.isPrefixOf])
theorem stops_of {c : UInt8} (h : isWb c = false) (u : Str) : Stops (c :: u) := fun a t e => by cases e; exact h
theorem stops_nil : Stops [] := fun a t e => by cases e

def wtok (v : Str) : List Str := if v = [] then [] else [v]
def valToks : List Str → List Str
  | [] => []
  | [v] => wtok v
  | v :: b :: t => wtok v ++ [44] :: valToks (b :: t)
def reqToks (r : Req) : List Str :=
  if r.op = 1 then r.key :: [105, 110] :: [40] :: (valToks r.vals ++ [[41]])
  else if r.op = 2 then r.key :: [110, 111, 116, 105, 110] :: [40] :: (valToks r.vals ++ [[41]])
  else if r.op = 4 then [[33], r.key] else [r.key]
def selToks : List Req → List Str
  | [] => []
  | [r] => reqToks r
  | r :: b :: t => reqToks r ++ [44] :: selToks (b :: t)

theorem valOk_wb {v : Str} (h : valOk v = true) : ∀ c ∈ v, isWb c = true := by
  unfold valOk at h
  simp only [Bool.and_eq_true] at h
  intro c hc
  have := List.all_eq_true.1 h.2 c hc
  unfold isVb at this; simp at this; exact this.1
theorem keyOk_wb {k : Str} (h : keyOk k = true) : k ≠ [] ∧ (∀ c ∈ k, isWb c = true) ∧ isWord k = true ∧ (k == [33]) = false := by
  unfold keyOk at h
  simp only [Bool.and_eq_true, decide_eq_true_eq] at h
  obtain ⟨⟨⟨h1, -⟩, h3⟩, h4⟩ := h
  cases k with
  | nil => simp at h1
  | cons c t =>
    refine ⟨by simp, fun x hx => List.all_eq_true.1 h4 x hx, List.all_eq_true.1 h4 c (by simp), ?_⟩
    have hc : isLet c = true := h3
    cases hb : ((c :: t) == [33]) with
    | false => rfl
    | true =>
      have : c :: t = [33] := by simpa using hb
      cases this; exact absurd hc (by decide)
theorem lex_val {v u : Str} (h : valOk v = true) (hu : Stops u) : lex (v ++ u) = wtok v ++ lex u := by
  unfold wtok
  split
  · rename_i h0; rw [h0]; rfl
  · rename_i h0; rw [lex_word h0 (valOk_wb h) hu]; rfl
theorem lex_vals (vals : List Str) (u : Str) (h : ∀ v ∈ vals, valOk v = true) : lex (jn [44] vals ++ 41 :: u) = valToks vals ++ [41] :: lex u := by
  induction vals with
  | nil => exact lex_shut u
  | cons v t ih =>
    cases t with
    | nil =>
      rw [jn_one, lex_val (h v (by simp)) (stops_of (by decide) u), lex_shut]; rfl
    | cons b t =>
      rw [show jn [44] (v :: b :: t) ++ 41 :: u = v ++ 44 :: (jn [44] (b :: t) ++ 41 :: u) by rw [jn_cons]; simp]
      rw [lex_val (h v (by simp)) (stops_of (by decide) _), lex_comma, ih (fun x hx => h x (List.mem_cons_of_mem _ hx))]
      simp [valToks]
theorem lex_req {r : Req} (u : Str) (h : reqOk r = true) (hu : Stops u) : lex (reqText r ++ u) = reqToks r ++ lex u := by
  obtain ⟨k1, k2, -, -⟩ := keyOk_wb (reqOk_keyOk h)
  have hv := (reqOk_vals h).2
  have hop := reqOk_op h
  obtain ⟨key, op, vals⟩ := r
  simp only at k1 k2 hv hop
  have hin : ∀ c ∈ ([105, 110] : Str), isWb c = true := by decide
  have hnot : ∀ c ∈ ([110, 111, 116, 105, 110] : Str), isWb c = true := by decide
  rcases hop with rfl | rfl | rfl | rfl
  · rw [reqText_1]
    show lex ((key ++ [32, 105, 110, 32, 40] ++ jn [44] vals ++ [41]) ++ u) = _
    rw [show (key ++ [32, 105, 110, 32, 40] ++ jn [44] vals ++ [41]) ++ u = key ++ (32 :: ([105, 110] ++ (32 :: 40 :: (jn [44] vals ++ 41 :: u)))) by simp]
    rw [lex_word k1 k2 (stops_of (by decide) _), lex_blank, lex_word (by simp) hin (stops_of (by decide) _), lex_blank, lex_open, lex_vals vals u hv]
    simp [reqToks]
  · rw [reqText_2]
    rw [show (key ++ [32, 110, 111, 116, 105, 110, 32, 40] ++ jn [44] vals ++ [41]) ++ u = key ++ (32 :: ([110, 111, 116, 105, 110] ++ (32 :: 40 :: (jn [44] vals ++ 41 :: u)))) by simp]
    rw [lex_word k1 k2 (stops_of (by decide) _), lex_blank, lex_word (by simp) hnot (stops_of (by decide) _), lex_blank, lex_open, lex_vals vals u hv]
    simp [reqToks]
  · rw [reqText_3, lex_word k1 k2 hu]; rfl
  · rw [reqText_4]
    show lex (33 :: (key ++ u)) = _
    have hp : Lib.hasPrefix (33 :: (key ++ u)) [33, 61] = false := by
      cases key with
      | nil => exact absurd rfl k1
      | cons c t =>
        have : ¬ c = 61 := fun e => by subst e; exact absurd (k2 61 (by simp)) (by decide)
        simp [Lib.hasPrefix, List.isPrefixOf]; exact fun e => this e.symm
    rw [lex_punct (by decide) (by decide) hp, lex_word k1 k2 hu]; rfl
theorem lex_sel (s : List Req) (u : Str) (hs : s ≠ []) (h : ∀ r ∈ s, reqOk r = true) (hu : Stops u) : lex (selText s ++ u) = selToks s ++ lex u := by
  induction s with
  | nil => exact absurd rfl hs
  | cons r t ih =>
    cases t with
    | nil =>
      show lex (jn [44, 32] [reqText r] ++ u) = _
      rw [jn_one, lex_req u (h r (by simp)) hu]; rfl
    | cons b t =>
      have e : selText (r :: b :: t) ++ u = reqText r ++ (44 :: 32 :: (selText (b :: t) ++ u)) := by
        show jn [44, 32] (reqText r :: reqText b :: t.map reqText) ++ u = _
        rw [jn_cons]; simp [selText]
      rw [e, lex_req _ (h r (by simp)) (stops_of (by decide) _), lex_comma, lex_blank, ih (by simp) (fun x hx => h x (List.mem_cons_of_mem _ hx))]
      simp [selToks]

theorem wtok_word {v : Str} (h : ∀ c ∈ v, isWb c = true) (h0 : ¬ v = []) : isWord v = true := by
  cases v with
  | nil => exact absurd rfl h0
  | cons c t => exact h c (by simp)
theorem w_yes {v : Str} (h : isWord v = true) (T : List Str) : wVal (v :: T) = v ∧ wRest (v :: T) = T := by
  unfold wVal wRest; rw [hd_cons, h]; simp
theorem w_no {t : Str} (h : isWord t = false) (T : List Str) : wVal (t :: T) = [] ∧ wRest (t :: T) = t :: T := by
  unfold wVal wRest; rw [hd_cons, h]; simp
theorem w_tok {v t : Str} (h : ∀ c ∈ v, isWb c = true) (ht : isWord t = false) (T : List Str) : wVal (wtok v ++ t :: T) = v ∧ wRest (wtok v ++ t :: T) = t :: T := by
  unfold wtok
  split
  · rename_i h0; rw [h0]; exact w_no ht T
  · rename_i h0; exact w_yes (wtok_word h h0) (t :: T)
theorem vals_back (vals : List Str) (T : List Str) (hne : vals ≠ []) (h : ∀ v ∈ vals, valOk v = true) :
    wVal (valToks vals ++ [41] :: T) :: (vloop (wRest (valToks vals ++ [41] :: T))).1 = vals ∧ (vloop (wRest (valToks vals ++ [41] :: T))).2 = [41] :: T := by
  induction vals with
  | nil => exact absurd rfl hne
  | cons v t ih =>
    cases t with
    | nil =>
      obtain ⟨h1, h2⟩ := w_tok (valOk_wb (h v (by simp))) (t := [41]) (by decide) T
      show wVal (wtok v ++ [41] :: T) :: (vloop (wRest (wtok v ++ [41] :: T))).1 = _ ∧ (vloop (wRest (wtok v ++ [41] :: T))).2 = _
      rw [h1, h2, vloop_no (by rw [hd_cons]; decide)]; exact ⟨rfl, rfl⟩
    | cons b t =>
      obtain ⟨i1, i2⟩ := ih (by simp) (fun x hx => h x (List.mem_cons_of_mem _ hx))
      obtain ⟨h1, h2⟩ := w_tok (valOk_wb (h v (by simp))) (t := [44]) (by decide) (valToks (b :: t) ++ [41] :: T)
      have e : valToks (v :: b :: t) ++ [41] :: T = wtok v ++ [44] :: (valToks (b :: t) ++ [41] :: T) := by simp [valToks]
      rw [e, h1, h2, vloop_yes (by rfl)]
      exact ⟨by rw [List.tail_cons]; simp only; rw [i1], by rw [List.tail_cons]; exact i2⟩
theorem chain_SS {l : List Str} (h : chain valOk sLt l = true) : SS l := by
  induction l with
  | nil => trivial
  | cons a t ih =>
    cases t with
    | nil => trivial
    | cons b t =>
      rw [chain, Bool.and_eq_true, Bool.and_eq_true, sLt_eq, decide_eq_true_eq] at h
      exact ⟨h.1.2, ih h.2⟩
theorem norm_self {l : List Str} (h : SS l) : norm l = l := SS.ext (norm_SS l) h (norm_mem l)
theorem list_back {vals : List Str} (T : List Str) (h : valsOk vals = true) : pList ([40] :: (valToks vals ++ [41] :: T)) = some (vals, T) := by
  have h2 := (valsOk_le h).2
  have hne : vals ≠ [] := by
    intro e; subst e; simp [valsOk] at h
  obtain ⟨b1, b2⟩ := vals_back vals T hne h2
  have hc : chain valOk sLt vals = true := by unfold valsOk at h; simp only [Bool.and_eq_true] at h; exact h.2
  unfold pList
  rw [if_pos (show hd ([40] :: (valToks vals ++ [41] :: T)) = [40] from rfl), List.tail_cons, b2, if_pos (show hd ([41] :: T) = [41] from rfl), b1, norm_self (chain_SS hc)]; rfl
theorem pReq_b2 {S : List Str} (h : isWord (hd (bang S)) = true) (h2 : ¬ hd S = [33]) : pReq S =
  if hd (bang S).tail = [61] then some (⟨hd (bang S), 1, [wVal (bang S).tail.tail]⟩, wRest (bang S).tail.tail)
  else if hd (bang S).tail = [33, 61] then some (⟨hd (bang S), 2, [wVal (bang S).tail.tail]⟩, wRest (bang S).tail.tail)
  else if hd (bang S).tail = [105, 110] then (pList (bang S).tail.tail).map fun p => (⟨hd (bang S), 1, p.1⟩, p.2)
  else if hd (bang S).tail = [110, 111, 116, 105, 110] then (pList (bang S).tail.tail).map fun p => (⟨hd (bang S), 2, p.1⟩, p.2)
  else some (⟨hd (bang S), 3, []⟩, (bang S).tail) := by
  unfold pReq; rw [if_neg (by simp [h]), if_neg h2]
/-- what follows a requirement -/
def Ends (T : List Str) : Prop := hd T = [] ∨ hd T = [44]
theorem req_back {r : Req} (T : List Str) (h : reqOk r = true) (hT : Ends T) : pReq (reqToks r ++ T) = some (r, T) := by
  obtain ⟨k1, -, k3, k4⟩ := keyOk_wb (reqOk_keyOk h)
  have hop := reqOk_op h
  obtain ⟨key, op, vals⟩ := r
  simp only at k1 k3 k4 hop
  have k5 : ¬ key = [33] := by simpa using k4
  have hkb : ∀ X : List Str, bang (key :: X) = key :: X := fun X => by unfold bang; rw [hd_cons, if_neg k5]
  rcases hop with rfl | rfl | rfl | rfl
  · have hv : valsOk vals = true := by rw [reqOk_in (reqOk_keyOk h) (Or.inl rfl)] at h; exact h
    have e : reqToks ⟨key, 1, vals⟩ ++ T = key :: [105, 110] :: [40] :: (valToks vals ++ [41] :: T) := by simp [reqToks]
    rw [e, pReq_b2 (by rw [hkb]; exact k3) (by rw [hd_cons]; exact k5), hkb, hd_cons, List.tail_cons, hd_cons, List.tail_cons, if_neg (by decide), if_neg (by decide), if_pos rfl, list_back T hv]; rfl
  · have hv : valsOk vals = true := by rw [reqOk_in (reqOk_keyOk h) (Or.inr rfl)] at h; exact h
    have e : reqToks ⟨key, 2, vals⟩ ++ T = key :: [110, 111, 116, 105, 110] :: [40] :: (valToks vals ++ [41] :: T) := by simp [reqToks]
    rw [e, pReq_b2 (by rw [hkb]; exact k3) (by rw [hd_cons]; exact k5), hkb, hd_cons, List.tail_cons, hd_cons, List.tail_cons, if_neg (by decide), if_neg (by decide), if_neg (by decide), if_pos rfl, list_back T hv]; rfl
  · have hv : vals = [] := by
      rw [reqOk_ex (reqOk_keyOk h) (Or.inl rfl)] at h
      exact List.eq_nil_of_length_eq_zero (by simpa using h)
    subst hv
    show pReq (key :: T) = _
    have hh : ∀ t : Str, t ≠ [] → t ≠ [44] → ¬ hd T = t := fun t h1 h2 e => by
      rcases hT with h | h
      · rw [h] at e; exact h1 e.symm
      · rw [h] at e; exact h2 e.symm
    rw [pReq_b2 (by rw [hkb]; exact k3) (by rw [hd_cons]; exact k5), hkb, hd_cons, List.tail_cons, if_neg (hh _ (by simp) (by simp)), if_neg (hh _ (by simp) (by simp)), if_neg (hh _ (by simp) (by simp)), if_neg (hh _ (by simp) (by simp))]
  · have hv : vals = [] := by
      rw [reqOk_ex (reqOk_keyOk h) (Or.inr rfl)] at h
      exact List.eq_nil_of_length_eq_zero (by simpa using h)
    subst hv
    show pReq ([33] :: key :: T) = _
    have hb : bang ([33] :: key :: T) = key :: T := rfl
    unfold pReq
    rw [hb, hd_cons, hd_cons, if_neg (by simp [k3]), if_pos rfl]; rfl
theorem sel_back (s : List Req) (hs : s ≠ []) (h : ∀ r ∈ s, reqOk r = true) : pSel (selToks s) = some s := by
  induction s with
  | nil => exact absurd rfl hs
  | cons r t ih =>
    cases t with
    | nil =>
      have := req_back [] (h r (by simp)) (Or.inl rfl)
      rw [List.append_nil] at this
      show pSel (reqToks r) = _
      rw [pSel_eq, this]; rfl
    | cons b t =>
      have h2 := ih (by simp) (fun x hx => h x (List.mem_cons_of_mem _ hx))
      have := req_back ([44] :: selToks (b :: t)) (h r (by simp)) (Or.inr rfl)
      show pSel (reqToks r ++ [44] :: selToks (b :: t)) = _
      rw [pSel_eq, this]
      simp only
      rw [if_neg (by simp), if_pos (show hd ([44] :: selToks (b :: t)) = [44] from rfl), List.tail_cons, h2]; rfl
theorem errOf_valid {r : Req} (h : reqOk r = true) : errOf r = 0 := by
  have h1 := reqOk_keyOk h
  obtain ⟨h2, h3⟩ := reqOk_vals h
  obtain ⟨key, op, vals⟩ := r
  exact errOf_ok h1 (List.all_eq_true.2 h3) (by simp only at h2; omega)
theorem reqToks_ne (r : Req) : reqToks r ≠ [] := by unfold reqToks; split; simp; split; simp; split <;> simp
theorem selToks_ne {s : List Req} (h : s ≠ []) : selToks s ≠ [] := by
  cases s with
  | nil => exact absurd rfl h
  | cons r t =>
    cases t with
    | nil => exact reqToks_ne r
    | cons b t => show reqToks r ++ _ ≠ []; simp
theorem parse_toks {text : Str} {s : List Req} (hl : ¬ 20000 < text.length) (hx : lex text = selToks s) (h : ∀ r ∈ s, reqOk r = true) (h16 : ¬ 16 < s.length) : parseE text = 0 ∧ parseS text = s := by
  have hr : readT text = some s := by
    unfold readT
    rw [hx]
    by_cases hs : s = []
    · subst hs; rfl
    · rw [if_neg (selToks_ne hs), sel_back s hs h]
  exact parse_good hl hr (firstErr_zero (fun i a _ ha => decide_eq_true (errOf_valid (h a (List.mem_of_getElem? ha))))) h16
theorem parse_print {s : List Req} (h : printE s = 0) : parseE (printS s) = 0 ∧ parseS (printS s) = s := by
  have hok : selOk s = true := by
    cases hk : selOk s with
    | true => rfl
    | false => unfold printE at h; rw [if_pos hk] at h; cases h
  have hlen : ¬ 20000 < (selText s).length := fun h2 => by unfold printE at h; rw [if_neg (by simp [hok]), if_pos h2] at h; cases h
  have hp : printS s = selText s := by unfold printS; rw [if_neg (by simp [hok]), if_neg hlen]
  obtain ⟨h16, hall⟩ := selOk_mem hok
  rw [hp]
  refine parse_toks hlen ?_ hall (by omega)
  by_cases hs : s = []
  · subst hs; rfl
  · have := lex_sel s [] hs hall stops_nil
    rw [List.append_nil, lex_nil (s := []) rfl, List.append_nil] at this
    exact this
theorem selToks_app {a b : List Req} (ha : a ≠ []) (hb : b ≠ []) : selToks (a ++ b) = selToks a ++ [44] :: selToks b := by
  induction a with
  | nil => exact absurd rfl ha
  | cons r t ih =>
    cases t with
    | nil =>
      cases b with
      | nil => exact absurd rfl hb
      | cons c b => rfl
    | cons d t =>
      show reqToks r ++ [44] :: selToks ((d :: t) ++ b) = (reqToks r ++ [44] :: selToks (d :: t)) ++ _
      rw [ih (by simp)]; simp
theorem print_text {s : List Req} (h : printE s = 0) : printS s = selText s ∧ (∀ r ∈ s, reqOk r = true) := by
  have hok : selOk s = true := by
    cases hk : selOk s with
    | true => rfl
    | false => unfold printE at h; rw [if_pos hk] at h; cases h
  have hlen : ¬ 20000 < (selText s).length := fun h2 => by unfold printE at h; rw [if_neg (by simp [hok]), if_pos h2] at h; cases h
  exact ⟨by unfold printS; rw [if_neg (by simp [hok]), if_neg hlen], (selOk_mem hok).2⟩
theorem parse_join {a b : List Req} (ha : printE a = 0) (hb : printE b = 0) (ha0 : a ≠ []) (hb0 : b ≠ []) (h16 : ¬ 16 < (a ++ b).length) (hl : (printS a).length + (printS b).length < 19999) :
    parseE (printS a ++ [32, 44] ++ printS b) = 0 ∧ parseS (printS a ++ [32, 44] ++ printS b) = a ++ b := by
  obtain ⟨pa, ka⟩ := print_text ha
  obtain ⟨pb, kb⟩ := print_text hb
  refine parse_toks (by simp only [List.length_append, List.length_cons, List.length_nil]; omega) ?_ (fun r hr => by
    rcases List.mem_append.1 hr with h | h
    · exact ka r h
    · exact kb r h) h16
  have hb' := lex_sel b [] hb0 kb stops_nil
  rw [List.append_nil, lex_nil (s := []) rfl, List.append_nil] at hb'
  rw [pa, pb, show selText a ++ [32, 44] ++ selText b = selText a ++ (32 :: 44 :: selText b) by simp, lex_sel a _ ha0 ka (stops_of (by decide) _), lex_blank, lex_comma, hb', selToks_app ha0 hb0]
end Go.Proofs.YtfohhokdcobhjaaDoor
