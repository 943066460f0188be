/- What the laws of patch ask first: num, object, sound. -/
import Derived.Test.YtinenbgdkchghaaHg
import Derived.Test.YtinenbgdkchghaaYe
import Derived.Test.YtinenbgdkchghaaWfJ
import Derived.Test.YtinenbgdkchghaaAl
set_option linter.unusedSimpArgs false
set_option linter.unusedVariables false
namespace Go.Proofs.Ytinenbgdkchghaa
open Go.RowKit Go.Sort Go.Proofs.LawFrame

/-- an integer -/
def tn (n : Int) : T := .mk 2 n [] [] []
/-- a map of fields -/
def tm (f : List (Str × T)) : T := .mk 5 0 [] [] f
theorem is_num (w : World) (n : Int) : Is w ⟨2, n, [], none, 0, 0, none, 0, 0⟩ (tn n) := (isA_leafP w (fun _ => True) 2 n []).is
theorem vals_nil (w : World) : Vals w (.slice none 0 0) [] := ⟨[], rfl, Flat.nil _ _ _ (Nat.zero_le _) _, fun i x t h => by simp at h⟩
theorem is_mapV {w : World} {a : Option Addr} {n c : Nat} {f : List (Str × T)} (h : Flds w (.slice a n c) f) : Is w ⟨5, 0, [], none, 0, 0, a, n, c⟩ (tm f) := Is.of (c := ⟨5, 0, [], none, 0, 0, a, n, c⟩) (vals_nil w) h
theorem flds_one {w : World} {b : Nat} {x : Str} {c : VC} {t : T} (o : Own w b (FC.cells ⟨x, c⟩) 33) (h : Is w c t) : Flds w (.slice (some ⟨b, 0, none⟩) 1 1) [(x, t)] :=
  ⟨[⟨x, c⟩], rfl, ⟨some ⟨b, 0, none⟩, 1, rfl, Nat.le_refl _, by unfold maxLen; omega, fun _ => ⟨b, 0, rfl, o.lt, fun j u hj => by have := o.cell (i := j) (v := u) (by simpa using hj); simpa using this⟩⟩,
    fun i y p h1 h2 => by cases i with | zero => simp at h1 h2; subst h1; subst h2; rfl | succ i => simp at h1, fun i y p h1 h2 => by cases i with | zero => simp at h1 h2; subst h1; subst h2; exact h | succ i => simp at h1⟩
theorem flds_two {w : World} {b : Nat} {x y : Str} {c d : VC} {t u : T} (o : Own w b (FC.cells ⟨x, c⟩ ++ FC.cells ⟨y, d⟩) 33) (h : Is w c t) (h' : Is w d u) : Flds w (.slice (some ⟨b, 0, none⟩) 2 2) [(x, t), (y, u)] :=
  ⟨[⟨x, c⟩, ⟨y, d⟩], rfl, ⟨some ⟨b, 0, none⟩, 2, rfl, Nat.le_refl _, by unfold maxLen; omega, fun _ => ⟨b, 0, rfl, o.lt, fun j u hj => by have := o.cell (i := j) (v := u) (by simpa using hj); simpa using this⟩⟩,
    fun i z p h1 h2 => by
      match i, h1, h2 with
      | 0, h1, h2 => simp at h1 h2; subst h1; subst h2; rfl
      | 1, h1, h2 => simp at h1 h2; subst h1; subst h2; rfl
      | i + 2, h1, h2 => simp at h1, fun i z p h1 h2 => by
      match i, h1, h2 with
      | 0, h1, h2 => simp at h1 h2; subst h1; subst h2; exact h
      | 1, h1, h2 => simp at h1 h2; subst h1; subst h2; exact h'
      | i + 2, h1, h2 => simp at h1⟩

set_option maxHeartbeats 2000000 in
theorem num_any (n : Int) (w : World) : Calls Try.prog 25 #[.int .i64 n] w fun e w' => e = .returned (.agg #[.int .i64 2, .int .i64 n, .string ⟨#[]⟩, .slice none 0 0, .slice none 0 0]) ∧ Below w.heap.size w w' := by
  have HU := Lib.hid (And.intro (Own.new w [.int .i64 2, .int .i64 n, .string ⟨#[]⟩, .slice none 0 0, .slice none 0 0] 25) (below_alloc w (.cells #[.int .i64 2, .int .i64 n, .string ⟨#[]⟩, .slice none 0 0, .slice none 0 0] 25)))
  go_enter Try.func25, Try.ntmps25
  go_wp2
  change bodyPost Try.prog Try.f25 _ _ _ (w.alloc (.cells #[.int .i64 2, .int .i64 n, .string ⟨#[]⟩, .slice none 0 0, .slice none 0 0] 25))
  generalize (w.alloc (.cells #[.int .i64 2, .int .i64 n, .string ⟨#[]⟩, .slice none 0 0, .slice none 0 0] 25)) = U at *
  have c0 := HU.out.1.cell (i := 0) rfl
  have c1 := HU.out.1.cell (i := 1) rfl
  have c2 := HU.out.1.cell (i := 2) rfl
  have c3 := HU.out.1.cell (i := 3) rfl
  have c4 := HU.out.1.cell (i := 4) rfl
  exact bodyPost_ret (v := .agg #[.int .i64 2, .int .i64 n, .string ⟨#[]⟩, .slice none 0 0, .slice none 0 0]) (by simp [results, Try.results25, go_sem, c0, c1, c2, c3, c4]) rfl ⟨rfl, HU.out.2⟩

set_option maxHeartbeats 2000000 in
theorem object_any (a : Option Addr) (n c : Nat) (w : World) : Calls Try.prog 24 #[.slice a n c] w fun e w' => e = .returned (.agg #[.int .i64 5, .int .i64 0, .string ⟨#[]⟩, .slice none 0 0, .slice a n c]) ∧ Below w.heap.size w w' := by
  have HU := Lib.hid (And.intro (Own.new w [.int .i64 5, .int .i64 0, .string ⟨#[]⟩, .slice none 0 0, .slice a n c] 25) (below_alloc w (.cells #[.int .i64 5, .int .i64 0, .string ⟨#[]⟩, .slice none 0 0, .slice a n c] 25)))
  go_enter Try.func24, Try.ntmps24
  go_wp2
  change bodyPost Try.prog Try.f24 _ _ _ (w.alloc (.cells #[.int .i64 5, .int .i64 0, .string ⟨#[]⟩, .slice none 0 0, .slice a n c] 25))
  generalize (w.alloc (.cells #[.int .i64 5, .int .i64 0, .string ⟨#[]⟩, .slice none 0 0, .slice a n c] 25)) = U at *
  have c0 := HU.out.1.cell (i := 0) rfl
  have c1 := HU.out.1.cell (i := 1) rfl
  have c2 := HU.out.1.cell (i := 2) rfl
  have c3 := HU.out.1.cell (i := 3) rfl
  have c4 := HU.out.1.cell (i := 4) rfl
  exact bodyPost_ret (v := .agg #[.int .i64 5, .int .i64 0, .string ⟨#[]⟩, .slice none 0 0, .slice a n c]) (by simp [results, Try.results24, go_sem, c0, c1, c2, c3, c4]) rfl ⟨rfl, HU.out.2⟩

structure SB (w : World) (P : Prop) (e : Ending) (w' : World) : Prop where
  out : ∃ r : Bool, e = .returned (.bool r) ∧ Below w.heap.size w w' ∧ (r = true → P)
set_option maxHeartbeats 8000000 in
set_option maxRecDepth 4000 in
theorem sound_any (l : List T) (v : Value) (w : World) (hv : Vals w v l) (hs : ∀ t ∈ l, t.strB 140737488355328) : Calls Try.prog 10 #[v] w fun e w' => SB w (∀ t ∈ l, Val 12 t ∧ t.size ≤ 600) e w' := by
  obtain ⟨ao, cap, rfl, hlc, hlm⟩ := hv.form
  unfold maxLen at hlm
  have HS := Lib.hid hs
  clear hs
  go_enter Try.func10, Try.ntmps10
  go_wp2
  go_loopg [7] l.length (fun g i wr => ∃ q : Nat, q ≤ l.length ∧ g = l.length - q ∧ i = .int .i64 q ∧ Below w.heap.size w wr ∧ Hid (∀ (j : Nat) (t : T), j < q → l[j]? = some t → Val 12 t ∧ t.size ≤ 600))
  case atStart => exact ⟨0, Nat.zero_le _, rfl, rfl, Below.refl _ _, Lib.hid (fun j t h => absurd h (by omega))⟩
  case round =>
    obtain ⟨q, hq, hg, rfl, hb, HM⟩ := hrel
    have HG := Lib.hid hg
    clear hg
    by_cases hlt : q < l.length
    case neg =>
      obtain rfl : q = l.length := by omega
      go_wp2
      go_ret
      exact ⟨true, rfl, hb, fun _ t ht => by obtain ⟨j, hj⟩ := List.getElem?_of_mem ht; exact HM.out j t (List.getElem?_eq_some_iff.1 hj).1 hj⟩
    have hx := List.getElem?_eq_getElem hlt
    generalize l[q] = t at hx
    obtain ⟨b, off, c, rfl, hbl, hI, q0, q1, q2, q3, q4⟩ := hv.at hb hx
    have hbA := below_alloc wr (.cells #[.int .i64 c.k, .int .i64 c.n, sV c.s, .slice c.la c.ln c.lc, .slice c.fa c.fn c.fc] 25)
    have HX := Lib.hid (And.intro hx (HS.out t (List.mem_of_getElem? hx)))
    have HV := Lib.hid (show Below w.heap.size w (wr.alloc (.cells #[.int .i64 c.k, .int .i64 c.n, sV c.s, .slice c.la c.ln c.lc, .slice c.fa c.fn c.fc] 25)) ∧ Own (wr.alloc (.cells #[.int .i64 c.k, .int .i64 c.n, sV c.s, .slice c.la c.ln c.lc, .slice c.fa c.fn c.fc] 25)) wr.heap.size [.int .i64 c.k, .int .i64 c.n, sV c.s, .slice c.la c.ln c.lc, .slice c.fa c.fn c.fc] 25 ∧ Is (wr.alloc (.cells #[.int .i64 c.k, .int .i64 c.n, sV c.s, .slice c.la c.ln c.lc, .slice c.fa c.fn c.fc] 25)) c t from ⟨below_all hb hbA, Own.new _ _ _, hI.all hbA⟩)
    clear hx hbA hI
    go_upto_region 4 with (fail)
    change Code.wp Try.prog _ _ _ (wr.alloc (.cells #[.int .i64 c.k, .int .i64 c.n, sV c.s, .slice c.la c.ln c.lc, .slice c.fa c.fn c.fc] 25))
    clear q0 q1 q2 q3 q4
    generalize wr.alloc (.cells #[.int .i64 c.k, .int .i64 c.n, sV c.s, .slice c.la c.ln c.lc, .slice c.fa c.fn c.fc] 25) = V at *
    generalize wr.heap.size = nb at *
    have C := Lib.hid (few3000_any t c V HV.out.2.2 HX.out.2)
    have e0 := HV.out.2.1.cell (i := 0) rfl
    have e1 := HV.out.2.1.cell (i := 1) rfl
    have e2 := HV.out.2.1.cell (i := 2) rfl
    have e3 := HV.out.2.1.cell (i := 3) rfl
    have e4 := HV.out.2.1.cell (i := 4) rfl
    obtain ⟨F, hF⟩ : ∃ F, decide (0 ≤ leftT t 3000) = F := ⟨_, rfl⟩
    rw [hF] at C
    go_wp2_with fail
    refine C.out.mono ?_
    rintro e w2 ⟨rfl, hb2⟩
    have H2 := Lib.hid (And.intro (below_all HV.out.1 hb2) (And.intro (HV.out.2.1.all hb2) (HV.out.2.2.all hb2)))
    clear C e0 e1 e2 e3 e4 hb2 hb
    cases F with
    | false =>
      clear hF
      go_wp2
      go_ret
      exact ⟨false, rfl, H2.out.1, fun h => by cases h⟩
    | true =>
      have HFE := Lib.hid (few3000 HX.out.2 hF)
      have C := Lib.hid (rvalidtop_any t c w2 H2.out.2.2 HFE.out.2 (by have := HFE.out.1; omega))
      clear hF
      have e0 := H2.out.2.1.cell (i := 0) rfl
      have e1 := H2.out.2.1.cell (i := 1) rfl
      have e2 := H2.out.2.1.cell (i := 2) rfl
      have e3 := H2.out.2.1.cell (i := 3) rfl
      have e4 := H2.out.2.1.cell (i := 4) rfl
      go_wp2_with fail
      refine C.out.mono ?_
      rintro e w3 HR
      obtain ⟨r, rfl, hb3, hr⟩ := HR.out
      have H3 := Lib.hid (below_all H2.out.1 hb3)
      clear C e0 e1 e2 e3 e4 hb3 HR
      cases r with
      | false =>
        clear hr
        go_wp2
        go_ret
        exact ⟨false, rfl, H3.out, fun h => by cases h⟩
      | true =>
        have HOK := Lib.hid (hr.1 rfl)
        clear hr
        go_wp2
        go_roundg (l.length - (q + 1))
        case measure => have := HG.out; omega
        case rel =>
          refine ⟨q + 1, by omega, rfl, by go_num, H3.out, Lib.hid (fun j t' hj ht' => ?_)⟩
          by_cases e : j = q
          · subst e; rw [HX.out.1] at ht'; cases ht'; exact HOK.out
          · exact HM.out j t' (by omega) ht'
end Go.Proofs.Ytinenbgdkchghaa
