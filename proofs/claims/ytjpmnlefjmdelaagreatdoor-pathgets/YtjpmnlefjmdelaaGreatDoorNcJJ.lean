/- Lists and maps, printed. Maps, printed. Values, printed. -/
import Derived.Test.YtjpmnlefjmdelaaGreatDoorNaJ
import Derived.Test.YtjpmnlefjmdelaaGreatDoorShelf
import Derived.Lib.LaidTab
import Derived.Lib.ItoaLen
import Derived.Test.YtjpmnlefjmdelaaGreatDoorCaJ
set_option linter.unusedSimpArgs false
set_option linter.unusedVariables false
namespace Go.Proofs.YtjpmnlefjmdelaaGreatDoor
open Go.RowKit Go.Sort Go.Proofs.LawFrame

mutual
def prV : T → Str
  | .mk k n s l f => if k = 0 then [110, 117, 108, 108] else if k = 1 then boolW (decide (n = 1)) else if k = 2 then Lib.itoa n else if k = 3 then quoteR s else if k = 4 then [91] ++ prL true l ++ [93] else if k = 5 then [123] ++ prF true f ++ [125] else []
def prL : Bool → List T → Str
  | _, [] => []
  | b, t :: r => (if b then [] else [44]) ++ prV t ++ prL false r
def prF : Bool → List (Str × T) → Str
  | _, [] => []
  | b, (x, t) :: r => (if b then [] else [44]) ++ quoteR x ++ [58] ++ prV t ++ prF false r
end
mutual
def prOk : T → Prop
  | .mk _ n s l f => s.length ≤ 1000 ∧ (-1000000000000000 ≤ n ∧ n ≤ 1000000000000000) ∧ prOkL l ∧ prOkF f
def prOkL : List T → Prop
  | [] => True
  | t :: r => prOk t ∧ prOkL r
def prOkF : List (Str × T) → Prop
  | [] => True
  | (x, t) :: r => x.length ≤ 1000 ∧ prOk t ∧ prOkF r
end
def Tab (w : World) : Prop := Lib.TabIs Tryz.prog w "internal/strconv.uint64pow10" .u64 Lib.pow10Tab
/-- the state in which a part is printed: the world w0 of the value, the builder behind it -/
structure PrS (w0 : World) (bb : Nat) (l : Str) (w : World) : Prop where
  low : Below w0.heap.size w0 w
  le : w0.heap.size ≤ bb
  bd : Bd bb l w
theorem PrS.next {w0 : World} {bb : Nat} {l l' : Str} {w w' : World} (h : PrS w0 bb l w) (hw : Wr bb w w') (hd : Bd bb l' w') : PrS w0 bb l' w' := ⟨h.low.trans (hw.low.mono h.le), h.le, hd⟩
theorem PrS.all {w0 : World} {bb : Nat} {l : Str} {w w' : World} (h : PrS w0 bb l w) (hb : Below w.heap.size w w') : PrS w0 bb l w' := ⟨h.low.trans (hb.mono (Nat.le_trans h.le (Nat.le_of_lt h.bd.lt))), h.le, h.bd.all hb⟩
/-- the contract of writeValue at a tree -/
def WV (w0 : World) (bb : Nat) (t : T) : Prop := ∀ (c : VC) (l : Str) (w : World), Is w0 c t → PrS w0 bb l w → (l ++ prV t).length ≤ 5000000 → Calls Tryz.prog 48 #[.pointer (some ⟨bb, 0, none⟩), c.val] w fun e w' => e = .returned (.tuple #[]) ∧ Wr bb w w' ∧ Bd bb (l ++ prV t) w'
theorem prL_snoc (b : Bool) (l : List T) (t : T) : prL b (l ++ [t]) = prL b l ++ ((if b && l.isEmpty then [] else [44]) ++ prV t) := by
  induction l generalizing b with
  | nil => cases b <;> simp [prL]
  | cons x r ih => simp only [List.cons_append, prL, ih]; simp
theorem take_snoc' {α : Type} {l : List α} {k : Nat} {x : α} (h : l[k]? = some x) : l.take (k + 1) = l.take k ++ [x] := by
  obtain ⟨hk, rfl⟩ := List.getElem?_eq_some_iff.1 h
  exact List.take_succ_eq_append_getElem hk
theorem prL_take_le (b : Bool) (l : List T) (k : Nat) : (prL b (l.take k)).length ≤ (prL b l).length := by
  induction l generalizing b k with
  | nil => simp
  | cons x r ih =>
    cases k with
    | zero => simp [prL]
    | succ k => simp only [List.take_succ_cons, prL, List.length_append]; have := ih false k; omega

theorem Vals.at0 {w wr : World} {ao : Option Addr} {n cap : Nat} {l : List T} (h : Vals w (.slice ao n cap) l) (hb : Below w.heap.size w wr) {i : Nat} {t : T} (hk : l[i]? = some t) :
    ∃ (b off : Nat) (c : VC), ao = some ⟨b, off, none⟩ ∧ b < w.heap.size ∧ Is w c t ∧ wr.cell? ⟨b, off + i * 5, none⟩ = some (.int .i64 c.k) ∧ wr.cell? ⟨b, off + i * 5 + 1, none⟩ = some (.int .i64 c.n) ∧
      wr.cell? ⟨b, off + i * 5 + 2, none⟩ = some (sV c.s) ∧ wr.cell? ⟨b, off + i * 5 + 3, none⟩ = some (.slice c.la c.ln c.lc) ∧ wr.cell? ⟨b, off + i * 5 + 4, none⟩ = some (.slice c.fa c.fn c.fc) := by
  obtain ⟨b, off, c, h1, h2, h3, q0, q1, q2, q3, q4⟩ := h.at (Below.refl _ w) hk
  refine ⟨b, off, c, h1, h2, h3, ?_, ?_, ?_, ?_, ?_⟩
  all_goals (rw [hb.cell (p := ⟨b, _, none⟩) h2]; assumption)
theorem Flds.at0 {w wr : World} {ao : Option Addr} {n cap : Nat} {l : List (Str × T)} (h : Flds w (.slice ao n cap) l) (hb : Below w.heap.size w wr) {i : Nat} {p : Str × T} (hk : l[i]? = some p) :
    ∃ (b off : Nat) (c : VC), ao = some ⟨b, off, none⟩ ∧ b < w.heap.size ∧ Is w c p.2 ∧ wr.cell? ⟨b, off + i * 6, none⟩ = some (sV p.1) ∧ wr.cell? ⟨b, off + i * 6 + 1, none⟩ = some (.int .i64 c.k) ∧ wr.cell? ⟨b, off + i * 6 + 2, none⟩ = some (.int .i64 c.n) ∧
      wr.cell? ⟨b, off + i * 6 + 3, none⟩ = some (sV c.s) ∧ wr.cell? ⟨b, off + i * 6 + 4, none⟩ = some (.slice c.la c.ln c.lc) ∧ wr.cell? ⟨b, off + i * 6 + 5, none⟩ = some (.slice c.fa c.fn c.fc) := by
  obtain ⟨b, off, c, h1, h2, h3, q, q0, q1, q2, q3, q4⟩ := h.at (Below.refl _ w) hk
  refine ⟨b, off, c, h1, h2, h3, ?_, ?_, ?_, ?_, ?_, ?_⟩
  all_goals (rw [hb.cell (p := ⟨b, _, none⟩) h2]; assumption)
theorem prL_take_next {ls : List T} {k : Nat} {x : T} (hx : ls[k]? = some x) : prL true (ls.take (k + 1)) = prL true (ls.take k) ++ ((if k = 0 then [] else [44]) ++ prV x) := by
  rw [take_snoc' hx, prL_snoc]
  congr 2
  have hk := (List.getElem?_eq_some_iff.1 hx).1
  cases k with
  | zero => simp
  | succ k => cases ls with
    | nil => simp at hk
    | cons a r => simp
theorem prL_le_next {ls : List T} {k : Nat} {x : T} (hx : ls[k]? = some x) : (prL true (ls.take k)).length + (prV x).length + 1 ≤ (prL true ls).length + 1 := by
  have h1 := prL_take_le true ls (k + 1)
  rw [prL_take_next hx, List.length_append, List.length_append] at h1
  omega
set_option maxHeartbeats 4000000 in
set_option maxRecDepth 4000 in
theorem writeList_of {w0 : World} {bb : Nat} (v : Value) (ls : List T) (hv : Vals w0 v ls) (H : ∀ t ∈ ls, WV w0 bb t) {l : Str} {w : World} (hs : PrS w0 bb l w) (hn : ls.length ≤ 1000) (hlen : (l ++ ([91] ++ prL true ls ++ [93])).length ≤ 5000000) :
    Calls Tryz.prog 88 #[.pointer (some ⟨bb, 0, none⟩), v] w fun e w' => e = .returned (.tuple #[]) ∧ Wr bb w w' ∧ Bd bb (l ++ ([91] ++ prL true ls ++ [93])) w' := by
  obtain ⟨la, lc, rfl, hlc, hlm⟩ := hv.form
  unfold maxLen at hlm
  have HLEN := Lib.hid hlen
  have HH := Lib.hid H
  have C := Lib.hid (writeByte_any hs.bd (by simp at hlen; omega) (c := 91) (ci := 91) rfl)
  have HS0 := Lib.hid hs
  clear hs hlen H
  go_enter Tryz.func88, Tryz.ntmps88
  go_wp2_with fail
  refine C.out.mono ?_
  rintro e w1 ⟨rfl, hw1, hd1⟩
  have HS := Lib.hid (And.intro hw1 (HS0.out.next hw1 hd1))
  clear C hw1 hd1 HS0
  go_wp2
  go_loopg [10] ls.length (fun g i wr => ∃ k : Nat, k ≤ ls.length ∧ g = ls.length - k ∧ i = .int .i64 k ∧ Wr bb w wr ∧ PrS w0 bb (l ++ [91] ++ prL true (ls.take k)) wr)
  case atStart => exact ⟨0, Nat.zero_le _, rfl, rfl, HS.out.1, by simpa [prL] using HS.out.2⟩
  case round =>
    obtain ⟨k, hk, hg, rfl, hw, hs⟩ := hrel
    have HG := Lib.hid hg
    have HP := Lib.hid (prL_take_le true ls k)
    clear hg HS
    by_cases hlt : k < ls.length
    · have hx := get_some hlt
      generalize ls[k] = x at hx
      obtain ⟨b, off, c, rfl, hbl, hI, q0, q1, q2, q3, q4⟩ := hv.at0 hs.low hx
      have HI := Lib.hid hI
      have HX := Lib.hid hx
      have hbA := below_alloc wr (.cells #[.int .i64 c.k, .int .i64 c.n, sV c.s, .slice c.la c.ln c.lc, .slice c.fa c.fn c.fc] 25)
      have oN := Own.new wr [.int .i64 c.k, .int .i64 c.n, sV c.s, .slice c.la c.ln c.lc, .slice c.fa c.fn c.fc] 25
      have hoff := off_new hs.bd (Nat.le_refl wr.heap.size)
      have HSA := Lib.hid (And.intro (hw.below hs.bd hbA) (And.intro (hs.all hbA) (And.intro oN (hoff.all hs.bd hbA))))
      clear hx hbA oN hoff hw hs hI
      go_upto_region 4 with (fail)
      change Code.wp Tryz.prog _ _ _ (wr.alloc (.cells #[.int .i64 c.k, .int .i64 c.n, sV c.s, .slice c.la c.ln c.lc, .slice c.fa c.fn c.fc] 25))
      clear q0 q1 q2 q3 q4
      generalize wr.alloc (.cells #[.int .i64 c.k, .int .i64 c.n, sV c.s, .slice c.la c.ln c.lc, .slice c.fa c.fn c.fc] 25) = V at *
      rcases Nat.eq_zero_or_pos k with hk0 | hk0
      · subst hk0
        have C := Lib.hid (HH.out x (List.mem_of_getElem? HX.out) c _ V HI.out HSA.out.2.1 (by have := HLEN.out; have := prL_le_next HX.out; simp only [List.length_append, List.length_singleton, List.length_cons, List.length_nil] at *; omega))
        have a0 := HSA.out.2.2.1.cell (i := 0) rfl
        have a1 := HSA.out.2.2.1.cell (i := 1) rfl
        have a2 := HSA.out.2.2.1.cell (i := 2) rfl
        have a3 := HSA.out.2.2.1.cell (i := 3) rfl
        have a4 := HSA.out.2.2.1.cell (i := 4) rfl
        go_wp2_with fail
        clear a0 a1 a2 a3 a4
        refine C.out.mono ?_
        rintro e w7 ⟨rfl, hw7, hd7⟩
        have HS7 := Lib.hid (And.intro (HSA.out.1.trans hw7) (HSA.out.2.1.next hw7 hd7))
        clear C hw7 hd7
        go_wp2
        go_roundg (ls.length - (0 + 1))
        case measure => have := HG.out; omega
        case rel => exact ⟨0 + 1, by omega, rfl, by go_num, HS7.out.1, by have := HS7.out.2; rw [prL_take_next HX.out]; simpa [prL] using this⟩
      · have hkp : (0 : Int) < (k : Int) := by omega
        have hkn : ¬ k = 0 := by omega
        have C := Lib.hid (writeByte_any HSA.out.2.1.bd (by have := HLEN.out; have := HP.out; simp only [List.length_append, List.length_singleton, List.length_cons, List.length_nil] at *; omega) (c := 44) (ci := 44) rfl)
        go_wp2_with fail
        refine C.out.mono ?_
        rintro e w5 ⟨rfl, hw5, hd5⟩
        have HSB := Lib.hid (And.intro (HSA.out.1.trans hw5) (And.intro (HSA.out.2.1.next hw5 hd5) (hw5.own _ _ _ HSA.out.2.2.1 HSA.out.2.2.2).1))
        clear C hw5 hd5 HSA
        have C := Lib.hid (HH.out x (List.mem_of_getElem? HX.out) c _ w5 HI.out HSB.out.2.1 (by have := HLEN.out; have := prL_le_next HX.out; simp only [List.length_append, List.length_singleton, List.length_cons, List.length_nil] at *; omega))
        have a0 := HSB.out.2.2.cell (i := 0) rfl
        have a1 := HSB.out.2.2.cell (i := 1) rfl
        have a2 := HSB.out.2.2.cell (i := 2) rfl
        have a3 := HSB.out.2.2.cell (i := 3) rfl
        have a4 := HSB.out.2.2.cell (i := 4) rfl
        go_wp2_with fail
        clear a0 a1 a2 a3 a4
        refine C.out.mono ?_
        rintro e w7 ⟨rfl, hw7, hd7⟩
        have HS7 := Lib.hid (And.intro (HSB.out.1.trans hw7) (HSB.out.2.1.next hw7 hd7))
        clear C hw7 hd7
        go_wp2
        go_roundg (ls.length - (k + 1))
        case measure => have := HG.out; omega
        case rel => exact ⟨k + 1, by omega, rfl, by go_num, HS7.out.1, by have := HS7.out.2; rw [prL_take_next HX.out]; simpa [hkn] using this⟩
    · obtain rfl : k = ls.length := by omega
      have C := Lib.hid (writeByte_any hs.bd (by have := HLEN.out; have := HP.out; simp only [List.length_append, List.length_singleton, List.length_cons, List.length_nil] at *; omega) (c := 93) (ci := 93) rfl)
      have HSA := Lib.hid hw
      clear hw hs
      go_wp2_with fail
      refine C.out.mono ?_
      rintro e w5 ⟨rfl, hw5, hd5⟩
      have HSB := Lib.hid (And.intro (HSA.out.trans hw5) hd5)
      clear C hw5 hd5 HSA
      go_wp2
      go_end0
      exact ⟨rfl, HSB.out.1, by have := HSB.out.2; rw [List.take_length] at this; simpa using this⟩
end Go.Proofs.YtjpmnlefjmdelaaGreatDoor
namespace Go.Proofs.YtjpmnlefjmdelaaGreatDoor
open Go.RowKit Go.Sort Go.Proofs.LawFrame

theorem prF_snoc (b : Bool) (l : List (Str × T)) (p : Str × T) : prF b (l ++ [p]) = prF b l ++ ((if b && l.isEmpty then [] else [44]) ++ (quoteR p.1 ++ ([58] ++ prV p.2))) := by
  induction l generalizing b with
  | nil => obtain ⟨x, t⟩ := p; cases b <;> simp [prF]
  | cons y r ih => obtain ⟨y1, y2⟩ := y; simp only [List.cons_append, prF, ih]; simp
theorem prF_take_le (b : Bool) (l : List (Str × T)) (k : Nat) : (prF b (l.take k)).length ≤ (prF b l).length := by
  induction l generalizing b k with
  | nil => simp
  | cons y r ih =>
    obtain ⟨y1, y2⟩ := y
    cases k with
    | zero => simp [prF]
    | succ k => simp only [List.take_succ_cons, prF, List.length_append]; have := ih false k; omega
theorem prF_take_next {fs : List (Str × T)} {k : Nat} {x : Str × T} (hx : fs[k]? = some x) : prF true (fs.take (k + 1)) = prF true (fs.take k) ++ ((if k = 0 then [] else [44]) ++ (quoteR x.1 ++ ([58] ++ prV x.2))) := by
  rw [take_snoc' hx, prF_snoc]
  congr 2
  have hk := (List.getElem?_eq_some_iff.1 hx).1
  cases k with
  | zero => simp
  | succ k => cases fs with
    | nil => simp at hk
    | cons a r => simp
theorem prF_le_next {fs : List (Str × T)} {k : Nat} {x : Str × T} (hx : fs[k]? = some x) : (prF true (fs.take k)).length + (quoteR x.1).length + (prV x.2).length + 1 ≤ (prF true fs).length := by
  have h1 := prF_take_le true fs (k + 1)
  rw [prF_take_next hx, List.length_append, List.length_append, List.length_append, List.length_append, List.length_singleton] at h1
  omega
set_option maxHeartbeats 8000000 in
set_option maxRecDepth 4000 in
theorem writeMap_of {w0 : World} {bb : Nat} (v : Value) (fs : List (Str × T)) (hv : Flds w0 v fs) (H : ∀ p ∈ fs, WV w0 bb p.2) (hnm : ∀ p ∈ fs, p.1.length ≤ 1000) {l : Str} {w : World} (hs : PrS w0 bb l w) (hn : fs.length ≤ 1000) (hlen : (l ++ ([123] ++ prF true fs ++ [125])).length ≤ 5000000) :
    Calls Tryz.prog 89 #[.pointer (some ⟨bb, 0, none⟩), v] w fun e w' => e = .returned (.tuple #[]) ∧ Wr bb w w' ∧ Bd bb (l ++ ([123] ++ prF true fs ++ [125])) w' := by
  obtain ⟨la, lc, rfl, hlc, hlm⟩ := hv.form
  unfold maxLen at hlm
  have HLEN := Lib.hid hlen
  have HH := Lib.hid H
  have HNM := Lib.hid hnm
  have C := Lib.hid (writeByte_any hs.bd (by simp at hlen; omega) (c := 123) (ci := 123) rfl)
  have HS0 := Lib.hid hs
  clear hs hlen H hnm
  go_enter Tryz.func89, Tryz.ntmps89
  go_wp2_with fail
  refine C.out.mono ?_
  rintro e w1 ⟨rfl, hw1, hd1⟩
  have HS := Lib.hid (And.intro hw1 (HS0.out.next hw1 hd1))
  clear C hw1 hd1 HS0
  go_wp2
  go_loopg [10] fs.length (fun g i wr => ∃ k : Nat, k ≤ fs.length ∧ g = fs.length - k ∧ i = .int .i64 k ∧ Wr bb w wr ∧ PrS w0 bb (l ++ [123] ++ prF true (fs.take k)) wr)
  case atStart => exact ⟨0, Nat.zero_le _, rfl, rfl, HS.out.1, by simpa [prF] using HS.out.2⟩
  case round =>
    obtain ⟨k, hk, hg, rfl, hw, hs⟩ := hrel
    have HG := Lib.hid hg
    have HP := Lib.hid (prF_take_le true fs k)
    clear hg HS
    by_cases hlt : k < fs.length
    · have hx := get_some hlt
      generalize fs[k] = x at hx
      obtain ⟨b, off, c, rfl, hbl, hI, q, q0, q1, q2, q3, q4⟩ := hv.at0 hs.low hx
      have HI := Lib.hid hI
      have HX := Lib.hid hx
      have hbA := below_alloc wr (.cells #[sV x.1, .int .i64 c.k, .int .i64 c.n, sV c.s, .slice c.la c.ln c.lc, .slice c.fa c.fn c.fc] 58)
      have oN := Own.new wr [sV x.1, .int .i64 c.k, .int .i64 c.n, sV c.s, .slice c.la c.ln c.lc, .slice c.fa c.fn c.fc] 58
      have hoff := off_new hs.bd (Nat.le_refl wr.heap.size)
      have HSA := Lib.hid (And.intro (hw.below hs.bd hbA) (And.intro (hs.all hbA) (And.intro oN (hoff.all hs.bd hbA))))
      clear hx hbA oN hoff hw hs hI
      go_upto_region 4 with (fail)
      change Code.wp Tryz.prog _ _ _ (wr.alloc (.cells #[sV x.1, .int .i64 c.k, .int .i64 c.n, sV c.s, .slice c.la c.ln c.lc, .slice c.fa c.fn c.fc] 58))
      clear q q0 q1 q2 q3 q4
      generalize wr.alloc (.cells #[sV x.1, .int .i64 c.k, .int .i64 c.n, sV c.s, .slice c.la c.ln c.lc, .slice c.fa c.fn c.fc] 58) = V at *
      rcases Nat.eq_zero_or_pos k with hk0 | hk0
      · subst hk0
        have N0 := HSA.out.2.2.1.cell (i := 0) rfl
        have C := Lib.hid (jwriteString_any HSA.out.2.1.bd (by have := HLEN.out; have := prF_le_next HX.out; simp only [List.length_append, List.length_singleton, List.length_cons, List.length_nil] at *; omega) x.1 (by have := HNM.out x (List.mem_of_getElem? HX.out); omega))
        go_wp2_with fail
        clear N0
        refine C.out.mono ?_
        rintro e w6 ⟨rfl, hw6, hd6⟩
        have HS6 := Lib.hid (And.intro (HSA.out.1.trans hw6) (And.intro (HSA.out.2.1.next hw6 hd6) (hw6.own _ _ _ HSA.out.2.2.1 HSA.out.2.2.2)))
        clear C hw6 hd6
        have C := Lib.hid (writeByte_any HS6.out.2.1.bd (by have := HLEN.out; have := prF_le_next HX.out; simp only [List.length_append, List.length_singleton, List.length_cons, List.length_nil] at *; omega) (c := 58) (ci := 58) rfl)
        go_wp2_with fail
        refine C.out.mono ?_
        rintro e w7 ⟨rfl, hw7, hd7⟩
        have HS7 := Lib.hid (And.intro (HS6.out.1.trans hw7) (And.intro (HS6.out.2.1.next hw7 hd7) (hw7.own _ _ _ HS6.out.2.2.1 HS6.out.2.2.2).1))
        clear C hw7 hd7 HS6
        have C := Lib.hid (HH.out x (List.mem_of_getElem? HX.out) c _ w7 HI.out HS7.out.2.1 (by have := HLEN.out; have := prF_le_next HX.out; simp only [List.length_append, List.length_singleton, List.length_cons, List.length_nil] at *; omega))
        have a1 := HS7.out.2.2.cell (i := 1) rfl
        have a2 := HS7.out.2.2.cell (i := 2) rfl
        have a3 := HS7.out.2.2.cell (i := 3) rfl
        have a4 := HS7.out.2.2.cell (i := 4) rfl
        have a5 := HS7.out.2.2.cell (i := 5) rfl
        go_wp2_with fail
        clear a1 a2 a3 a4 a5
        refine C.out.mono ?_
        rintro e w8 ⟨rfl, hw8, hd8⟩
        have HS8 := Lib.hid (And.intro (HS7.out.1.trans hw8) (HS7.out.2.1.next hw8 hd8))
        clear C hw8 hd8 HS7
        go_wp2
        go_roundg (fs.length - (0 + 1))
        case measure => have := HG.out; omega
        case rel => exact ⟨0 + 1, by omega, rfl, by go_num, HS8.out.1, by have := HS8.out.2; rw [prF_take_next HX.out]; simpa [prF] using this⟩
      · have hkp : (0 : Int) < (k : Int) := by omega
        have hkn : ¬ k = 0 := by omega
        have C := Lib.hid (writeByte_any HSA.out.2.1.bd (by have := HLEN.out; have := HP.out; simp only [List.length_append, List.length_singleton, List.length_cons, List.length_nil] at *; omega) (c := 44) (ci := 44) rfl)
        go_wp2_with fail
        refine C.out.mono ?_
        rintro e w5 ⟨rfl, hw5, hd5⟩
        have HSB := Lib.hid (And.intro (HSA.out.1.trans hw5) (And.intro (HSA.out.2.1.next hw5 hd5) (hw5.own _ _ _ HSA.out.2.2.1 HSA.out.2.2.2)))
        clear C hw5 hd5 HSA
        have N0 := HSB.out.2.2.1.cell (i := 0) rfl
        have C := Lib.hid (jwriteString_any HSB.out.2.1.bd (by have := HLEN.out; have := prF_le_next HX.out; simp only [List.length_append, List.length_singleton, List.length_cons, List.length_nil] at *; omega) x.1 (by have := HNM.out x (List.mem_of_getElem? HX.out); omega))
        go_wp2_with fail
        clear N0
        refine C.out.mono ?_
        rintro e w6 ⟨rfl, hw6, hd6⟩
        have HS6 := Lib.hid (And.intro (HSB.out.1.trans hw6) (And.intro (HSB.out.2.1.next hw6 hd6) (hw6.own _ _ _ HSB.out.2.2.1 HSB.out.2.2.2)))
        clear C hw6 hd6
        have C := Lib.hid (writeByte_any HS6.out.2.1.bd (by have := HLEN.out; have := prF_le_next HX.out; simp only [List.length_append, List.length_singleton, List.length_cons, List.length_nil] at *; omega) (c := 58) (ci := 58) rfl)
        go_wp2_with fail
        refine C.out.mono ?_
        rintro e w7 ⟨rfl, hw7, hd7⟩
        have HS7 := Lib.hid (And.intro (HS6.out.1.trans hw7) (And.intro (HS6.out.2.1.next hw7 hd7) (hw7.own _ _ _ HS6.out.2.2.1 HS6.out.2.2.2).1))
        clear C hw7 hd7 HS6
        have C := Lib.hid (HH.out x (List.mem_of_getElem? HX.out) c _ w7 HI.out HS7.out.2.1 (by have := HLEN.out; have := prF_le_next HX.out; simp only [List.length_append, List.length_singleton, List.length_cons, List.length_nil] at *; omega))
        have a1 := HS7.out.2.2.cell (i := 1) rfl
        have a2 := HS7.out.2.2.cell (i := 2) rfl
        have a3 := HS7.out.2.2.cell (i := 3) rfl
        have a4 := HS7.out.2.2.cell (i := 4) rfl
        have a5 := HS7.out.2.2.cell (i := 5) rfl
        go_wp2_with fail
        clear a1 a2 a3 a4 a5
        refine C.out.mono ?_
        rintro e w8 ⟨rfl, hw8, hd8⟩
        have HS8 := Lib.hid (And.intro (HS7.out.1.trans hw8) (HS7.out.2.1.next hw8 hd8))
        clear C hw8 hd8 HS7
        go_wp2
        go_roundg (fs.length - (k + 1))
        case measure => have := HG.out; omega
        case rel => exact ⟨k + 1, by omega, rfl, by go_num, HS8.out.1, by have := HS8.out.2; rw [prF_take_next HX.out]; simpa [hkn] using this⟩
    · obtain rfl : k = fs.length := by omega
      have C := Lib.hid (writeByte_any hs.bd (by have := HLEN.out; have := HP.out; simp only [List.length_append, List.length_singleton, List.length_cons, List.length_nil] at *; omega) (c := 125) (ci := 125) rfl)
      have HSA := Lib.hid hw
      clear hw hs
      go_wp2_with fail
      refine C.out.mono ?_
      rintro e w5 ⟨rfl, hw5, hd5⟩
      have HSB := Lib.hid (And.intro (HSA.out.trans hw5) hd5)
      clear C hw5 hd5 HSA
      go_wp2
      go_end0
      exact ⟨rfl, HSB.out.1, by have := HSB.out.2; rw [List.take_length] at this; simpa using this⟩
end Go.Proofs.YtjpmnlefjmdelaaGreatDoor
namespace Go.Proofs.YtjpmnlefjmdelaaGreatDoor
open Go.RowKit Go.Sort Go.Proofs.LawFrame

theorem gPow : ∃ g, Tryz.prog.globalNamed "internal/strconv.uint64pow10" = some g := ⟨0, by kernel_rfl⟩
theorem Tab.below {w w' : World} (h : Tab w) (hb : Below w.heap.size w w') : Tab w' := by
  obtain ⟨g, hg⟩ := gPow
  unfold Tab Lib.TabIs World.var? at h ⊢
  rw [hg] at h ⊢
  simp only [Option.bind_some] at h ⊢
  have hlt : g < w.heap.size := by
    rcases Nat.lt_or_ge g w.heap.size with h' | h'
    · exact h'
    · rw [Array.getElem?_eq_none h'] at h; cases h
  rw [hb.block g hlt]
  exact h
theorem itoa_any (n : Int) (h0 : -9223372036854775808 ≤ n) (h1 : n ≤ 9223372036854775807) (w : World) (ht : Tab w) : Calls Tryz.prog 86 #[.int .i64 n] w fun e w' => e = .returned (sV (Lib.itoa n)) ∧ Below w.heap.size w w' :=
  (Tryz.strconv_Itoa n h0 h1 w ht).mono fun _ _ ⟨he, k, os, hw⟩ => ⟨he, by subst hw; exact ⟨rfl, rfl, rfl, by simp [Sort.grow], fun j hj => by simp [Sort.grow, Array.getElem?_append, hj]⟩⟩
theorem decDigits_pos (n : Nat) : 0 < (Lib.decDigits n).length := by
  rw [Lib.decDigits]
  split <;> simp
theorem itoa_pos (n : Int) : 0 < (Lib.itoa n).length := by
  unfold Lib.itoa
  split
  · simp
  · exact decDigits_pos _
theorem prOkL_mem {l : List T} (h : prOkL l) : ∀ t ∈ l, prOk t := by
  induction l with
  | nil => intro t ht; cases ht
  | cons a r ih =>
    simp only [prOkL] at h
    intro t ht
    rcases List.mem_cons.1 ht with rfl | ht
    · exact h.1
    · exact ih h.2 t ht
theorem prOkF_mem {l : List (Str × T)} (h : prOkF l) : ∀ p ∈ l, p.1.length ≤ 1000 := by
  induction l with
  | nil => intro t ht; cases ht
  | cons a r ih =>
    obtain ⟨x, t⟩ := a
    simp only [prOkF] at h
    intro p hp
    rcases List.mem_cons.1 hp with rfl | hp
    · exact h.1
    · exact ih h.2.2 p hp
theorem prOkF_val {l : List (Str × T)} (h : prOkF l) : ∀ p ∈ l, prOk p.2 := by
  induction l with
  | nil => intro t ht; cases ht
  | cons a r ih =>
    obtain ⟨x, t⟩ := a
    simp only [prOkF] at h
    intro p hp
    rcases List.mem_cons.1 hp with rfl | hp
    · exact h.2.1
    · exact ih h.2.2 p hp
set_option maxHeartbeats 8000000 in
set_option maxRecDepth 4000 in
theorem writeValue_any {w0 : World} {bb : Nat} (ht : Tab w0) : ∀ (N : Nat) (t : T), SizeOf.sizeOf t ≤ N → prOk t → t.size ≤ 1000 → WV w0 bb t := by
  intro N
  induction N with
  | zero => intro t h; cases t; simp at h
  | succ N ih =>
    intro t hN hok hsz c l w hI hs hlen
    obtain ⟨k, n, s, ls, fs⟩ := t
    obtain ⟨hck, hcn, hcs⟩ := hI.same
    have HSZ := Lib.hid (size_lens (M := 1000) hsz)
    have HOK : Hid (s.length ≤ 1000 ∧ (-1000000000000000 ≤ n ∧ n ≤ 1000000000000000) ∧ prOkL ls ∧ prOkF fs) := Lib.hid (by simpa only [prOk] using hok)
    have IHL : Hid (∀ t ∈ ls, WV w0 bb t) := Lib.hid (fun t htm => ih t (by have := List.sizeOf_lt_of_mem htm; simp at hN; omega) (prOkL_mem HOK.out.2.2.1 t htm) (Int.le_trans (size_in_l (k := k) (n := n) (s := s) (f := fs) htm) hsz))
    have IHF : Hid (∀ p ∈ fs, WV w0 bb p.2) := Lib.hid (fun p hp => ih p.2 (by have := List.sizeOf_lt_of_mem hp; obtain ⟨x, t⟩ := p; simp at hN this ⊢; omega) (prOkF_val HOK.out.2.2.2 p hp) (Int.le_trans (size_in_f (k := k) (n := n) (s := s) (l := ls) hp) hsz))
    have HI := Lib.hid hI
    have HT := Lib.hid ht
    have hbA := below_alloc w (.cells #[.int .i64 c.k, .int .i64 c.n, sV c.s, .slice c.la c.ln c.lc, .slice c.fa c.fn c.fc] 25)
    have oN := Own.new w [.int .i64 c.k, .int .i64 c.n, sV c.s, .slice c.la c.ln c.lc, .slice c.fa c.fn c.fc] 25
    have HSA := Lib.hid (And.intro ((Wr.refl bb w).below hs.bd hbA) (And.intro (hs.all hbA) (And.intro oN (off_new hs.bd (Nat.le_refl w.heap.size)))))
    have HCE := Lib.hid (And.intro hck (And.intro hcn hcs))
    clear ih hN hok hsz hI hs hbA oN ht hck hcn hcs
    go_enter Tryz.func48, Tryz.ntmps48
    go_upto_region 1 with (fail)
    change Code.wp Tryz.prog _ _ _ (w.alloc (.cells #[.int .i64 c.k, .int .i64 c.n, sV c.s, .slice c.la c.ln c.lc, .slice c.fa c.fn c.fc] 25))
    generalize w.alloc (.cells #[.int .i64 c.k, .int .i64 c.n, sV c.s, .slice c.la c.ln c.lc, .slice c.fa c.fn c.fc] 25) = V at *
    have k0 := HSA.out.2.2.1.cell (i := 0) rfl
    by_cases h0 : k = 0
    · have e0 : c.k = 0 := by have := HCE.out.1; omega
      have HK := Lib.hid h0
      have HPR : Hid (prV (.mk k n s ls fs) = [110, 117, 108, 108]) := Lib.hid (by simp only [prV];  rw [if_pos HK.out])
      rw [HPR.out] at hlen
      have HLEN := Lib.hid hlen
      clear h0 hlen
      have C := Lib.hid (writeString_any (x := [110, 117, 108, 108]) HSA.out.2.1.bd (by have := HLEN.out; rw [List.length_append] at this; omega) (by simp) (by simp))
      go_wp2_with fail
      refine C.out.mono ?_
      rintro e w7 ⟨rfl, hw7, hd7⟩
      have HS7 := Lib.hid (And.intro (HSA.out.1.trans hw7) hd7)
      clear C hw7 hd7
      go_wp2
      go_end0
      exact ⟨rfl, HS7.out.1, by rw [HPR.out]; exact HS7.out.2⟩
    by_cases h1 : k = 1
    · have e0 : ¬ c.k = 0 := by have := HCE.out.1; omega
      have e0' : (c.k == 0) = false := by rw [beq_eq_false_iff_ne]; exact e0
      have e1 : c.k = 1 := by have := HCE.out.1; omega
      have HK := Lib.hid h1
      have HPR : Hid (prV (.mk k n s ls fs) = boolW (decide (n = 1))) := Lib.hid (by simp only [prV]; rw [if_neg h0]; rw [if_pos HK.out])
      rw [HPR.out] at hlen
      have HLEN := Lib.hid hlen
      clear h1 hlen
      have a1 := HSA.out.2.2.1.cell (i := 1) rfl
      go_wp2_with fail
      refine (formatBool_any (c.n == 1) V).mono ?_
      rintro e w5 ⟨rfl, rfl⟩
      have C := Lib.hid (writeString_any (x := boolW (c.n == 1)) HSA.out.2.1.bd (by have := HLEN.out; rw [List.length_append] at this; omega) (by cases (c.n == 1) <;> simp [boolW]) (by cases (c.n == 1) <;> simp [boolW]))
      go_wp2_with fail
      refine C.out.mono ?_
      rintro e w7 ⟨rfl, hw7, hd7⟩
      have HS7 := Lib.hid (And.intro (HSA.out.1.trans hw7) hd7)
      clear C hw7 hd7
      go_wp2
      go_end0
      exact ⟨rfl, HS7.out.1, by rw [HPR.out, ← HCE.out.2.1]; exact HS7.out.2⟩
    by_cases h2 : k = 2
    · have e0 : ¬ c.k = 0 := by have := HCE.out.1; omega
      have e0' : (c.k == 0) = false := by rw [beq_eq_false_iff_ne]; exact e0
      have e1 : ¬ c.k = 1 := by have := HCE.out.1; omega
      have e1' : (c.k == 1) = false := by rw [beq_eq_false_iff_ne]; exact e1
      have e2 : c.k = 2 := by have := HCE.out.1; omega
      have HK := Lib.hid h2
      have HPR : Hid (prV (.mk k n s ls fs) = Lib.itoa n) := Lib.hid (by simp only [prV]; rw [if_neg h0]; rw [if_neg h1]; rw [if_pos HK.out])
      rw [HPR.out] at hlen
      have HLEN := Lib.hid hlen
      clear h2 hlen
      have a1 := HSA.out.2.2.1.cell (i := 1) rfl
      have hrg := HOK.out.2.1
      rw [← HCE.out.2.1] at hrg
      go_wp2_with fail
      refine (itoa_any c.n (by omega) (by omega) V (HT.out.below HSA.out.2.1.low)).mono ?_
      rintro e w5 ⟨rfl, hb5⟩
      have HSB := Lib.hid (And.intro (HSA.out.1.below HSA.out.2.1.bd hb5) (HSA.out.2.1.all hb5))
      clear a1 hb5
      have C := Lib.hid (writeString_any (x := Lib.itoa c.n) HSB.out.2.bd (by have := HLEN.out; rw [List.length_append] at this; omega) (by have := Lib.itoa_length_le c.n (by omega) (by omega); omega) (itoa_pos c.n))
      go_wp2_with fail
      refine C.out.mono ?_
      rintro e w7 ⟨rfl, hw7, hd7⟩
      have HS7 := Lib.hid (And.intro (HSB.out.1.trans hw7) hd7)
      clear C hw7 hd7
      go_wp2
      go_end0
      exact ⟨rfl, HS7.out.1, by rw [HPR.out, ← HCE.out.2.1]; exact HS7.out.2⟩
    by_cases h3 : k = 3
    · have e0 : ¬ c.k = 0 := by have := HCE.out.1; omega
      have e0' : (c.k == 0) = false := by rw [beq_eq_false_iff_ne]; exact e0
      have e1 : ¬ c.k = 1 := by have := HCE.out.1; omega
      have e1' : (c.k == 1) = false := by rw [beq_eq_false_iff_ne]; exact e1
      have e2 : ¬ c.k = 2 := by have := HCE.out.1; omega
      have e2' : (c.k == 2) = false := by rw [beq_eq_false_iff_ne]; exact e2
      have e3 : c.k = 3 := by have := HCE.out.1; omega
      have HK := Lib.hid h3
      have HPR : Hid (prV (.mk k n s ls fs) = quoteR s) := Lib.hid (by simp only [prV]; rw [if_neg h0]; rw [if_neg h1]; rw [if_neg h2]; rw [if_pos HK.out])
      rw [HPR.out] at hlen
      have HLEN := Lib.hid hlen
      clear h3 hlen
      have a2 := HSA.out.2.2.1.cell (i := 2) rfl
      have C := Lib.hid (jwriteString_any HSA.out.2.1.bd (by have := HLEN.out; rw [List.length_append] at this; omega) c.s (by have := HOK.out.1; rw [HCE.out.2.2]; omega))
      go_wp2_with fail
      refine C.out.mono ?_
      rintro e w7 ⟨rfl, hw7, hd7⟩
      have HS7 := Lib.hid (And.intro (HSA.out.1.trans hw7) hd7)
      clear C hw7 hd7
      go_wp2
      go_end0
      exact ⟨rfl, HS7.out.1, by rw [HPR.out, ← HCE.out.2.2]; exact HS7.out.2⟩
    by_cases h4 : k = 4
    · have e0 : ¬ c.k = 0 := by have := HCE.out.1; omega
      have e0' : (c.k == 0) = false := by rw [beq_eq_false_iff_ne]; exact e0
      have e1 : ¬ c.k = 1 := by have := HCE.out.1; omega
      have e1' : (c.k == 1) = false := by rw [beq_eq_false_iff_ne]; exact e1
      have e2 : ¬ c.k = 2 := by have := HCE.out.1; omega
      have e2' : (c.k == 2) = false := by rw [beq_eq_false_iff_ne]; exact e2
      have e3 : ¬ c.k = 3 := by have := HCE.out.1; omega
      have e3' : (c.k == 3) = false := by rw [beq_eq_false_iff_ne]; exact e3
      have e4 : c.k = 4 := by have := HCE.out.1; omega
      have HK := Lib.hid h4
      have HPR : Hid (prV (.mk k n s ls fs) = [91] ++ prL true ls ++ [93]) := Lib.hid (by simp only [prV]; rw [if_neg h0]; rw [if_neg h1]; rw [if_neg h2]; rw [if_neg h3]; rw [if_pos HK.out])
      rw [HPR.out] at hlen
      have HLEN := Lib.hid hlen
      clear h4 hlen
      have a3 := HSA.out.2.2.1.cell (i := 3) rfl
      have C := Lib.hid (writeList_of _ ls HI.out.vals IHL.out HSA.out.2.1 (by have := HSZ.out.1; omega) HLEN.out)
      go_wp2_with fail
      refine C.out.mono ?_
      rintro e w7 ⟨rfl, hw7, hd7⟩
      have HS7 := Lib.hid (And.intro (HSA.out.1.trans hw7) hd7)
      clear C hw7 hd7
      go_wp2
      go_end0
      exact ⟨rfl, HS7.out.1, by rw [HPR.out]; exact HS7.out.2⟩
    by_cases h5 : k = 5
    · have e0 : ¬ c.k = 0 := by have := HCE.out.1; omega
      have e0' : (c.k == 0) = false := by rw [beq_eq_false_iff_ne]; exact e0
      have e1 : ¬ c.k = 1 := by have := HCE.out.1; omega
      have e1' : (c.k == 1) = false := by rw [beq_eq_false_iff_ne]; exact e1
      have e2 : ¬ c.k = 2 := by have := HCE.out.1; omega
      have e2' : (c.k == 2) = false := by rw [beq_eq_false_iff_ne]; exact e2
      have e3 : ¬ c.k = 3 := by have := HCE.out.1; omega
      have e3' : (c.k == 3) = false := by rw [beq_eq_false_iff_ne]; exact e3
      have e4 : ¬ c.k = 4 := by have := HCE.out.1; omega
      have e4' : (c.k == 4) = false := by rw [beq_eq_false_iff_ne]; exact e4
      have e5 : c.k = 5 := by have := HCE.out.1; omega
      have HK := Lib.hid h5
      have HPR : Hid (prV (.mk k n s ls fs) = [123] ++ prF true fs ++ [125]) := Lib.hid (by simp only [prV]; rw [if_neg h0]; rw [if_neg h1]; rw [if_neg h2]; rw [if_neg h3]; rw [if_neg h4]; rw [if_pos HK.out])
      rw [HPR.out] at hlen
      have HLEN := Lib.hid hlen
      clear h5 hlen
      have a4 := HSA.out.2.2.1.cell (i := 4) rfl
      have C := Lib.hid (writeMap_of _ fs HI.out.flds IHF.out (prOkF_mem HOK.out.2.2.2) HSA.out.2.1 (by have := HSZ.out.2; omega) HLEN.out)
      go_wp2_with fail
      refine C.out.mono ?_
      rintro e w7 ⟨rfl, hw7, hd7⟩
      have HS7 := Lib.hid (And.intro (HSA.out.1.trans hw7) hd7)
      clear C hw7 hd7
      go_wp2
      go_end0
      exact ⟨rfl, HS7.out.1, by rw [HPR.out]; exact HS7.out.2⟩
    have e0 : ¬ c.k = 0 := by have := HCE.out.1; omega
    have e0' : (c.k == 0) = false := by rw [beq_eq_false_iff_ne]; exact e0
    have e1 : ¬ c.k = 1 := by have := HCE.out.1; omega
    have e1' : (c.k == 1) = false := by rw [beq_eq_false_iff_ne]; exact e1
    have e2 : ¬ c.k = 2 := by have := HCE.out.1; omega
    have e2' : (c.k == 2) = false := by rw [beq_eq_false_iff_ne]; exact e2
    have e3 : ¬ c.k = 3 := by have := HCE.out.1; omega
    have e3' : (c.k == 3) = false := by rw [beq_eq_false_iff_ne]; exact e3
    have e4 : ¬ c.k = 4 := by have := HCE.out.1; omega
    have e4' : (c.k == 4) = false := by rw [beq_eq_false_iff_ne]; exact e4
    have e5 : ¬ c.k = 5 := by have := HCE.out.1; omega
    have e5' : (c.k == 5) = false := by rw [beq_eq_false_iff_ne]; exact e5
    have HPR : Hid (prV (.mk k n s ls fs) = []) := Lib.hid (by simp only [prV]; rw [if_neg h0, if_neg h1, if_neg h2, if_neg h3, if_neg h4, if_neg h5])
    go_wp2
    go_end0
    exact ⟨rfl, HSA.out.1, by rw [HPR.out, List.append_nil]; exact HSA.out.2.1.bd⟩
end Go.Proofs.YtjpmnlefjmdelaaGreatDoor
