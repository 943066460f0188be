/- Contracts of copyList and copyFields, out of that of copyValue. The contract of slices.Clone at fields. Contracts of cmp.Compare, strings.Compare and order. The contract of the insertion sort of fields. -/
import Derived.Test.YtinenbgdkchghaaPmJ
import Derived.Test.YtinenbgdkchghaaWaJ
import Derived.Test.YtinenbgdkchghaaFrJ
import Derived.Test.YtinenbgdkchghaaPa
import Derived.Lib.SliceRun
import Derived.BigRegion
set_option linter.unusedSimpArgs false
set_option linter.unusedVariables false
namespace Go.Proofs.Ytinenbgdkchghaa
open Go.RowKit Go.Sort Go.Proofs.LawFrame

theorem info25 : (Try.prog.info? 25).map (fun i => (i.zero, i.size, i.bytes)) = some (some (.agg #[.int .i64 0, .int .i64 0, .string ⟨#[]⟩, .slice none 0 0, .slice none 0 0]), 5, 80) := by kernel_rfl
theorem info35 : (Try.prog.info? 33).map (fun i => (i.zero, i.size, i.bytes)) = some (some (.agg #[.string ⟨#[]⟩, .int .i64 0, .int .i64 0, .string ⟨#[]⟩, .slice none 0 0, .slice none 0 0]), 6, 96) := by kernel_rfl

set_option maxHeartbeats 2000000 in
theorem copyList_of (l : List T) (H : ∀ (i : Nat) (x : T), l[i]? = some x → ∀ (c : VC) (w : World), Is w c x →
      Calls Try.prog 53 #[c.val] w fun e w' => ∃ c' : VC, e = .returned c'.val ∧ Below w.heap.size w w' ∧ IsA w' (fun b => w.heap.size ≤ b) c' x)
    (v : Value) (w : World) (hv : Vals w v l) (hn : l.length ≤ 4000) :
    Calls Try.prog 47 #[v] w fun e w' => ∃ v', e = .returned v' ∧ Below w.heap.size w w' ∧ NewL w w' v' l := by
  obtain ⟨ao, cap, rfl, hlc, hlm⟩ := hv.form
  unfold maxLen at hlm
  by_cases h0 : l.length = 0
  · have HE : Hid (l = []) := Lib.hid (by simpa using h0)
    have hz : ((l.length : Int) == 0) = true := by rw [h0]; rfl
    clear h0 H
    go_enter Try.func47, Try.ntmps47
    go_wp2
    go_ret
    exact ⟨_, rfl, Below.refl _ _, ⟨Or.inl ⟨HE.out, rfl⟩⟩⟩
  · have hz : ((l.length : Int) == 0) = false := by rw [beq_eq_false_iff_ne]; omega
    obtain ⟨i0, hi0, hz0, hs0, hb0⟩ : ∃ i, Try.prog.info? 25 = some i ∧ i.zero = some (.agg #[.int .i64 0, .int .i64 0, .string ⟨#[]⟩, .slice none 0 0, .slice none 0 0]) ∧ i.size = 5 ∧ i.bytes = 80 := by
      have := info25
      cases h : Try.prog.info? 25 with
      | none => rw [h] at this; simp at this
      | some i => rw [h] at this; simp at this; exact ⟨i, rfl, this.1, this.2.1, this.2.2⟩
    have hmk : ∀ w : World, (Instr.makeSlice 22 (.int .i64 (l.length : Int)) (.int .i64 (l.length : Int))).run Try.prog w = .ok (.slice (some ⟨w.heap.size, 0, none⟩) l.length l.length) (w.alloc (.cells ((List.replicate l.length VC0).flatMap VC.cells).toArray 25)) := fun w => by
      have := run_make (P := Try.prog) w 22 25 i0 (.agg #[.int .i64 0, .int .i64 0, .string ⟨#[]⟩, .slice none 0 0, .slice none 0 0]) Try.underlying22 hi0 hz0 .i64 .i64 (l.length : Int) (l.length : Int) (by omega) (Int.le_refl _) (by rw [hb0]; omega) (by omega)
      rw [this, hs0]
      have e := made_row VC.cells (m := 5) (fun _ => rfl) VC0 (Value.cells (.agg #[.int .i64 0, .int .i64 0, .string ⟨#[]⟩, .slice none 0 0, .slice none 0 0])) rfl l.length
      simp only [Int.toNat_natCast]
      rw [← e]
    go_enter Try.func47, Try.ntmps47
    go_wp2
    have o0 : Own (w.alloc (.cells ((List.replicate l.length VC0).flatMap VC.cells).toArray 25)) w.heap.size ((List.replicate l.length VC0).flatMap VC.cells) 25 := Own.new _ _ _
    have hw0 : Below w.heap.size w (w.alloc (.cells ((List.replicate l.length VC0).flatMap VC.cells).toArray 25)) := (Below.refl _ _).alloc (Nat.le_refl _) _
    generalize w.alloc (.cells ((List.replicate l.length VC0).flatMap VC.cells).toArray 25) = W at *
    have R0 := Lib.hid (And.intro hw0 o0)
    clear hw0 o0 hmk
    go_loopg [14] l.length (fun g i wr => ∃ (k : Nat) (cs : List VC), k ≤ l.length ∧ g = l.length - k ∧ i = .int .i64 k ∧ cs.length = l.length ∧ Below w.heap.size w wr ∧ Own wr w.heap.size (cs.flatMap VC.cells) 25 ∧ Hid (∀ (i : Nat) (x : VC) (t : T), i < k → cs[i]? = some x → l[i]? = some t → IsA wr (fun b => w.heap.size < b) x t))
    case atStart =>
      obtain ⟨hw0, o0⟩ := R0.out
      exact ⟨0, List.replicate l.length VC0, Nat.zero_le _, rfl, rfl, by simp, hw0, o0, Lib.hid (fun i x t h => absurd h (by omega))⟩
    case round =>
      obtain ⟨k, cs, hk, hg, rfl, hcs, hb, o0, HA⟩ := hrel
      have HG := Lib.hid hg
      clear hg R0
      by_cases hlt : k < l.length
      · have hx := List.getElem?_eq_getElem hlt
        generalize l[k] = x at hx
        obtain ⟨b, off, c, rfl, hbl, hI, q0, q1, q2, q3, q4⟩ := hv.at hb hx
        have hbb := hb.alloc hb.size (.cells #[.int .i64 c.k, .int .i64 c.n, sV c.s, .slice c.la c.ln c.lc, .slice c.fa c.fn c.fc] 25)
        have oo := o0.alloc (.cells #[.int .i64 c.k, .int .i64 c.n, sV c.s, .slice c.la c.ln c.lc, .slice c.fa c.fn c.fc] 25)
        have hII := hI.all ((Below.refl wr.heap.size wr).alloc (Nat.le_refl _) (.cells #[.int .i64 c.k, .int .i64 c.n, sV c.s, .slice c.la c.ln c.lc, .slice c.fa c.fn c.fc] 25))
        have hbx := (Below.refl wr.heap.size wr).alloc (Nat.le_refl _) (.cells #[.int .i64 c.k, .int .i64 c.n, sV c.s, .slice c.la c.ln c.lc, .slice c.fa c.fn c.fc] 25)
        have hwl := o0.lt
        have IH := Lib.hid (H k x hx)
        have HX := Lib.hid hx
        clear hI hb o0 hx H
        have IC := Lib.hid (IH.out c _ hII)
        go_wp2_with fail
        refine IC.out.mono ?_
        rintro e w2 ⟨c', rfl, hb2, hN⟩
        have HN := Lib.hid hN
        clear hN hII IH IC q0 q1 q2 q3 q4
        have o2 := oo.all hb2
        have hbe := below_all hbb hb2
        have hbxe := below_all hbx hb2
        clear oo hb2 hbb hbx
        obtain ⟨z0, e0⟩ : ∃ z, w2.cell? ⟨w.heap.size, k * 5, none⟩ = some z := ⟨_, o2.cell (List.getElem?_eq_getElem (by rw [flat_length VC.cells (m := 5) (fun _ => rfl), hcs]; omega))⟩
        have f0 := o2.frozen (k * 5)
        obtain ⟨z1, e1⟩ : ∃ z, w2.cell? ⟨w.heap.size, k * 5 + 1, none⟩ = some z := ⟨_, o2.cell (List.getElem?_eq_getElem (by rw [flat_length VC.cells (m := 5) (fun _ => rfl), hcs]; omega))⟩
        have f1 := o2.frozen (k * 5 + 1)
        obtain ⟨z2, e2⟩ : ∃ z, w2.cell? ⟨w.heap.size, k * 5 + 2, none⟩ = some z := ⟨_, o2.cell (List.getElem?_eq_getElem (by rw [flat_length VC.cells (m := 5) (fun _ => rfl), hcs]; omega))⟩
        have f2 := o2.frozen (k * 5 + 2)
        obtain ⟨z3, e3⟩ : ∃ z, w2.cell? ⟨w.heap.size, k * 5 + 3, none⟩ = some z := ⟨_, o2.cell (List.getElem?_eq_getElem (by rw [flat_length VC.cells (m := 5) (fun _ => rfl), hcs]; omega))⟩
        have f3 := o2.frozen (k * 5 + 3)
        obtain ⟨z4, e4⟩ : ∃ z, w2.cell? ⟨w.heap.size, k * 5 + 4, none⟩ = some z := ⟨_, o2.cell (List.getElem?_eq_getElem (by rw [flat_length VC.cells (m := 5) (fun _ => rfl), hcs]; omega))⟩
        have f4 := o2.frozen (k * 5 + 4)
        have HO := Lib.hid o2
        have HBE := Lib.hid (And.intro hbe hbxe)
        clear o2 hbe hbxe
        go_wp2
        have os := Own.setV HO.out (k := k) (by omega) c'
        have hlt2 : w.heap.size < wr.heap.size := hwl
        go_roundg (l.length - (k + 1))
        case measure => have := HG.out; omega
        case rel =>
          refine ⟨k + 1, cs.set k c', by omega, rfl, by go_num, by rw [List.length_set]; exact hcs, ?_, os, Lib.hid ?_⟩
          · exact below_set (below_set (below_set (below_set (below_set HBE.out.1 (Nat.le_refl _) _) (Nat.le_refl _) _) (Nat.le_refl _) _) (Nat.le_refl _) _) (Nat.le_refl _) _
          · intro i y t hi hy ht
            have hset : ∀ {y : VC} {t : T}, IsA w2 (fun b => w.heap.size < b) y t → IsA (((((w2.setCell ⟨w.heap.size, k * 5, none⟩ (.int .i64 c'.k)).setCell ⟨w.heap.size, k * 5 + 1, none⟩ (.int .i64 c'.n)).setCell ⟨w.heap.size, k * 5 + 2, none⟩ (sV c'.s)).setCell ⟨w.heap.size, k * 5 + 3, none⟩ (.slice c'.la c'.ln c'.lc)).setCell ⟨w.heap.size, k * 5 + 4, none⟩ (.slice c'.fa c'.fn c'.fc)) (fun b => w.heap.size < b) y t := fun h => ((((h.set (by omega) _ _).set (by omega) _ _).set (by omega) _ _).set (by omega) _ _).set (by omega) _ _
            apply hset
            by_cases hik : i = k
            · subst hik
              rw [HX.out] at ht; cases ht
              rw [List.getElem?_set_self (by omega)] at hy; cases hy
              exact HN.out.mono (fun b hb => by rw [size_alloc] at hb; omega)
            · rw [List.getElem?_set_ne (fun h => hik h.symm)] at hy
              exact (HA.out i y t (by omega) hy ht).all HBE.out.2
      · obtain rfl : k = l.length := by omega
        go_wp2
        go_ret
        exact ⟨_, rfl, hb, ⟨Or.inr ⟨w.heap.size, cs, rfl, by unfold maxLen; omega, Nat.le_refl _, hcs, o0, fun i x t hx ht => HA.out i x t (by have := (List.getElem?_eq_some_iff.1 ht).1; omega) hx ht⟩⟩⟩
end Go.Proofs.Ytinenbgdkchghaa
namespace Go.Proofs.Ytinenbgdkchghaa
open Go.RowKit Go.Sort Go.Proofs.LawFrame

theorem fc_one (cs : List FC) : ∀ v ∈ cs.flatMap FC.cells, v.oneCell' = true := by
  intro v hv
  rw [List.mem_flatMap] at hv
  obtain ⟨c, -, hc⟩ := hv
  simp at hc
  rcases hc with rfl | rfl | rfl | rfl | rfl | rfl <;> rfl
end Go.Proofs.Ytinenbgdkchghaa
namespace Go.Proofs.Ytinenbgdkchghaa
open Go.RowKit Go.Sort Go.Proofs.LawFrame

set_option maxHeartbeats 400000 in
theorem order_any (a b : Bool) (w : World) : Calls Try.prog 51 #[.bool a, .bool b] w fun e w' => e = .returned (.int .i64 (if a then -1 else if b then 1 else 0)) ∧ w = w' := by
  cases a <;> cases b <;>
  · go_enter Try.func51, Try.ntmps51
    go_wp2
    go_ret
    exact ⟨rfl, rfl⟩
set_option maxHeartbeats 1000000 in
set_option maxRecDepth 100000 in
theorem compareString_any (a b : Str) (w : World) : Calls Try.prog 54 #[sV a, sV b] w fun e w' => e = .returned (.int .i64 (cmpS a b)) ∧ w = w' := by
  go_enter Try.func54, Try.ntmps54
  go_wp2
  rw [run_callFunc_extern Try.func60 (by kernel_rfl) (by kernel_rfl) (by kernel_rfl) (e := Extern.BytealgCompare.compare) (by kernel_rfl), Lib.run_compareString]
  simp only [Result.andThen]
  rw [Oper.upon_value]
  go_wp2
  go_ret
  exact ⟨rfl, rfl⟩
set_option maxHeartbeats 400000 in
theorem strCmp_any (a b : Str) (w : World) : Calls Try.prog 48 #[sV a, sV b] w fun e w' => e = .returned (.int .i64 (cmpS a b)) ∧ w = w' := by
  go_enter Try.func48, Try.ntmps48
  go_wp2_with (go_at_call 54; refine (compareString_any _ _ _).mono ?_; rintro e w' ⟨rfl, rfl⟩)
  go_ret
  exact ⟨rfl, rfl⟩
end Go.Proofs.Ytinenbgdkchghaa
namespace Go.Proofs.Ytinenbgdkchghaa
open Go.RowKit Go.Sort Go.Proofs.LawFrame

/-- old memory is left alone, block b apart -/
structure But (b : Nat) (w w' : World) : Prop where
  os : w'.os = w.os
  tape : w'.tape = w.tape
  output : w'.output = w.output
  size : w.heap.size ≤ w'.heap.size
  block : ∀ k, k < w.heap.size → k ≠ b → w'.heap[k]? = w.heap[k]?
theorem But.refl (b : Nat) (w : World) : But b w w := ⟨rfl, rfl, rfl, Nat.le_refl _, fun _ _ _ => rfl⟩
theorem But.all {b : Nat} {w w' w'' : World} (h : But b w w') (hb : Below w'.heap.size w' w'') : But b w w'' :=
  ⟨hb.os.trans h.os, hb.tape.trans h.tape, hb.output.trans h.output, Nat.le_trans h.size hb.size, fun k hk hne => (hb.block k (Nat.lt_of_lt_of_le hk h.size)).trans (h.block k hk hne)⟩
theorem But.trans {b : Nat} {w w' w'' : World} (h : But b w w') (hb : But b w' w'') : But b w w'' :=
  ⟨hb.os.trans h.os, hb.tape.trans h.tape, hb.output.trans h.output, Nat.le_trans h.size hb.size, fun k hk hne => (hb.block k (Nat.lt_of_lt_of_le hk h.size) hne).trans (h.block k hk hne)⟩
theorem But.set {b : Nat} {w w' : World} (h : But b w w') (i : Nat) (v : Value) : But b w (w'.setCell ⟨b, i, none⟩ v) :=
  ⟨h.os, h.tape, h.output, Nat.le_trans h.size (Nat.le_of_eq (by unfold World.setCell; simp)), fun k hk hne => (Below.heap_setCell _ _ _ _ hne).trans (h.block k hk hne)⟩
theorem But.drew {b : Nat} {w w' : World} (h : But b w w') : But b w w'.drew := ⟨h.os, h.tape, h.output, h.size, h.block⟩
theorem But.below {b B : Nat} {a w w' : World} (h : But b w w') (ha : Below B a w) (hB : B ≤ b) (hw : B ≤ w.heap.size) : Below B a w' :=
  ⟨h.os.trans ha.os, h.tape.trans ha.tape, h.output.trans ha.output, Nat.le_trans ha.size h.size, fun k hk => (h.block k (by omega) (by omega)).trans (ha.block k hk)⟩

/- the sort, as it goes -/
def ltF (x y : FC) : Bool := decide (cmpS x.x y.x < 0)
def swp (l : List FC) (j : Nat) : List FC := (l.set j (l.getD (j - 1) FC0)).set (j - 1) (l.getD j FC0)
def sink (a : Nat) : Nat → List FC → List FC
  | 0, l => l
  | j + 1, l => if a < j + 1 ∧ ltF (l.getD (j + 1) FC0) (l.getD j FC0) = true then sink a j (swp l (j + 1)) else l
def isort (a : Nat) : Nat → Nat → List FC → List FC
  | _, 0, l => l
  | i, n + 1, l => isort a (i + 1) n (sink a i l)
theorem sink_stop {a j : Nat} {l : List FC} (h : ¬ (a < j ∧ ltF (l.getD j FC0) (l.getD (j - 1) FC0) = true)) : sink a j l = l := by
  cases j with
  | zero => rfl
  | succ j => rw [sink, if_neg (by simpa using h)]
theorem sink_go {a j : Nat} {l : List FC} (h1 : a < j) (h2 : ltF (l.getD j FC0) (l.getD (j - 1) FC0) = true) : sink a j l = sink a (j - 1) (swp l j) := by
  cases j with
  | zero => omega
  | succ j => rw [sink, if_pos ⟨h1, by simpa using h2⟩]; rfl
theorem swp_length (l : List FC) (j : Nat) : (swp l j).length = l.length := by unfold swp; simp

end Go.Proofs.Ytinenbgdkchghaa
