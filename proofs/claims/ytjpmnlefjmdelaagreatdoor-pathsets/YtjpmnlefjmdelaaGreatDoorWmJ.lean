/- Contracts of copyList and copyFields, out of that of copyValue. The contract of slices.Clone at fields. Contracts of cmp.Compare, strings.Compare and order. The contract of the insertion sort of fields. -/
import Derived.Test.YtjpmnlefjmdelaaGreatDoorPmJ
import Derived.Test.YtjpmnlefjmdelaaGreatDoorWaJ
import Derived.Test.YtjpmnlefjmdelaaGreatDoorFrJ
import Derived.Test.YtjpmnlefjmdelaaGreatDoorPa
import Derived.Lib.SliceRun
import Derived.BigRegion
set_option linter.unusedSimpArgs false
set_option linter.unusedVariables false
namespace Go.Proofs.YtjpmnlefjmdelaaGreatDoor
open Go.RowKit Go.Sort Go.Proofs.LawFrame

theorem info25 : (Tryz.prog.info? 25).map (fun i => (i.zero, i.size, i.bytes)) = some (some (.agg #[.int .i64 0, .int .i64 0, .string ⟨#[]⟩, .slice none 0 0, .slice none 0 0]), 5, 80) := by kernel_rfl
theorem info35 : (Tryz.prog.info? 58).map (fun i => (i.zero, i.size, i.bytes)) = some (some (.agg #[.string ⟨#[]⟩, .int .i64 0, .int .i64 0, .string ⟨#[]⟩, .slice none 0 0, .slice none 0 0]), 6, 96) := by kernel_rfl

set_option maxHeartbeats 2000000 in
theorem copyList_of (l : List T) (H : ∀ (i : Nat) (x : T), l[i]? = some x → ∀ (c : VC) (w : World), Is w c x →
      Calls Tryz.prog 180 #[c.val] w fun e w' => ∃ c' : VC, e = .returned c'.val ∧ Below w.heap.size w w' ∧ IsA w' (fun b => w.heap.size ≤ b) c' x)
    (v : Value) (w : World) (hv : Vals w v l) (hn : l.length ≤ 4000) :
    Calls Tryz.prog 154 #[v] w fun e w' => ∃ v', e = .returned v' ∧ Below w.heap.size w w' ∧ NewL w w' v' l := by
  obtain ⟨ao, cap, rfl, hlc, hlm⟩ := hv.form
  unfold maxLen at hlm
  by_cases h0 : l.length = 0
  · have HE : Hid (l = []) := Lib.hid (by simpa using h0)
    have hz : ((l.length : Int) == 0) = true := by rw [h0]; rfl
    clear h0 H
    go_enter Tryz.func154, Tryz.ntmps154
    go_wp2
    go_ret
    exact ⟨_, rfl, Below.refl _ _, ⟨Or.inl ⟨HE.out, rfl⟩⟩⟩
  · have hz : ((l.length : Int) == 0) = false := by rw [beq_eq_false_iff_ne]; omega
    obtain ⟨i0, hi0, hz0, hs0, hb0⟩ : ∃ i, Tryz.prog.info? 25 = some i ∧ i.zero = some (.agg #[.int .i64 0, .int .i64 0, .string ⟨#[]⟩, .slice none 0 0, .slice none 0 0]) ∧ i.size = 5 ∧ i.bytes = 80 := by
      have := info25
      cases h : Tryz.prog.info? 25 with
      | none => rw [h] at this; simp at this
      | some i => rw [h] at this; simp at this; exact ⟨i, rfl, this.1, this.2.1, this.2.2⟩
    have hmk : ∀ w : World, (Instr.makeSlice 22 (.int .i64 (l.length : Int)) (.int .i64 (l.length : Int))).run Tryz.prog w = .ok (.slice (some ⟨w.heap.size, 0, none⟩) l.length l.length) (w.alloc (.cells ((List.replicate l.length VC0).flatMap VC.cells).toArray 25)) := fun w => by
      have := run_make (P := Tryz.prog) w 22 25 i0 (.agg #[.int .i64 0, .int .i64 0, .string ⟨#[]⟩, .slice none 0 0, .slice none 0 0]) Tryz.underlying22 hi0 hz0 .i64 .i64 (l.length : Int) (l.length : Int) (by omega) (Int.le_refl _) (by rw [hb0]; omega) (by omega)
      rw [this, hs0]
      have e := made_row VC.cells (m := 5) (fun _ => rfl) VC0 (Value.cells (.agg #[.int .i64 0, .int .i64 0, .string ⟨#[]⟩, .slice none 0 0, .slice none 0 0])) rfl l.length
      simp only [Int.toNat_natCast]
      rw [← e]
    go_enter Tryz.func154, Tryz.ntmps154
    go_wp2
    have o0 : Own (w.alloc (.cells ((List.replicate l.length VC0).flatMap VC.cells).toArray 25)) w.heap.size ((List.replicate l.length VC0).flatMap VC.cells) 25 := Own.new _ _ _
    have hw0 : Below w.heap.size w (w.alloc (.cells ((List.replicate l.length VC0).flatMap VC.cells).toArray 25)) := (Below.refl _ _).alloc (Nat.le_refl _) _
    generalize w.alloc (.cells ((List.replicate l.length VC0).flatMap VC.cells).toArray 25) = W at *
    have R0 := Lib.hid (And.intro hw0 o0)
    clear hw0 o0 hmk
    go_loopg [14] l.length (fun g i wr => ∃ (k : Nat) (cs : List VC), k ≤ l.length ∧ g = l.length - k ∧ i = .int .i64 k ∧ cs.length = l.length ∧ Below w.heap.size w wr ∧ Own wr w.heap.size (cs.flatMap VC.cells) 25 ∧ Hid (∀ (i : Nat) (x : VC) (t : T), i < k → cs[i]? = some x → l[i]? = some t → IsA wr (fun b => w.heap.size < b) x t))
    case atStart =>
      obtain ⟨hw0, o0⟩ := R0.out
      exact ⟨0, List.replicate l.length VC0, Nat.zero_le _, rfl, rfl, by simp, hw0, o0, Lib.hid (fun i x t h => absurd h (by omega))⟩
    case round =>
      obtain ⟨k, cs, hk, hg, rfl, hcs, hb, o0, HA⟩ := hrel
      have HG := Lib.hid hg
      clear hg R0
      by_cases hlt : k < l.length
      · have hx := List.getElem?_eq_getElem hlt
        generalize l[k] = x at hx
        obtain ⟨b, off, c, rfl, hbl, hI, q0, q1, q2, q3, q4⟩ := hv.at hb hx
        have hbb := hb.alloc hb.size (.cells #[.int .i64 c.k, .int .i64 c.n, sV c.s, .slice c.la c.ln c.lc, .slice c.fa c.fn c.fc] 25)
        have oo := o0.alloc (.cells #[.int .i64 c.k, .int .i64 c.n, sV c.s, .slice c.la c.ln c.lc, .slice c.fa c.fn c.fc] 25)
        have hII := hI.all ((Below.refl wr.heap.size wr).alloc (Nat.le_refl _) (.cells #[.int .i64 c.k, .int .i64 c.n, sV c.s, .slice c.la c.ln c.lc, .slice c.fa c.fn c.fc] 25))
        have hbx := (Below.refl wr.heap.size wr).alloc (Nat.le_refl _) (.cells #[.int .i64 c.k, .int .i64 c.n, sV c.s, .slice c.la c.ln c.lc, .slice c.fa c.fn c.fc] 25)
        have hwl := o0.lt
        have IH := Lib.hid (H k x hx)
        have HX := Lib.hid hx
        clear hI hb o0 hx H
        have IC := Lib.hid (IH.out c _ hII)
        go_wp2_with fail
        refine IC.out.mono ?_
        rintro e w2 ⟨c', rfl, hb2, hN⟩
        have HN := Lib.hid hN
        clear hN hII IH IC q0 q1 q2 q3 q4
        have o2 := oo.all hb2
        have hbe := below_all hbb hb2
        have hbxe := below_all hbx hb2
        clear oo hb2 hbb hbx
        obtain ⟨z0, e0⟩ : ∃ z, w2.cell? ⟨w.heap.size, k * 5, none⟩ = some z := ⟨_, o2.cell (List.getElem?_eq_getElem (by rw [flat_length VC.cells (m := 5) (fun _ => rfl), hcs]; omega))⟩
        have f0 := o2.frozen (k * 5)
        obtain ⟨z1, e1⟩ : ∃ z, w2.cell? ⟨w.heap.size, k * 5 + 1, none⟩ = some z := ⟨_, o2.cell (List.getElem?_eq_getElem (by rw [flat_length VC.cells (m := 5) (fun _ => rfl), hcs]; omega))⟩
        have f1 := o2.frozen (k * 5 + 1)
        obtain ⟨z2, e2⟩ : ∃ z, w2.cell? ⟨w.heap.size, k * 5 + 2, none⟩ = some z := ⟨_, o2.cell (List.getElem?_eq_getElem (by rw [flat_length VC.cells (m := 5) (fun _ => rfl), hcs]; omega))⟩
        have f2 := o2.frozen (k * 5 + 2)
        obtain ⟨z3, e3⟩ : ∃ z, w2.cell? ⟨w.heap.size, k * 5 + 3, none⟩ = some z := ⟨_, o2.cell (List.getElem?_eq_getElem (by rw [flat_length VC.cells (m := 5) (fun _ => rfl), hcs]; omega))⟩
        have f3 := o2.frozen (k * 5 + 3)
        obtain ⟨z4, e4⟩ : ∃ z, w2.cell? ⟨w.heap.size, k * 5 + 4, none⟩ = some z := ⟨_, o2.cell (List.getElem?_eq_getElem (by rw [flat_length VC.cells (m := 5) (fun _ => rfl), hcs]; omega))⟩
        have f4 := o2.frozen (k * 5 + 4)
        have HO := Lib.hid o2
        have HBE := Lib.hid (And.intro hbe hbxe)
        clear o2 hbe hbxe
        go_wp2
        have os := Own.setV HO.out (k := k) (by omega) c'
        have hlt2 : w.heap.size < wr.heap.size := hwl
        go_roundg (l.length - (k + 1))
        case measure => have := HG.out; omega
        case rel =>
          refine ⟨k + 1, cs.set k c', by omega, rfl, by go_num, by rw [List.length_set]; exact hcs, ?_, os, Lib.hid ?_⟩
          · exact below_set (below_set (below_set (below_set (below_set HBE.out.1 (Nat.le_refl _) _) (Nat.le_refl _) _) (Nat.le_refl _) _) (Nat.le_refl _) _) (Nat.le_refl _) _
          · intro i y t hi hy ht
            have hset : ∀ {y : VC} {t : T}, IsA w2 (fun b => w.heap.size < b) y t → IsA (((((w2.setCell ⟨w.heap.size, k * 5, none⟩ (.int .i64 c'.k)).setCell ⟨w.heap.size, k * 5 + 1, none⟩ (.int .i64 c'.n)).setCell ⟨w.heap.size, k * 5 + 2, none⟩ (sV c'.s)).setCell ⟨w.heap.size, k * 5 + 3, none⟩ (.slice c'.la c'.ln c'.lc)).setCell ⟨w.heap.size, k * 5 + 4, none⟩ (.slice c'.fa c'.fn c'.fc)) (fun b => w.heap.size < b) y t := fun h => ((((h.set (by omega) _ _).set (by omega) _ _).set (by omega) _ _).set (by omega) _ _).set (by omega) _ _
            apply hset
            by_cases hik : i = k
            · subst hik
              rw [HX.out] at ht; cases ht
              rw [List.getElem?_set_self (by omega)] at hy; cases hy
              exact HN.out.mono (fun b hb => by rw [size_alloc] at hb; omega)
            · rw [List.getElem?_set_ne (fun h => hik h.symm)] at hy
              exact (HA.out i y t (by omega) hy ht).all HBE.out.2
      · obtain rfl : k = l.length := by omega
        go_wp2
        go_ret
        exact ⟨_, rfl, hb, ⟨Or.inr ⟨w.heap.size, cs, rfl, by unfold maxLen; omega, Nat.le_refl _, hcs, o0, fun i x t hx ht => HA.out i x t (by have := (List.getElem?_eq_some_iff.1 ht).1; omega) hx ht⟩⟩⟩
end Go.Proofs.YtjpmnlefjmdelaaGreatDoor
namespace Go.Proofs.YtjpmnlefjmdelaaGreatDoor
open Go.RowKit Go.Sort Go.Proofs.LawFrame

theorem fc_one (cs : List FC) : ∀ v ∈ cs.flatMap FC.cells, v.oneCell' = true := by
  intro v hv
  rw [List.mem_flatMap] at hv
  obtain ⟨c, -, hc⟩ := hv
  simp at hc
  rcases hc with rfl | rfl | rfl | rfl | rfl | rfl <;> rfl
set_option maxHeartbeats 2000000 in
set_option maxRecDepth 4000 in
theorem clone_any (v : Value) (cs : List FC) (w : World) (hv : Flat w v cs.length (cs.flatMap FC.cells)) (hn : cs.length ≤ 4000) :
    Calls Tryz.prog 181 #[v] w fun e w' => ∃ cv, e = .returned cv ∧ w'.ownsRow w.heap.size 58 6 cv cs.length (cs.flatMap FC.cells) ∧ Below w.heap.size w w' := by
  obtain ⟨ao, cap, rfl, hlc, hcap, hr⟩ := hv.out
  unfold maxLen at hcap
  obtain ⟨i35, hi35, hzi35, hsi35, hyi35⟩ := info_parts info35
  have hnil : ∀ (w : World) (a : Option Addr) (n c : Nat), (binOp .eql 23 (.slice a n c) (.slice none 0 0)).run Tryz.prog w = .ok (.bool a.isNone) w := fun w a n c => Lib.run_eql_slice_nil w 23 58 a n c 0 0 Tryz.underlying23
  cases ao with
  | none =>
    have h0 : cs.length = 0 := by
      rcases Nat.eq_zero_or_pos cs.length with h | h
      · exact h
      · obtain ⟨b, off, h2, -⟩ := hr h; cases h2
    have hq : cs = [] := List.eq_nil_of_length_eq_zero h0
    subst hq
    go_enter Tryz.func181, Tryz.ntmps181
    go_wp2
    go_ret
    exact ⟨_, rfl, own_nil _ _ _ _, Below.refl _ _⟩
  | some ad =>
    have hcells : ∀ j u, (cs.flatMap FC.cells)[j]? = some u → w.cell? (ad.add j) = some u := by
      intro j u hu
      have hp : 0 < cs.length := by
        rcases Nat.eq_zero_or_pos cs.length with h | h
        · have hq : cs = [] := List.eq_nil_of_length_eq_zero h
          subst hq; simp at hu
        · exact h
      obtain ⟨b, off, he, -, hc⟩ := hr hp
      cases he
      rw [Addr.add_lit]
      exact hc j u hu
    have hrow : (w.alloc (.cells #[] 58)).ownsRow w.heap.size 58 6 (.slice (some ⟨w.heap.size, 0, none⟩) 0 0) 0 [] := ⟨by simp, Or.inr ⟨w.heap.size, 0, #[], rfl, Nat.le_refl _, Own.new w [] 58, Nat.le_refl _, Nat.zero_le _, by simp, by simp⟩⟩
    have hcells2 : ∀ j u, (cs.flatMap FC.cells)[j]? = some u → (w.alloc (.cells #[] 58)).cell? (ad.add j) = some u := fun j u hu => Lib.cell?_alloc_some _ (hcells j u hu)
    have hfl := flat_length FC.cells (m := 6) (fun _ => rfl) cs
    have hone := fc_one cs
    go_enter Tryz.func181, Tryz.ntmps181
    go_wp2_with (at_builtin; refine wpList_append_own _ rfl (.tmp 5) (.tmp 6) 23 rfl w.heap.size 58 i35 (.agg #[.string ⟨#[]⟩, .int .i64 0, .int .i64 0, .string ⟨#[]⟩, .slice none 0 0, .slice none 0 0]) 6 96 Tryz.underlying23 hi35 hzi35 hsi35 hyi35 rfl (by decide) _ 0 [] rfl hrow ad cs.length cap (cs.flatMap FC.cells) rfl hfl hcells2 hone (by unfold maxLen; omega) (by omega) (by simp) ?_; intro v' w5 hown5 hgrow5 hnil5)
    go_ret
    exact ⟨v', rfl, by simpa using hown5, below_grown (below_alloc _ _) hgrow5 (by simp) (fun k h => by cases h; exact Nat.le_refl _)⟩
end Go.Proofs.YtjpmnlefjmdelaaGreatDoor
namespace Go.Proofs.YtjpmnlefjmdelaaGreatDoor
open Go.RowKit Go.Sort Go.Proofs.LawFrame

set_option maxHeartbeats 1000000 in
set_option maxRecDepth 100000 in
theorem compareString_any (a b : Str) (w : World) : Calls Tryz.prog 201 #[sV a, sV b] w fun e w' => e = .returned (.int .i64 (cmpS a b)) ∧ w = w' := by
  go_enter Tryz.func201, Tryz.ntmps201
  go_wp2
  rw [run_callFunc_extern Tryz.func213 (by kernel_rfl) (by kernel_rfl) (by kernel_rfl) (e := Extern.BytealgCompare.compare) (by kernel_rfl), Lib.run_compareString]
  simp only [Result.andThen]
  rw [Oper.upon_value]
  go_wp2
  go_ret
  exact ⟨rfl, rfl⟩
set_option maxHeartbeats 400000 in
theorem strCmp_any (a b : Str) (w : World) : Calls Tryz.prog 184 #[sV a, sV b] w fun e w' => e = .returned (.int .i64 (cmpS a b)) ∧ w = w' := by
  go_enter Tryz.func184, Tryz.ntmps184
  go_wp2_with (go_at_call 201; refine (compareString_any _ _ _).mono ?_; rintro e w' ⟨rfl, rfl⟩)
  go_ret
  exact ⟨rfl, rfl⟩
end Go.Proofs.YtjpmnlefjmdelaaGreatDoor
namespace Go.Proofs.YtjpmnlefjmdelaaGreatDoor
open Go.RowKit Go.Sort Go.Proofs.LawFrame

/-- old memory is left alone, block b apart -/
structure But (b : Nat) (w w' : World) : Prop where
  os : w'.os = w.os
  tape : w'.tape = w.tape
  output : w'.output = w.output
  size : w.heap.size ≤ w'.heap.size
  block : ∀ k, k < w.heap.size → k ≠ b → w'.heap[k]? = w.heap[k]?
theorem But.refl (b : Nat) (w : World) : But b w w := ⟨rfl, rfl, rfl, Nat.le_refl _, fun _ _ _ => rfl⟩
theorem But.all {b : Nat} {w w' w'' : World} (h : But b w w') (hb : Below w'.heap.size w' w'') : But b w w'' :=
  ⟨hb.os.trans h.os, hb.tape.trans h.tape, hb.output.trans h.output, Nat.le_trans h.size hb.size, fun k hk hne => (hb.block k (Nat.lt_of_lt_of_le hk h.size)).trans (h.block k hk hne)⟩
theorem But.trans {b : Nat} {w w' w'' : World} (h : But b w w') (hb : But b w' w'') : But b w w'' :=
  ⟨hb.os.trans h.os, hb.tape.trans h.tape, hb.output.trans h.output, Nat.le_trans h.size hb.size, fun k hk hne => (hb.block k (Nat.lt_of_lt_of_le hk h.size) hne).trans (h.block k hk hne)⟩
theorem But.set {b : Nat} {w w' : World} (h : But b w w') (i : Nat) (v : Value) : But b w (w'.setCell ⟨b, i, none⟩ v) :=
  ⟨h.os, h.tape, h.output, Nat.le_trans h.size (Nat.le_of_eq (by unfold World.setCell; simp)), fun k hk hne => (Below.heap_setCell _ _ _ _ hne).trans (h.block k hk hne)⟩
theorem But.drew {b : Nat} {w w' : World} (h : But b w w') : But b w w'.drew := ⟨h.os, h.tape, h.output, h.size, h.block⟩
theorem But.below {b B : Nat} {a w w' : World} (h : But b w w') (ha : Below B a w) (hB : B ≤ b) (hw : B ≤ w.heap.size) : Below B a w' :=
  ⟨h.os.trans ha.os, h.tape.trans ha.tape, h.output.trans ha.output, Nat.le_trans ha.size h.size, fun k hk => (h.block k (by omega) (by omega)).trans (ha.block k hk)⟩

/- the sort, as it goes -/
def ltF (x y : FC) : Bool := decide (cmpS x.x y.x < 0)
def swp (l : List FC) (j : Nat) : List FC := (l.set j (l.getD (j - 1) FC0)).set (j - 1) (l.getD j FC0)
def sink (a : Nat) : Nat → List FC → List FC
  | 0, l => l
  | j + 1, l => if a < j + 1 ∧ ltF (l.getD (j + 1) FC0) (l.getD j FC0) = true then sink a j (swp l (j + 1)) else l
def isort (a : Nat) : Nat → Nat → List FC → List FC
  | _, 0, l => l
  | i, n + 1, l => isort a (i + 1) n (sink a i l)
theorem sink_stop {a j : Nat} {l : List FC} (h : ¬ (a < j ∧ ltF (l.getD j FC0) (l.getD (j - 1) FC0) = true)) : sink a j l = l := by
  cases j with
  | zero => rfl
  | succ j => rw [sink, if_neg (by simpa using h)]
theorem sink_go {a j : Nat} {l : List FC} (h1 : a < j) (h2 : ltF (l.getD j FC0) (l.getD (j - 1) FC0) = true) : sink a j l = sink a (j - 1) (swp l j) := by
  cases j with
  | zero => omega
  | succ j => rw [sink, if_pos ⟨h1, by simpa using h2⟩]; rfl
theorem swp_length (l : List FC) (j : Nat) : (swp l j).length = l.length := by unfold swp; simp

set_option maxHeartbeats 400000 in
theorem byName_any (x y : FC) (w : World) : Calls Tryz.prog 183 #[.agg #[sV x.x, .int .i64 x.v.k, .int .i64 x.v.n, sV x.v.s, .slice x.v.la x.v.ln x.v.lc, .slice x.v.fa x.v.fn x.v.fc], .agg #[sV y.x, .int .i64 y.v.k, .int .i64 y.v.n, sV y.v.s, .slice y.v.la y.v.ln y.v.lc, .slice y.v.fa y.v.fn y.v.fc]] w fun e w' => e = .returned (.int .i64 (cmpS x.x y.x)) ∧ Below w.heap.size w w' := by
  go_enter Tryz.func183, Tryz.ntmps183
  go_wp2_with fail
  refine (strCmp_any _ _ _).mono ?_
  rintro e w' ⟨rfl, rfl⟩
  go_wp2
  go_ret
  exact ⟨rfl, ((Below.refl _ _).alloc (Nat.le_refl _) _).alloc (by simp) _⟩

set_option maxHeartbeats 4000000 in
theorem insertion_any (b cap a e : Nat) (rest : List Value) (l0 : List FC) (w : World) (ho : Own w b (l0.flatMap FC.cells ++ rest) 58) (hn : l0.length ≤ 4000) (ha : a ≤ 4000) (he : e ≤ l0.length) (hcap : l0.length ≤ cap) (hcm : cap ≤ maxLen) :
    Calls Tryz.prog 211 #[.slice (some ⟨b, 0, none⟩) l0.length cap, .int .i64 (a : Int), .int .i64 (e : Int), .func (.func 183) #[] #[]] w fun en w' => en = .returned (.tuple #[]) ∧ But b w w' ∧ Own w' b ((isort a (a + 1) (e - (a + 1)) l0).flatMap FC.cells ++ rest) 58 ∧ (isort a (a + 1) (e - (a + 1)) l0).length = l0.length := by
  unfold maxLen at hcm
  generalize hN : l0.length = N at *
  have HN := Lib.hid hN
  clear hN
  go_enter Tryz.func211, Tryz.ntmps211
  go_wp2
  have R0 := Lib.hid ho
  clear ho
  go_loopg [8] (e - (a + 1)) (fun g s wr => ∃ (i : Nat) (l : List FC), a + 1 ≤ i ∧ i ≤ 8000 ∧ g = e - i ∧ s = .int .i64 (i : Int) ∧ l.length = N ∧ But b w wr ∧ Own wr b (l.flatMap FC.cells ++ rest) 58 ∧ Hid (isort a i (e - i) l = isort a (a + 1) (e - (a + 1)) l0))
  case atStart => exact ⟨a + 1, l0, Nat.le_refl _, by omega, rfl, by go_num, HN.out, But.refl _ _, R0.out, Lib.hid rfl⟩
  case round =>
    obtain ⟨i, l, hi, hi2, hg, rfl, hl, hbt, o, HI⟩ := hrel
    have HG := Lib.hid hg
    clear hg R0
    by_cases hlt : i < e
    case neg =>
      have hge : ¬ (i : Int) < (e : Int) := by omega
      have hz : e - i = 0 := by omega
      have HZ := Lib.hid hz
      clear hz
      go_wp2
      have hq := HI.out
      rw [HZ.out, isort] at hq
      go_end0
      exact ⟨rfl, hbt, by rw [← hq]; exact o, by rw [← hq]; exact hl⟩
    go_wp2
    generalize wr = W1 at *
    have R1 := Lib.hid (And.intro hbt o)
    clear hbt o
    have HL := Lib.hid hl
    go_loopg [9] i (fun g s wr => ∃ (j : Nat) (l' : List FC), j ≤ i ∧ a ≤ j ∧ g = j ∧ s = .int .i64 (j : Int) ∧ l'.length = N ∧ But b w wr ∧ Own wr b (l'.flatMap FC.cells ++ rest) 58 ∧ Hid (sink a j l' = sink a i l))
    case atStart => exact ⟨i, l, Nat.le_refl _, by omega, rfl, rfl, HL.out, R1.out.1, R1.out.2, Lib.hid rfl⟩
    case round =>
      obtain ⟨j, l', hj, haj, hg2, rfl, hl', hbt, o, HS⟩ := hrel
      have HG2 := Lib.hid hg2
      clear hg2 R1
      by_cases haj2 : a < j
      case neg =>
        have hge : ¬ (a : Int) < (j : Int) := by omega
        have HST : Hid (sink a j l' = l') := Lib.hid (sink_stop (fun h => haj2 h.1))
        go_wp2
        refine wp_region_quiet_below (by kernel_rfl) (by kernel_rfl) ?_
        repeat (first | go_big_quiet_step (fail) | quiet_step (fail))
        refine wpQuiet_nil ?_
        intro _ hw'
        obtain ⟨⟨dq, osq⟩, hw''⟩ := hw'
        subst hw''
        have hb1 := hbt.all (below_regrown wr dq osq)
        have o1 := o.all (below_regrown wr dq osq)
        clear hbt o
        go_wp2
        go_roundg (e - (i + 1))
        case measure => have := HG.out; omega
        case rel =>
          refine ⟨i + 1, l', by omega, by omega, rfl, by go_num, hl', hb1, o1, Lib.hid ?_⟩
          rw [← HI.out, show e - i = (e - (i + 1)) + 1 by omega, isort, ← HS.out, HST.out]
      have hx : l'[j]? = some (l'.getD j FC0) := by rw [List.getD_eq_getElem?_getD, List.getElem?_eq_getElem (by omega)]; rfl
      have hy : l'[j - 1]? = some (l'.getD (j - 1) FC0) := by rw [List.getD_eq_getElem?_getD, List.getElem?_eq_getElem (by omega)]; rfl
      have HST := Lib.hid (fun h => sink_stop (a := a) (j := j) (l := l') h)
      have HGO := Lib.hid (fun h => sink_go (a := a) (j := j) (l := l') haj2 h)
      have HSW : Hid (swp l' j = (l'.set j (l'.getD (j - 1) FC0)).set (j - 1) (l'.getD j FC0)) := Lib.hid rfl
      generalize l'.getD j FC0 = x at *
      generalize l'.getD (j - 1) FC0 = y at *
      obtain ⟨x0, x1, x2, x3, x4, x5⟩ := Own.fieldAt o hx
      obtain ⟨y0, y1, y2, y3, y4, y5⟩ := Own.fieldAt o hy
      have gx0 := cell_regrown x0
      have gx1 := cell_regrown x1
      have gx2 := cell_regrown x2
      have gx3 := cell_regrown x3
      have gx4 := cell_regrown x4
      have gx5 := cell_regrown x5
      have gy0 := cell_regrown y0
      have gy1 := cell_regrown y1
      have gy2 := cell_regrown y2
      have gy3 := cell_regrown y3
      have gy4 := cell_regrown y4
      have gy5 := cell_regrown y5
      have cB : ∀ dd os, Calls Tryz.prog 183 #[.agg #[sV x.x, .int .i64 x.v.k, .int .i64 x.v.n, sV x.v.s, .slice x.v.la x.v.ln x.v.lc, .slice x.v.fa x.v.fn x.v.fc], .agg #[sV y.x, .int .i64 y.v.k, .int .i64 y.v.n, sV y.v.s, .slice y.v.la y.v.ln y.v.lc, .slice y.v.fa y.v.fn y.v.fc]] (grow (redrawn wr dd) os) fun e w'' => e = .returned (.int .i64 (cmpS x.x y.x)) ∧ ∃ p : Regrown, w'' = grow (redrawn wr p.d) p.os := fun dd os => Calls.regrown_of (byName_any x y _)
      by_cases hc : cmpS x.x y.x < 0
      case neg =>
        have HC : Hid (¬ (a < j ∧ ltF x y = true)) := Lib.hid (fun h => by have := h.2; unfold ltF at this; simp at this; omega)
        go_wp2
        refine wp_region_quiet_below (by kernel_rfl) (by kernel_rfl) ?_
        repeat (first | go_big_quiet_step ((with_reducible exact cB _ _)) | quiet_step (with_reducible exact cB _ _))
        refine wpQuiet_nil ?_
        intro _ hw'
        obtain ⟨⟨dq, osq⟩, hw''⟩ := hw'
        subst hw''
        have hb1 := hbt.all (below_regrown wr dq osq)
        have o1 := o.all (below_regrown wr dq osq)
        clear hbt o x0 x1 x2 x3 x4 x5 y0 y1 y2 y3 y4 y5 gx0 gx1 gx2 gx3 gx4 gx5 gy0 gy1 gy2 gy3 gy4 gy5 cB
        go_wp2
        go_roundg (e - (i + 1))
        case measure => have := HG.out; omega
        case rel =>
          refine ⟨i + 1, l', by omega, by omega, rfl, by go_num, hl', hb1, o1, Lib.hid ?_⟩
          rw [← HI.out, show e - i = (e - (i + 1)) + 1 by omega, isort, ← HS.out, HST.out HC.out]
      have HC : Hid (ltF x y = true) := Lib.hid (by unfold ltF; simp; exact hc)
      go_wp2
      refine wp_region_quiet_below (by kernel_rfl) (by kernel_rfl) ?_
      repeat (first | go_big_quiet_step ((with_reducible exact cB _ _)) | quiet_step (with_reducible exact cB _ _))
      refine wpQuiet_nil ?_
      intro _ hw'
      obtain ⟨⟨dq, osq⟩, hw''⟩ := hw'
      subst hw''
      have hb1 := hbt.all (below_regrown wr dq osq)
      have o1 := o.all (below_regrown wr dq osq)
      clear hbt o x0 x1 x2 x3 x4 x5 y0 y1 y2 y3 y4 y5 gx0 gx1 gx2 gx3 gx4 gx5 gy0 gy1 gy2 gy3 gy4 gy5 cB
      generalize grow (redrawn wr dq) osq = V at *
      obtain ⟨x0, x1, x2, x3, x4, x5⟩ := Own.fieldAt o1 hx
      obtain ⟨y0, y1, y2, y3, y4, y5⟩ := Own.fieldAt o1 hy
      have fx0 := o1.frozen (j * 6)
      have fy0 := o1.frozen ((j - 1) * 6)
      have fx1 := o1.frozen (j * 6 + 1)
      have fy1 := o1.frozen ((j - 1) * 6 + 1)
      have fx2 := o1.frozen (j * 6 + 2)
      have fy2 := o1.frozen ((j - 1) * 6 + 2)
      have fx3 := o1.frozen (j * 6 + 3)
      have fy3 := o1.frozen ((j - 1) * 6 + 3)
      have fx4 := o1.frozen (j * 6 + 4)
      have fy4 := o1.frozen ((j - 1) * 6 + 4)
      have fx5 := o1.frozen (j * 6 + 5)
      have fy5 := o1.frozen ((j - 1) * 6 + 5)
      have HO := Lib.hid (And.intro hb1 o1)
      clear hb1 o1 hx hy
      go_wp2
      go_region
      go_wp2
      obtain ⟨hb1, o1⟩ := HO.out
      have o2 := Own.setFR (Own.setFR o1 (k := j) (by omega) y) (k := j - 1) (by rw [List.length_set]; omega) x
      have h12 := ((((((((((((hb1.set (j * 6) (sV y.x)).set (j * 6 + 1) (.int .i64 y.v.k)).set (j * 6 + 2) (.int .i64 y.v.n)).set (j * 6 + 3) (sV y.v.s)).set (j * 6 + 4) (.slice y.v.la y.v.ln y.v.lc)).set (j * 6 + 5) (.slice y.v.fa y.v.fn y.v.fc)).set ((j - 1) * 6) (sV x.x)).set ((j - 1) * 6 + 1) (.int .i64 x.v.k)).set ((j - 1) * 6 + 2) (.int .i64 x.v.n)).set ((j - 1) * 6 + 3) (sV x.v.s)).set ((j - 1) * 6 + 4) (.slice x.v.la x.v.ln x.v.lc)).set ((j - 1) * 6 + 5) (.slice x.v.fa x.v.fn x.v.fc)).drew
      go_roundg (j - 1)
      case measure => have := HG2.out; omega
      case rel => exact ⟨j - 1, swp l' j, by omega, by omega, rfl, by go_num, by rw [swp_length]; exact hl', h12, by rw [HSW.out]; exact o2.drew, Lib.hid ((HGO.out HC.out).symm.trans HS.out)⟩
end Go.Proofs.YtjpmnlefjmdelaaGreatDoor
