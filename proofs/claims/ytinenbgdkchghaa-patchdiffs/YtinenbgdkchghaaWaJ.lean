/- Contracts of Size and Depth. Contracts of count, Small and small. Contracts of the functions on strings and names. The contract of ValidField. The contract of validNames. -/
import Derived.Test.YtinenbgdkchghaaProg
import Derived.Test.YtinenbgdkchghaaPmJ
import Derived.WalkKit
import Derived.WalkSpells
import Derived.WalkLawsBesides
import Derived.BigQuiet
import Derived.Lib.Hide
import Derived.Deep.LoopGhost
import Derived.Test.YtinenbgdkchghaaMaJ
import Derived.BigRegion
set_option linter.unusedSimpArgs false
set_option linter.unusedVariables false
namespace Go.Proofs.Ytinenbgdkchghaa
open Go.RowKit Go.Sort Go.Proofs.LawFrame

/-- a value, out of its cells -/
abbrev VC.val (c : VC) : Value := .agg #[.int .i64 c.k, .int .i64 c.n, sV c.s, .slice c.la c.ln c.lc, .slice c.fa c.fn c.fc]
theorem ret_bool {a b : Bool} (h : a = b) : Ending.returned (.bool a) = .returned (.bool b) := by rw [h]
theorem ret_int {k : IntKind} {a b : Int} (h : a = b) : Ending.returned (.int k a) = .returned (.int k b) := by rw [h]
theorem int_eq {k : IntKind} {a b : Int} (h : a = b) : Value.int k a = Value.int k b := by rw [h]

set_option maxHeartbeats 2000000 in
theorem rsize_any : ∀ (N : Nat) (t : T), SizeOf.sizeOf t ≤ N → ∀ (c : VC) (w : World), Is w c t → t.size ≤ 4000 →
    Calls Try.prog 38 #[c.val] w fun e w' => e = .returned (.int .i64 t.size) ∧ Below w.heap.size w w' := by
  intro N
  induction N with
  | zero => rintro ⟨k, n, s, l, f⟩ h; simp at h
  | succ N ih =>
    rintro ⟨k, n, s, l, f⟩ hN ⟨k', n', s', la, ln, lc, fa, fn, fc⟩ w hI hz
    obtain ⟨rfl, rfl, rfl⟩ : k' = k ∧ n' = n ∧ s' = s := hI.same
    have hl := hI.vals
    have hf := hI.flds
    clear hI
    obtain ⟨rfl, hlc, hlm⟩ := hl.slice
    obtain ⟨rfl, hfc, hfm⟩ := hf.slice
    unfold maxLen at hlm hfm
    rw [T.size] at hz
    rw [T.size]
    have hlen := len_sizeL l
    have hflen := len_sizeF f
    go_enter Try.func38, Try.ntmps38
    go_wp2
    have o0 : Own (w.alloc (.cells #[.int .i64 k', .int .i64 n', sV s', .slice la l.length lc, .slice fa f.length fc] 25)) w.heap.size [.int .i64 k', .int .i64 n', sV s', .slice la l.length lc, .slice fa f.length fc] 25 := Own.new _ _ _
    have hw0 : Below w.heap.size w (w.alloc (.cells #[.int .i64 k', .int .i64 n', sV s', .slice la l.length lc, .slice fa f.length fc] 25)) := (Below.refl _ _).alloc (Nat.le_refl _) _
    generalize w.alloc (.cells #[.int .i64 k', .int .i64 n', sV s', .slice la l.length lc, .slice fa f.length fc] 25) = W at *
    have R0 := Lib.hid (And.intro hw0 o0)
    clear hw0 o0
    go_loopg [3, 4] l.length (fun g sz i wr => ∃ k : Nat, k ≤ l.length ∧ g = l.length - k ∧ i = .int .i64 k ∧ sz = .int .i64 (1 + sizeL (l.take k)) ∧ Below w.heap.size w wr ∧ Own wr w.heap.size [.int .i64 k', .int .i64 n', sV s', .slice la l.length lc, .slice fa f.length fc] 25)
    case atStart =>
      obtain ⟨hw0, o0⟩ := R0.out
      exact ⟨0, Nat.zero_le _, rfl, rfl, rfl, hw0, o0⟩
    case round =>
      obtain ⟨k, hk, hg, rfl, rfl, hb, o0⟩ := hrel
      have HG := Lib.hid hg
      clear hg R0
      have s3 : wr.cell? ⟨w.heap.size, 3, none⟩ = some (.slice la l.length lc) := o0.cell rfl
      by_cases hlt : k < l.length
      · have hx := List.getElem?_eq_getElem hlt
        generalize l[k] = x at hx
        obtain ⟨b, off, c, rfl, hbl, hI, q0, q1, q2, q3, q4⟩ := hl.at hb hx
        have h1 := sizeL_succ hx
        have h6 := sizeL_succ hx
        have h2 := sizeL_take l (k + 1)
        have h3 := sizeF_nonneg f
        have h4 := size_pos x
        have h5 := sizeL_nonneg (l.take k)
        have hsz : SizeOf.sizeOf x ≤ N := by have := sizeOf_l (k := k') (n := n') (s := s') (f := f) (List.mem_of_getElem? hx); omega
        have hbb := hb
        have oo := o0
        have hII := hI
        have HH := Lib.hid (And.intro hbb (And.intro oo (And.intro h1 hx)))
        have IH := Lib.hid (ih x hsz c _ hII (by omega))
        clear hbb oo hI hII hb o0 hx ih
        go_wp2_with fail
        refine IH.out.mono ?_
        rintro e w2 ⟨rfl, hb2⟩
        go_wp2
        all_goals
          obtain ⟨hbb, oo, h1, hx⟩ := HH.out
          go_roundg (l.length - (k + 1))
          case measure => have := HG.out; omega
          case rel =>
            refine ⟨k + 1, by omega, rfl, by go_num, int_eq (by rw [h1]; omega), below_all hbb hb2, oo.all hb2⟩
      · obtain rfl : k = l.length := by omega
        rw [List.take_length]
        clear hl
        have s4 : wr.cell? ⟨w.heap.size, 4, none⟩ = some (.slice fa f.length fc) := o0.cell rfl
        go_wp2
        generalize wr = W1 at *
        clear s3 s4
        have R1 := Lib.hid (And.intro hb o0)
        clear hb o0
        go_loopg [3, 5] f.length (fun g sz i wr => ∃ k : Nat, k ≤ f.length ∧ g = f.length - k ∧ i = .int .i64 k ∧ sz = .int .i64 (1 + sizeL l + sizeF (f.take k)) ∧ Below w.heap.size w wr ∧ Own wr w.heap.size [.int .i64 k', .int .i64 n', sV s', .slice la l.length lc, .slice fa f.length fc] 25)
        case atStart =>
          obtain ⟨hw0, o0⟩ := R1.out
          exact ⟨0, Nat.zero_le _, rfl, rfl, int_eq (by simp [sizeF]), hw0, o0⟩
        case round =>
          obtain ⟨k, hk, hg, rfl, rfl, hb, o0⟩ := hrel
          have HG := Lib.hid hg
          clear hg R1
          have s4 : wr.cell? ⟨w.heap.size, 4, none⟩ = some (.slice fa f.length fc) := o0.cell rfl
          by_cases hlt : k < f.length
          · have hx := List.getElem?_eq_getElem hlt
            generalize f[k] = p at hx
            obtain ⟨b, off, c, rfl, hbl, hI, q, q0, q1, q2, q3, q4⟩ := hf.at hb hx
            have h1 := sizeF_succ hx
            have h6 := sizeF_succ hx
            have h2 := sizeF_take f (k + 1)
            have h3 := sizeL_nonneg l
            have h4 := size_pos p.2
            have h5 := sizeF_nonneg (f.take k)
            have hsz : SizeOf.sizeOf p.2 ≤ N := by have := sizeOf_f (k := k') (n := n') (s := s') (l := l) (List.mem_of_getElem? hx); omega
            have hbb := hb
            have oo := o0
            have hII := hI
            have HH := Lib.hid (And.intro hbb (And.intro oo (And.intro h1 hx)))
            have IH := Lib.hid (ih p.2 hsz c _ hII (by omega))
            clear hbb oo hI hII hb o0 hx ih
            go_wp2_with fail
            refine IH.out.mono ?_
            rintro e w2 ⟨rfl, hb2⟩
            go_wp2
            all_goals
              obtain ⟨hbb, oo, h1, hx⟩ := HH.out
              go_roundg (f.length - (k + 1))
              case measure => have := HG.out; omega
              case rel =>
                refine ⟨k + 1, by omega, rfl, by go_num, int_eq (by rw [h1]; omega), below_all hbb hb2, oo.all hb2⟩
          · obtain rfl : k = f.length := by omega
            rw [List.take_length]
            go_wp2
            go_ret
            exact ⟨ret_int (by omega), hb⟩

end Go.Proofs.Ytinenbgdkchghaa
namespace Go.Proofs.Ytinenbgdkchghaa
open Go.RowKit Go.Sort Go.Proofs.LawFrame

end Go.Proofs.Ytinenbgdkchghaa
namespace Go.Proofs.Ytinenbgdkchghaa
open Go.RowKit Go.Sort Go.Proofs.LawFrame

theorem bytesLess_cmp : ∀ a b : Str, Op.bytesLess a b = decide (cmpS a b = -1) := by
  intro a
  induction a with
  | nil => intro b; cases b <;> simp [Op.bytesLess, Lib.compareBytes]
  | cons x a ih => intro b; cases b with
    | nil => simp [Op.bytesLess, Lib.compareBytes]
    | cons y b =>
      have := ih b
      simp only [cmpS] at this
      simp only [Op.bytesLess, cmpS, Lib.compareBytes, this]
      by_cases h : x < y
      · simp [h]
      · by_cases h' : y < x
        · have hne : ¬ x = y := by rintro rfl; exact h h'
          simp [h, h', hne]
        · have he : x = y := UInt8.le_antisymm (UInt8.not_lt.1 h') (UInt8.not_lt.1 h)
          subst he
          simp
theorem less_iff {a b : Str} : Op.bytesLess a b = true ↔ cmpS a b = -1 := by rw [bytesLess_cmp]; simp
theorem less_not {a b : Str} : Op.bytesLess a b = false ↔ ¬ cmpS a b = -1 := by rw [bytesLess_cmp]; simp

set_option maxHeartbeats 1000000 in
theorem rvalidString_any (l : Str) (w : World) (hl : l.length ≤ 4000) : Calls Try.prog 52 #[sV l] w fun e w' => e = .returned (.bool (strOk l)) ∧ w = w' := by
    go_enter Try.func52, Try.ntmps52
    go_wp2
    go_loop [3] (fun i => ∃ k : Nat, k ≤ l.length ∧ i = .int .i64 k ∧ Hid (AllTo byteOk l k)) (fun i => l.length - (intOf i).toNat)
    case atStart => exact ⟨0, Nat.zero_le _, rfl, Lib.hid (AllTo_zero _ l)⟩
    case round =>
      obtain ⟨k, hk, rfl, hd⟩ := hrel
      by_cases hlt : k < l.length
      · have hm : ((⟨l.toArray⟩ : ByteArray)[k]'hlt).toNat = l[k].toNat := rfl
        have HM : Hid (l[k].toNat = l[k].toNat) := Lib.hid rfl
        have hm256 : l[k].toNat < 256 := l[k].toNat_lt
        generalize hmm : l[k].toNat = m at hm hm256
        have HMM := Lib.hid hmm
        clear hmm HM
        go_wp2
        all_goals first
          | (exfalso; omega)
          | (go_ret; exact ⟨ret_bool (by rw [strOk_bad (all_not hlt (by unfold byteOk; rw [HMM.out, Bool.eq_false_iff]; simp; (try simp only [bne_iff_ne, bne_eq_false_iff_eq, ne_eq, Bool.not_eq_true, Bool.or_eq_true, Bool.and_eq_true, decide_eq_true_eq, Bool.not_eq_true', Bool.not_eq_false', decide_eq_false_iff_not] at *); omega))]), rfl⟩)
          | (go_round
             case rel => exact ⟨k + 1, by omega, by go_num, Lib.hid (AllTo_succ hd.out hlt (by unfold byteOk; rw [HMM.out]; simp; (try simp only [bne_iff_ne, bne_eq_false_iff_eq, ne_eq, Bool.not_eq_true, Bool.or_eq_true, Bool.and_eq_true, decide_eq_true_eq, Bool.not_eq_true', Bool.not_eq_false', decide_eq_false_iff_not] at *); omega))⟩
             case measure => simp [intOf]; omega)
      · obtain rfl : k = l.length := by omega
        go_wp2
        all_goals first
          | (exfalso; omega)
          | (go_ret
             exact ⟨ret_bool (by unfold strOk; rw [all_of hd.out, Bool.and_true, Bool.eq_iff_iff]; simp; omega), rfl⟩)

end Go.Proofs.Ytinenbgdkchghaa
namespace Go.Proofs.Ytinenbgdkchghaa
open Go.RowKit Go.Sort Go.Proofs.LawFrame

set_option maxHeartbeats 2000000 in
theorem rvalidField_any (l : Str) (w : World) (hl : l.length ≤ 4000) : Calls Try.prog 46 #[sV l] w fun e w' => e = .returned (.bool (nameOk l)) ∧ w = w' := by
    go_enter Try.func46, Try.ntmps46
    go_wp2
    go_loop [3] (fun i => ∃ k : Nat, k ≤ l.length ∧ i = .int .i64 k ∧ Hid (AllTo nmByte l k)) (fun i => l.length - (intOf i).toNat)
    case atStart => exact ⟨0, Nat.zero_le _, rfl, Lib.hid (AllTo_zero _ l)⟩
    case round =>
      obtain ⟨k, hk, rfl, hd⟩ := hrel
      by_cases hlt : k < l.length
      · have hm : ((⟨l.toArray⟩ : ByteArray)[k]'hlt).toNat = l[k].toNat := rfl
        have HM : Hid (l[k].toNat = l[k].toNat) := Lib.hid rfl
        have hm256 : l[k].toNat < 256 := l[k].toNat_lt
        generalize hmm : l[k].toNat = m at hm hm256
        have HMM := Lib.hid hmm
        clear hmm HM
        have hcl : (m < 45 ∨ m = 46 ∨ (58 ≤ m ∧ m ≤ 64) ∨ (91 ≤ m ∧ m ≤ 94) ∨ m = 96 ∨ 123 ≤ m) ∨ m = 45 ∨ m = 47 ∨ (48 ≤ m ∧ m ≤ 57) ∨ (65 ≤ m ∧ m ≤ 90) ∨ m = 95 ∨ (97 ≤ m ∧ m ≤ 122) := by omega
        rcases hcl with (hc | hc | ⟨hc, hc'⟩ | ⟨hc, hc'⟩ | hc | hc) | hc | hc | ⟨hc, hc'⟩ | ⟨hc, hc'⟩ | hc | ⟨hc, hc'⟩
        all_goals
         (go_wp2
          all_goals first
          | (exfalso; omega)
          | (exfalso; simp only [bne_iff_ne, bne_eq_false_iff_eq, ne_eq, Bool.not_eq_true, Bool.or_eq_true, Bool.and_eq_true, decide_eq_true_eq, Bool.not_eq_true', Bool.not_eq_false', decide_eq_false_iff_not] at *; omega)
          | (go_ret; exact ⟨ret_bool (by rw [nameOk_bad (all_not hlt (by unfold nmByte; rw [HMM.out, Bool.eq_false_iff]; simp; omega))]), rfl⟩)
          | (go_round
             case rel => exact ⟨k + 1, by omega, by go_num, Lib.hid (AllTo_succ hd.out hlt (by unfold nmByte; rw [HMM.out]; simp; omega))⟩
             case measure => simp [intOf]; omega))
      · obtain rfl : k = l.length := by omega
        go_wp2
        all_goals first
          | (exfalso; omega)
          | (go_ret
             exact ⟨ret_bool (by unfold nameOk; rw [all_of hd.out, Bool.and_true, Bool.eq_iff_iff]; (try simp); (try omega)), rfl⟩)
end Go.Proofs.Ytinenbgdkchghaa
namespace Go.Proofs.Ytinenbgdkchghaa
open Go.RowKit Go.Sort Go.Proofs.LawFrame

/-- a bool that says whether P holds; old memory is left alone -/
structure RB (w : World) (P : Prop) (e : Ending) (w' : World) : Prop where
  out : ∃ r : Bool, e = .returned (.bool r) ∧ Below w.heap.size w w' ∧ (r = true ↔ P)

end Go.Proofs.Ytinenbgdkchghaa
