/- Contracts of Size and Depth. -/
import Derived.Test.YtmmembmohkideaaProg
import Derived.Test.YtmmembmohkideaaPm
import Derived.WalkKit
import Derived.WalkSpells
import Derived.WalkLawsBesides
import Derived.BigQuiet
import Derived.Lib.Hide
import Derived.Deep.LoopGhost
namespace Go.Proofs.Ytmmembmohkideaa
open Go.RowKit Go.Sort Go.Proofs.LawFrame

/-- a value, out of its cells -/
abbrev VC.val (c : VC) : Value := .agg #[.int .i64 c.k, .int .i64 c.n, sV c.s, .slice c.la c.ln c.lc, .slice c.fa c.fn c.fc]
theorem ret_bool {a b : Bool} (h : a = b) : Ending.returned (.bool a) = .returned (.bool b) := by rw [h]
theorem ret_int {k : IntKind} {a b : Int} (h : a = b) : Ending.returned (.int k a) = .returned (.int k b) := by rw [h]
theorem int_eq {k : IntKind} {a b : Int} (h : a = b) : Value.int k a = Value.int k b := by rw [h]

set_option maxHeartbeats 2000000 in
theorem size_any : ∀ (N : Nat) (t : T), SizeOf.sizeOf t ≤ N → ∀ (c : VC) (w : World), Is w c t → t.size ≤ 1000 →
    Calls Try.prog 13 #[c.val] w fun e w' => e = .returned (.int .i64 t.size) ∧ Below w.heap.size w w' := by
  intro N
  induction N with
  | zero => rintro ⟨k, n, s, l, f⟩ h; simp at h
  | succ N ih =>
    rintro ⟨k, n, s, l, f⟩ hN ⟨k', n', s', la, ln, lc, fa, fn, fc⟩ w hI hz
    obtain ⟨rfl, rfl, rfl⟩ : k' = k ∧ n' = n ∧ s' = s := hI.same
    have hl := hI.vals
    have hf := hI.flds
    clear hI
    obtain ⟨rfl, hlc, hlm⟩ := hl.slice
    obtain ⟨rfl, hfc, hfm⟩ := hf.slice
    unfold maxLen at hlm hfm
    rw [T.size] at hz
    rw [T.size]
    have hlen := len_sizeL l
    have hflen := len_sizeF f
    go_enter Try.func13, Try.ntmps13
    go_wp2
    have o0 : Own (w.alloc (.cells #[.int .i64 k', .int .i64 n', sV s', .slice la l.length lc, .slice fa f.length fc] 25)) w.heap.size [.int .i64 k', .int .i64 n', sV s', .slice la l.length lc, .slice fa f.length fc] 25 := Own.new _ _ _
    have hw0 : Below w.heap.size w (w.alloc (.cells #[.int .i64 k', .int .i64 n', sV s', .slice la l.length lc, .slice fa f.length fc] 25)) := (Below.refl _ _).alloc (Nat.le_refl _) _
    generalize w.alloc (.cells #[.int .i64 k', .int .i64 n', sV s', .slice la l.length lc, .slice fa f.length fc] 25) = W at *
    have R0 := Lib.hid (And.intro hw0 o0)
    clear hw0 o0
    go_loopg [3, 11] l.length (fun g sz i wr => ∃ k : Nat, k ≤ l.length ∧ g = l.length - k ∧ i = .int .i64 k ∧ sz = .int .i64 (1 + sizeL (l.take k)) ∧ Below w.heap.size w wr ∧ Own wr w.heap.size [.int .i64 k', .int .i64 n', sV s', .slice la l.length lc, .slice fa f.length fc] 25)
    case atStart =>
      obtain ⟨hw0, o0⟩ := R0.out
      exact ⟨0, Nat.zero_le _, rfl, rfl, rfl, hw0, o0⟩
    case round =>
      obtain ⟨k, hk, hg, rfl, rfl, hb, o0⟩ := hrel
      have HG := Lib.hid hg
      clear hg R0
      have s3 : wr.cell? ⟨w.heap.size, 3, none⟩ = some (.slice la l.length lc) := o0.cell rfl
      by_cases hlt : k < l.length
      · have hx := List.getElem?_eq_getElem hlt
        generalize l[k] = x at hx
        obtain ⟨b, off, c, rfl, hbl, hI, q0, q1, q2, q3, q4⟩ := hl.at hb hx
        have h1 := sizeL_succ hx
        have h6 := sizeL_succ hx
        have h2 := sizeL_take l (k + 1)
        have h3 := sizeF_nonneg f
        have h4 := size_pos x
        have h5 := sizeL_nonneg (l.take k)
        have hsz : SizeOf.sizeOf x ≤ N := by have := sizeOf_l (k := k') (n := n') (s := s') (f := f) (List.mem_of_getElem? hx); omega
        have hbb := hb.alloc hb.size (.cells #[.int .i64 c.k, .int .i64 c.n, sV c.s, .slice c.la c.ln c.lc, .slice c.fa c.fn c.fc] 25)
        have oo := o0.alloc (.cells #[.int .i64 c.k, .int .i64 c.n, sV c.s, .slice c.la c.ln c.lc, .slice c.fa c.fn c.fc] 25)
        have hII := hI.all ((Below.refl wr.heap.size wr).alloc (Nat.le_refl _) (.cells #[.int .i64 c.k, .int .i64 c.n, sV c.s, .slice c.la c.ln c.lc, .slice c.fa c.fn c.fc] 25))
        have HH := Lib.hid (And.intro hbb (And.intro oo (And.intro h1 hx)))
        have IH := Lib.hid (ih x hsz c _ hII (by omega))
        clear hbb oo hI hII hb o0 hx ih
        go_wp2_with fail
        refine IH.out.mono ?_
        rintro e w2 ⟨rfl, hb2⟩
        go_wp2
        all_goals
          obtain ⟨hbb, oo, h1, hx⟩ := HH.out
          go_roundg (l.length - (k + 1))
          case measure => have := HG.out; omega
          case rel =>
            refine ⟨k + 1, by omega, rfl, by go_num, int_eq (by rw [h1]; omega), below_all hbb hb2, oo.all hb2⟩
      · obtain rfl : k = l.length := by omega
        rw [List.take_length]
        clear hl
        have s4 : wr.cell? ⟨w.heap.size, 4, none⟩ = some (.slice fa f.length fc) := o0.cell rfl
        go_wp2
        generalize wr = W1 at *
        clear s3 s4
        have R1 := Lib.hid (And.intro hb o0)
        clear hb o0
        go_loopg [3, 23] f.length (fun g sz i wr => ∃ k : Nat, k ≤ f.length ∧ g = f.length - k ∧ i = .int .i64 k ∧ sz = .int .i64 (1 + sizeL l + sizeF (f.take k)) ∧ Below w.heap.size w wr ∧ Own wr w.heap.size [.int .i64 k', .int .i64 n', sV s', .slice la l.length lc, .slice fa f.length fc] 25)
        case atStart =>
          obtain ⟨hw0, o0⟩ := R1.out
          exact ⟨0, Nat.zero_le _, rfl, rfl, int_eq (by simp [sizeF]), hw0, o0⟩
        case round =>
          obtain ⟨k, hk, hg, rfl, rfl, hb, o0⟩ := hrel
          have HG := Lib.hid hg
          clear hg R1
          have s4 : wr.cell? ⟨w.heap.size, 4, none⟩ = some (.slice fa f.length fc) := o0.cell rfl
          by_cases hlt : k < f.length
          · have hx := List.getElem?_eq_getElem hlt
            generalize f[k] = p at hx
            obtain ⟨b, off, c, rfl, hbl, hI, q, q0, q1, q2, q3, q4⟩ := hf.at hb hx
            have h1 := sizeF_succ hx
            have h6 := sizeF_succ hx
            have h2 := sizeF_take f (k + 1)
            have h3 := sizeL_nonneg l
            have h4 := size_pos p.2
            have h5 := sizeF_nonneg (f.take k)
            have hsz : SizeOf.sizeOf p.2 ≤ N := by have := sizeOf_f (k := k') (n := n') (s := s') (l := l) (List.mem_of_getElem? hx); omega
            have hbb := hb.alloc hb.size (.cells #[sV p.1, .int .i64 c.k, .int .i64 c.n, sV c.s, .slice c.la c.ln c.lc, .slice c.fa c.fn c.fc] 35)
            have oo := o0.alloc (.cells #[sV p.1, .int .i64 c.k, .int .i64 c.n, sV c.s, .slice c.la c.ln c.lc, .slice c.fa c.fn c.fc] 35)
            have hII := hI.all ((Below.refl wr.heap.size wr).alloc (Nat.le_refl _) (.cells #[sV p.1, .int .i64 c.k, .int .i64 c.n, sV c.s, .slice c.la c.ln c.lc, .slice c.fa c.fn c.fc] 35))
            have HH := Lib.hid (And.intro hbb (And.intro oo (And.intro h1 hx)))
            have IH := Lib.hid (ih p.2 hsz c _ hII (by omega))
            clear hbb oo hI hII hb o0 hx ih
            go_wp2_with fail
            refine IH.out.mono ?_
            rintro e w2 ⟨rfl, hb2⟩
            go_wp2
            all_goals
              obtain ⟨hbb, oo, h1, hx⟩ := HH.out
              go_roundg (f.length - (k + 1))
              case measure => have := HG.out; omega
              case rel =>
                refine ⟨k + 1, by omega, rfl, by go_num, int_eq (by rw [h1]; omega), below_all hbb hb2, oo.all hb2⟩
          · obtain rfl : k = f.length := by omega
            rw [List.take_length]
            go_wp2
            go_ret
            exact ⟨ret_int (by omega), hb⟩

set_option maxHeartbeats 2000000 in
theorem rsize_any : ∀ (N : Nat) (t : T), SizeOf.sizeOf t ≤ N → ∀ (c : VC) (w : World), Is w c t → t.size ≤ 1000 →
    Calls Try.prog 14 #[c.val] w fun e w' => e = .returned (.int .i64 t.size) ∧ Below w.heap.size w w' := by
  intro N
  induction N with
  | zero => rintro ⟨k, n, s, l, f⟩ h; simp at h
  | succ N ih =>
    rintro ⟨k, n, s, l, f⟩ hN ⟨k', n', s', la, ln, lc, fa, fn, fc⟩ w hI hz
    obtain ⟨rfl, rfl, rfl⟩ : k' = k ∧ n' = n ∧ s' = s := hI.same
    have hl := hI.vals
    have hf := hI.flds
    clear hI
    obtain ⟨rfl, hlc, hlm⟩ := hl.slice
    obtain ⟨rfl, hfc, hfm⟩ := hf.slice
    unfold maxLen at hlm hfm
    rw [T.size] at hz
    rw [T.size]
    have hlen := len_sizeL l
    have hflen := len_sizeF f
    go_enter Try.func14, Try.ntmps14
    go_wp2
    have o0 : Own (w.alloc (.cells #[.int .i64 k', .int .i64 n', sV s', .slice la l.length lc, .slice fa f.length fc] 25)) w.heap.size [.int .i64 k', .int .i64 n', sV s', .slice la l.length lc, .slice fa f.length fc] 25 := Own.new _ _ _
    have hw0 : Below w.heap.size w (w.alloc (.cells #[.int .i64 k', .int .i64 n', sV s', .slice la l.length lc, .slice fa f.length fc] 25)) := (Below.refl _ _).alloc (Nat.le_refl _) _
    generalize w.alloc (.cells #[.int .i64 k', .int .i64 n', sV s', .slice la l.length lc, .slice fa f.length fc] 25) = W at *
    have R0 := Lib.hid (And.intro hw0 o0)
    clear hw0 o0
    go_loopg [3, 4] l.length (fun g sz i wr => ∃ k : Nat, k ≤ l.length ∧ g = l.length - k ∧ i = .int .i64 k ∧ sz = .int .i64 (1 + sizeL (l.take k)) ∧ Below w.heap.size w wr ∧ Own wr w.heap.size [.int .i64 k', .int .i64 n', sV s', .slice la l.length lc, .slice fa f.length fc] 25)
    case atStart =>
      obtain ⟨hw0, o0⟩ := R0.out
      exact ⟨0, Nat.zero_le _, rfl, rfl, rfl, hw0, o0⟩
    case round =>
      obtain ⟨k, hk, hg, rfl, rfl, hb, o0⟩ := hrel
      have HG := Lib.hid hg
      clear hg R0
      have s3 : wr.cell? ⟨w.heap.size, 3, none⟩ = some (.slice la l.length lc) := o0.cell rfl
      by_cases hlt : k < l.length
      · have hx := List.getElem?_eq_getElem hlt
        generalize l[k] = x at hx
        obtain ⟨b, off, c, rfl, hbl, hI, q0, q1, q2, q3, q4⟩ := hl.at hb hx
        have h1 := sizeL_succ hx
        have h6 := sizeL_succ hx
        have h2 := sizeL_take l (k + 1)
        have h3 := sizeF_nonneg f
        have h4 := size_pos x
        have h5 := sizeL_nonneg (l.take k)
        have hsz : SizeOf.sizeOf x ≤ N := by have := sizeOf_l (k := k') (n := n') (s := s') (f := f) (List.mem_of_getElem? hx); omega
        have hbb := hb
        have oo := o0
        have hII := hI
        have HH := Lib.hid (And.intro hbb (And.intro oo (And.intro h1 hx)))
        have IH := Lib.hid (ih x hsz c _ hII (by omega))
        clear hbb oo hI hII hb o0 hx ih
        go_wp2_with fail
        refine IH.out.mono ?_
        rintro e w2 ⟨rfl, hb2⟩
        go_wp2
        all_goals
          obtain ⟨hbb, oo, h1, hx⟩ := HH.out
          go_roundg (l.length - (k + 1))
          case measure => have := HG.out; omega
          case rel =>
            refine ⟨k + 1, by omega, rfl, by go_num, int_eq (by rw [h1]; omega), below_all hbb hb2, oo.all hb2⟩
      · obtain rfl : k = l.length := by omega
        rw [List.take_length]
        clear hl
        have s4 : wr.cell? ⟨w.heap.size, 4, none⟩ = some (.slice fa f.length fc) := o0.cell rfl
        go_wp2
        generalize wr = W1 at *
        clear s3 s4
        have R1 := Lib.hid (And.intro hb o0)
        clear hb o0
        go_loopg [3, 5] f.length (fun g sz i wr => ∃ k : Nat, k ≤ f.length ∧ g = f.length - k ∧ i = .int .i64 k ∧ sz = .int .i64 (1 + sizeL l + sizeF (f.take k)) ∧ Below w.heap.size w wr ∧ Own wr w.heap.size [.int .i64 k', .int .i64 n', sV s', .slice la l.length lc, .slice fa f.length fc] 25)
        case atStart =>
          obtain ⟨hw0, o0⟩ := R1.out
          exact ⟨0, Nat.zero_le _, rfl, rfl, int_eq (by simp [sizeF]), hw0, o0⟩
        case round =>
          obtain ⟨k, hk, hg, rfl, rfl, hb, o0⟩ := hrel
          have HG := Lib.hid hg
          clear hg R1
          have s4 : wr.cell? ⟨w.heap.size, 4, none⟩ = some (.slice fa f.length fc) := o0.cell rfl
          by_cases hlt : k < f.length
          · have hx := List.getElem?_eq_getElem hlt
            generalize f[k] = p at hx
            obtain ⟨b, off, c, rfl, hbl, hI, q, q0, q1, q2, q3, q4⟩ := hf.at hb hx
            have h1 := sizeF_succ hx
            have h6 := sizeF_succ hx
            have h2 := sizeF_take f (k + 1)
            have h3 := sizeL_nonneg l
            have h4 := size_pos p.2
            have h5 := sizeF_nonneg (f.take k)
            have hsz : SizeOf.sizeOf p.2 ≤ N := by have := sizeOf_f (k := k') (n := n') (s := s') (l := l) (List.mem_of_getElem? hx); omega
            have hbb := hb
            have oo := o0
            have hII := hI
            have HH := Lib.hid (And.intro hbb (And.intro oo (And.intro h1 hx)))
            have IH := Lib.hid (ih p.2 hsz c _ hII (by omega))
            clear hbb oo hI hII hb o0 hx ih
            go_wp2_with fail
            refine IH.out.mono ?_
            rintro e w2 ⟨rfl, hb2⟩
            go_wp2
            all_goals
              obtain ⟨hbb, oo, h1, hx⟩ := HH.out
              go_roundg (f.length - (k + 1))
              case measure => have := HG.out; omega
              case rel =>
                refine ⟨k + 1, by omega, rfl, by go_num, int_eq (by rw [h1]; omega), below_all hbb hb2, oo.all hb2⟩
          · obtain rfl : k = f.length := by omega
            rw [List.take_length]
            go_wp2
            go_ret
            exact ⟨ret_int (by omega), hb⟩

set_option maxHeartbeats 2000000 in
theorem depth_any : ∀ (N : Nat) (t : T), SizeOf.sizeOf t ≤ N → ∀ (c : VC) (w : World), Is w c t → t.size ≤ 1000 →
    Calls Try.prog 15 #[c.val] w fun e w' => e = .returned (.int .i64 t.depth) ∧ Below w.heap.size w w' := by
  intro N
  induction N with
  | zero => rintro ⟨k, n, s, l, f⟩ h; simp at h
  | succ N ih =>
    rintro ⟨k, n, s, l, f⟩ hN ⟨k', n', s', la, ln, lc, fa, fn, fc⟩ w hI hz
    obtain ⟨rfl, rfl, rfl⟩ : k' = k ∧ n' = n ∧ s' = s := hI.same
    have hl := hI.vals
    have hf := hI.flds
    clear hI
    obtain ⟨rfl, hlc, hlm⟩ := hl.slice
    obtain ⟨rfl, hfc, hfm⟩ := hf.slice
    unfold maxLen at hlm hfm
    rw [T.size] at hz
    rw [T.depth]
    have hlen := len_sizeL l
    have hflen := len_sizeF f
    go_enter Try.func15, Try.ntmps15
    go_wp2
    have o0 : Own (w.alloc (.cells #[.int .i64 k', .int .i64 n', sV s', .slice la l.length lc, .slice fa f.length fc] 25)) w.heap.size [.int .i64 k', .int .i64 n', sV s', .slice la l.length lc, .slice fa f.length fc] 25 := Own.new _ _ _
    have hw0 : Below w.heap.size w (w.alloc (.cells #[.int .i64 k', .int .i64 n', sV s', .slice la l.length lc, .slice fa f.length fc] 25)) := (Below.refl _ _).alloc (Nat.le_refl _) _
    generalize w.alloc (.cells #[.int .i64 k', .int .i64 n', sV s', .slice la l.length lc, .slice fa f.length fc] 25) = W at *
    have R0 := Lib.hid (And.intro hw0 o0)
    clear hw0 o0
    go_loopg [3, 11] l.length (fun g sz i wr => ∃ k : Nat, k ≤ l.length ∧ g = l.length - k ∧ i = .int .i64 k ∧ sz = .int .i64 (depthL (l.take k)) ∧ Below w.heap.size w wr ∧ Own wr w.heap.size [.int .i64 k', .int .i64 n', sV s', .slice la l.length lc, .slice fa f.length fc] 25)
    case atStart =>
      obtain ⟨hw0, o0⟩ := R0.out
      exact ⟨0, Nat.zero_le _, rfl, rfl, rfl, hw0, o0⟩
    case round =>
      obtain ⟨k, hk, hg, rfl, rfl, hb, o0⟩ := hrel
      have HG := Lib.hid hg
      clear hg R0
      have s3 : wr.cell? ⟨w.heap.size, 3, none⟩ = some (.slice la l.length lc) := o0.cell rfl
      by_cases hlt : k < l.length
      · have hx := List.getElem?_eq_getElem hlt
        generalize l[k] = x at hx
        obtain ⟨b, off, c, rfl, hbl, hI, q0, q1, q2, q3, q4⟩ := hl.at hb hx
        have h1 := depthL_succ hx
        have h6 := sizeL_succ hx
        have h2 := sizeL_take l (k + 1)
        have h3 := sizeF_nonneg f
        have h4 := size_pos x
        have h5 := sizeL_nonneg (l.take k)
        have hsz : SizeOf.sizeOf x ≤ N := by have := sizeOf_l (k := k') (n := n') (s := s') (f := f) (List.mem_of_getElem? hx); omega
        have hbb := hb.alloc hb.size (.cells #[.int .i64 c.k, .int .i64 c.n, sV c.s, .slice c.la c.ln c.lc, .slice c.fa c.fn c.fc] 25)
        have oo := o0.alloc (.cells #[.int .i64 c.k, .int .i64 c.n, sV c.s, .slice c.la c.ln c.lc, .slice c.fa c.fn c.fc] 25)
        have hII := hI.all ((Below.refl wr.heap.size wr).alloc (Nat.le_refl _) (.cells #[.int .i64 c.k, .int .i64 c.n, sV c.s, .slice c.la c.ln c.lc, .slice c.fa c.fn c.fc] 25))
        have HH := Lib.hid (And.intro hbb (And.intro oo (And.intro h1 hx)))
        have IH := Lib.hid (ih x hsz c _ hII (by omega))
        clear hbb oo hI hII hb o0 hx ih h1
        go_wp2_with fail
        refine IH.out.mono ?_
        rintro e w2 ⟨rfl, hb2⟩
        go_wp2
        all_goals
          obtain ⟨hbb, oo, h1, hx⟩ := HH.out
          go_roundg (l.length - (k + 1))
          case measure => have := HG.out; omega
          case rel =>
            refine ⟨k + 1, by omega, rfl, by go_num, int_eq (by rw [h1]; omega), below_all hbb hb2, oo.all hb2⟩
      · obtain rfl : k = l.length := by omega
        rw [List.take_length]
        clear hl
        have s4 : wr.cell? ⟨w.heap.size, 4, none⟩ = some (.slice fa f.length fc) := o0.cell rfl
        go_wp2
        generalize wr = W1 at *
        clear s3 s4
        have R1 := Lib.hid (And.intro hb o0)
        clear hb o0
        go_loopg [3, 23] f.length (fun g sz i wr => ∃ k : Nat, k ≤ f.length ∧ g = f.length - k ∧ i = .int .i64 k ∧ sz = .int .i64 (max (depthL l) (depthF (f.take k))) ∧ Below w.heap.size w wr ∧ Own wr w.heap.size [.int .i64 k', .int .i64 n', sV s', .slice la l.length lc, .slice fa f.length fc] 25)
        case atStart =>
          obtain ⟨hw0, o0⟩ := R1.out
          exact ⟨0, Nat.zero_le _, rfl, rfl, int_eq (by have := depthL_nonneg l; simp [depthF]; omega), hw0, o0⟩
        case round =>
          obtain ⟨k, hk, hg, rfl, rfl, hb, o0⟩ := hrel
          have HG := Lib.hid hg
          clear hg R1
          have s4 : wr.cell? ⟨w.heap.size, 4, none⟩ = some (.slice fa f.length fc) := o0.cell rfl
          by_cases hlt : k < f.length
          · have hx := List.getElem?_eq_getElem hlt
            generalize f[k] = p at hx
            obtain ⟨b, off, c, rfl, hbl, hI, q, q0, q1, q2, q3, q4⟩ := hf.at hb hx
            have h1 := depthF_succ hx
            have h6 := sizeF_succ hx
            have h2 := sizeF_take f (k + 1)
            have h3 := sizeL_nonneg l
            have h4 := size_pos p.2
            have h5 := sizeF_nonneg (f.take k)
            have hsz : SizeOf.sizeOf p.2 ≤ N := by have := sizeOf_f (k := k') (n := n') (s := s') (l := l) (List.mem_of_getElem? hx); omega
            have hbb := hb.alloc hb.size (.cells #[sV p.1, .int .i64 c.k, .int .i64 c.n, sV c.s, .slice c.la c.ln c.lc, .slice c.fa c.fn c.fc] 35)
            have oo := o0.alloc (.cells #[sV p.1, .int .i64 c.k, .int .i64 c.n, sV c.s, .slice c.la c.ln c.lc, .slice c.fa c.fn c.fc] 35)
            have hII := hI.all ((Below.refl wr.heap.size wr).alloc (Nat.le_refl _) (.cells #[sV p.1, .int .i64 c.k, .int .i64 c.n, sV c.s, .slice c.la c.ln c.lc, .slice c.fa c.fn c.fc] 35))
            have HH := Lib.hid (And.intro hbb (And.intro oo (And.intro h1 hx)))
            have IH := Lib.hid (ih p.2 hsz c _ hII (by omega))
            clear hbb oo hI hII hb o0 hx ih h1
            go_wp2_with fail
            refine IH.out.mono ?_
            rintro e w2 ⟨rfl, hb2⟩
            go_wp2
            all_goals
              obtain ⟨hbb, oo, h1, hx⟩ := HH.out
              go_roundg (f.length - (k + 1))
              case measure => have := HG.out; omega
              case rel =>
                refine ⟨k + 1, by omega, rfl, by go_num, int_eq (by rw [h1]; omega), below_all hbb hb2, oo.all hb2⟩
          · obtain rfl : k = f.length := by omega
            rw [List.take_length]
            have d1 := depthL_le l
            have d2 := depthF_le f
            have d3 := depthL_nonneg l
            have d4 := depthF_nonneg f
            have d5 : max (depthL l) (depthF f) ≤ 1000 := by omega
            have d6 : 0 ≤ max (depthL l) (depthF f) := by omega
            generalize hM : max (depthL l) (depthF f) = M at d5 d6 ⊢
            have HM := Lib.hid hM
            clear hM
            go_wp2
            go_ret
            exact ⟨ret_int (by have := HM.out; omega), hb⟩

set_option maxHeartbeats 2000000 in
theorem rdepth_any : ∀ (N : Nat) (t : T), SizeOf.sizeOf t ≤ N → ∀ (c : VC) (w : World), Is w c t → t.size ≤ 1000 →
    Calls Try.prog 16 #[c.val] w fun e w' => e = .returned (.int .i64 t.depth) ∧ Below w.heap.size w w' := by
  intro N
  induction N with
  | zero => rintro ⟨k, n, s, l, f⟩ h; simp at h
  | succ N ih =>
    rintro ⟨k, n, s, l, f⟩ hN ⟨k', n', s', la, ln, lc, fa, fn, fc⟩ w hI hz
    obtain ⟨rfl, rfl, rfl⟩ : k' = k ∧ n' = n ∧ s' = s := hI.same
    have hl := hI.vals
    have hf := hI.flds
    clear hI
    obtain ⟨rfl, hlc, hlm⟩ := hl.slice
    obtain ⟨rfl, hfc, hfm⟩ := hf.slice
    unfold maxLen at hlm hfm
    rw [T.size] at hz
    rw [T.depth]
    have hlen := len_sizeL l
    have hflen := len_sizeF f
    go_enter Try.func16, Try.ntmps16
    go_wp2
    have o0 : Own (w.alloc (.cells #[.int .i64 k', .int .i64 n', sV s', .slice la l.length lc, .slice fa f.length fc] 25)) w.heap.size [.int .i64 k', .int .i64 n', sV s', .slice la l.length lc, .slice fa f.length fc] 25 := Own.new _ _ _
    have hw0 : Below w.heap.size w (w.alloc (.cells #[.int .i64 k', .int .i64 n', sV s', .slice la l.length lc, .slice fa f.length fc] 25)) := (Below.refl _ _).alloc (Nat.le_refl _) _
    generalize w.alloc (.cells #[.int .i64 k', .int .i64 n', sV s', .slice la l.length lc, .slice fa f.length fc] 25) = W at *
    have R0 := Lib.hid (And.intro hw0 o0)
    clear hw0 o0
    go_loopg [3, 4] l.length (fun g sz i wr => ∃ k : Nat, k ≤ l.length ∧ g = l.length - k ∧ i = .int .i64 k ∧ sz = .int .i64 (depthL (l.take k)) ∧ Below w.heap.size w wr ∧ Own wr w.heap.size [.int .i64 k', .int .i64 n', sV s', .slice la l.length lc, .slice fa f.length fc] 25)
    case atStart =>
      obtain ⟨hw0, o0⟩ := R0.out
      exact ⟨0, Nat.zero_le _, rfl, rfl, rfl, hw0, o0⟩
    case round =>
      obtain ⟨k, hk, hg, rfl, rfl, hb, o0⟩ := hrel
      have HG := Lib.hid hg
      clear hg R0
      have s3 : wr.cell? ⟨w.heap.size, 3, none⟩ = some (.slice la l.length lc) := o0.cell rfl
      by_cases hlt : k < l.length
      · have hx := List.getElem?_eq_getElem hlt
        generalize l[k] = x at hx
        obtain ⟨b, off, c, rfl, hbl, hI, q0, q1, q2, q3, q4⟩ := hl.at hb hx
        have h1 := depthL_succ hx
        have h6 := sizeL_succ hx
        have h2 := sizeL_take l (k + 1)
        have h3 := sizeF_nonneg f
        have h4 := size_pos x
        have h5 := sizeL_nonneg (l.take k)
        have hsz : SizeOf.sizeOf x ≤ N := by have := sizeOf_l (k := k') (n := n') (s := s') (f := f) (List.mem_of_getElem? hx); omega
        have hbb := hb
        have oo := o0
        have hII := hI
        have HH := Lib.hid (And.intro hbb (And.intro oo (And.intro h1 hx)))
        have IH := Lib.hid (ih x hsz c _ hII (by omega))
        clear hbb oo hI hII hb o0 hx ih h1
        go_wp2_with fail
        refine IH.out.mono ?_
        rintro e w2 ⟨rfl, hb2⟩
        go_wp2
        all_goals
          obtain ⟨hbb, oo, h1, hx⟩ := HH.out
          go_roundg (l.length - (k + 1))
          case measure => have := HG.out; omega
          case rel =>
            refine ⟨k + 1, by omega, rfl, by go_num, int_eq (by rw [h1]; omega), below_all hbb hb2, oo.all hb2⟩
      · obtain rfl : k = l.length := by omega
        rw [List.take_length]
        clear hl
        have s4 : wr.cell? ⟨w.heap.size, 4, none⟩ = some (.slice fa f.length fc) := o0.cell rfl
        go_wp2
        generalize wr = W1 at *
        clear s3 s4
        have R1 := Lib.hid (And.intro hb o0)
        clear hb o0
        go_loopg [3, 5] f.length (fun g sz i wr => ∃ k : Nat, k ≤ f.length ∧ g = f.length - k ∧ i = .int .i64 k ∧ sz = .int .i64 (max (depthL l) (depthF (f.take k))) ∧ Below w.heap.size w wr ∧ Own wr w.heap.size [.int .i64 k', .int .i64 n', sV s', .slice la l.length lc, .slice fa f.length fc] 25)
        case atStart =>
          obtain ⟨hw0, o0⟩ := R1.out
          exact ⟨0, Nat.zero_le _, rfl, rfl, int_eq (by have := depthL_nonneg l; simp [depthF]; omega), hw0, o0⟩
        case round =>
          obtain ⟨k, hk, hg, rfl, rfl, hb, o0⟩ := hrel
          have HG := Lib.hid hg
          clear hg R1
          have s4 : wr.cell? ⟨w.heap.size, 4, none⟩ = some (.slice fa f.length fc) := o0.cell rfl
          by_cases hlt : k < f.length
          · have hx := List.getElem?_eq_getElem hlt
            generalize f[k] = p at hx
            obtain ⟨b, off, c, rfl, hbl, hI, q, q0, q1, q2, q3, q4⟩ := hf.at hb hx
            have h1 := depthF_succ hx
            have h6 := sizeF_succ hx
            have h2 := sizeF_take f (k + 1)
            have h3 := sizeL_nonneg l
            have h4 := size_pos p.2
            have h5 := sizeF_nonneg (f.take k)
            have hsz : SizeOf.sizeOf p.2 ≤ N := by have := sizeOf_f (k := k') (n := n') (s := s') (l := l) (List.mem_of_getElem? hx); omega
            have hbb := hb
            have oo := o0
            have hII := hI
            have HH := Lib.hid (And.intro hbb (And.intro oo (And.intro h1 hx)))
            have IH := Lib.hid (ih p.2 hsz c _ hII (by omega))
            clear hbb oo hI hII hb o0 hx ih h1
            go_wp2_with fail
            refine IH.out.mono ?_
            rintro e w2 ⟨rfl, hb2⟩
            go_wp2
            all_goals
              obtain ⟨hbb, oo, h1, hx⟩ := HH.out
              go_roundg (f.length - (k + 1))
              case measure => have := HG.out; omega
              case rel =>
                refine ⟨k + 1, by omega, rfl, by go_num, int_eq (by rw [h1]; omega), below_all hbb hb2, oo.all hb2⟩
          · obtain rfl : k = f.length := by omega
            rw [List.take_length]
            have d1 := depthL_le l
            have d2 := depthF_le f
            have d3 := depthL_nonneg l
            have d4 := depthF_nonneg f
            have d5 : max (depthL l) (depthF f) ≤ 1000 := by omega
            have d6 : 0 ≤ max (depthL l) (depthF f) := by omega
            generalize hM : max (depthL l) (depthF f) = M at d5 d6 ⊢
            have HM := Lib.hid hM
            clear hM
            go_wp2
            go_ret
            exact ⟨ret_int (by have := HM.out; omega), hb⟩
end Go.Proofs.Ytmmembmohkideaa
