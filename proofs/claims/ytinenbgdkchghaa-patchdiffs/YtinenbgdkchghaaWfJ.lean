/- The contract of validMembers. The contract of valuesLeft and of Valid. The contract of scalar. The contract of the reference's valid and Valid. -/
import Derived.Test.YtinenbgdkchghaaWaJ
import Derived.Test.YtinenbgdkchghaaFrJ
set_option linter.unusedSimpArgs false
set_option linter.unusedVariables false
namespace Go.Proofs.Ytinenbgdkchghaa
open Go.RowKit Go.Sort Go.Proofs.LawFrame

end Go.Proofs.Ytinenbgdkchghaa
namespace Go.Proofs.Ytinenbgdkchghaa
open Go.RowKit Go.Sort Go.Proofs.LawFrame

def AllP {α : Type} (P : α → Prop) (l : List α) (k : Nat) : Prop := ∀ t ∈ l.take k, P t
theorem AllP.zero {α : Type} (P : α → Prop) (l : List α) : AllP P l 0 := by intro c hc; simp at hc
theorem AllP.succ {α : Type} {P : α → Prop} {l : List α} {k : Nat} {x : α} (h : AllP P l k) (hx : l[k]? = some x) (hp : P x) : AllP P l (k + 1) := by
  intro c hc
  rw [take_snoc hx, List.mem_append] at hc
  rcases hc with hc | hc
  · exact h c hc
  · simp at hc; rw [hc]; exact hp
theorem AllP.full {α : Type} {P : α → Prop} {l : List α} (h : AllP P l l.length) : ∀ t ∈ l, P t := by
  rw [AllP, List.take_length] at h; exact h

/-- the number m if P holds, otherwise -1; old memory is left alone -/
structure RL (w : World) (P : Prop) (m : Int) (e : Ending) (w' : World) : Prop where
  out : ∃ r : Int, e = .returned (.int .i64 r) ∧ Below w.heap.size w w' ∧ (P → r = m) ∧ (¬ P → r = -1)

end Go.Proofs.Ytinenbgdkchghaa
namespace Go.Proofs.Ytinenbgdkchghaa
open Go.RowKit Go.Sort Go.Proofs.LawFrame

set_option maxHeartbeats 2000000 in
theorem scalar_any (k n : Int) (s : Str) (la fa : Option Addr) (ln lc fn fc : Nat) (w : World) (hs : s.length ≤ 4000) :
    Calls Try.prog 45 #[(⟨k, n, s, la, ln, lc, fa, fn, fc⟩ : VC).val] w fun e w' => RB w (Sc k n s) e w' := by
  by_cases h3 : k = 3
  · subst h3
    by_cases hn : n = 0
    · subst hn
      have HE : Hid (Sc 3 0 s ↔ strOk s = true) := Lib.hid (by unfold Sc; simp)
      go_enter Try.func45, Try.ntmps45
      go_wp2_with (go_at_call 52; refine (rvalidString_any _ _ hs).mono ?_; rintro e w' ⟨rfl, rfl⟩)
      go_ret
      exact ⟨strOk s, rfl, (Below.refl _ _).alloc (Nat.le_refl _) _, HE.out.symm⟩
    · have HE : Hid (¬ Sc 3 n s) := Lib.hid (by unfold Sc; simp [hn])
      go_enter Try.func45, Try.ntmps45
      go_wp2
      go_ret
      exact ⟨_, rfl, (Below.refl _ _).alloc (Nat.le_refl _) _, by rw [iff_false_right HE.out]; simp [hn]⟩
  by_cases h0 : k = 0
  · subst h0
    have HE : Hid (Sc 0 n s ↔ (n = 0 ∧ s = [])) := Lib.hid (by unfold Sc; simp)
    all_goals
      go_enter Try.func45, Try.ntmps45
      go_wp2
    all_goals
      go_ret
      refine ⟨_, rfl, (Below.refl _ _).alloc (Nat.le_refl _) _, ?_⟩
      rw [HE.out]
      first | (simp [*]; done) | (simp; omega) | omega | (simp [*]; omega) | (simp_all; done)
  by_cases h1 : k = 1
  · subst h1
    have HE : Hid (Sc 1 n s ↔ ((n = 0 ∨ n = 1) ∧ s = [])) := Lib.hid (by unfold Sc; simp)
    all_goals
      go_enter Try.func45, Try.ntmps45
      go_wp2
    all_goals
      go_ret
      refine ⟨_, rfl, (Below.refl _ _).alloc (Nat.le_refl _) _, ?_⟩
      rw [HE.out]
      first | (simp [*]; done) | (simp; omega) | omega | (simp [*]; omega) | (simp_all; done)
  by_cases h2 : k = 2
  · subst h2
    have HE : Hid (Sc 2 n s ↔ (-1000000000000000 ≤ n ∧ n ≤ 1000000000000000 ∧ s = [])) := Lib.hid (by unfold Sc; simp)
    rcases (show n < -1000000000000000 ∨ 1000000000000000 < n ∨ (-1000000000000000 ≤ n ∧ n ≤ 1000000000000000) by omega) with hr | hr | ⟨hr, hr2⟩
    all_goals
      go_enter Try.func45, Try.ntmps45
      go_wp2
    all_goals
      go_ret
      refine ⟨_, rfl, (Below.refl _ _).alloc (Nat.le_refl _) _, ?_⟩
      rw [HE.out]
      first | (simp [*]; done) | (simp; omega) | omega | (simp [*]; omega) | (simp_all; done)
  by_cases h4 : k = 4
  · subst h4
    have HE : Hid (Sc 4 n s ↔ (n = 0 ∧ s = [])) := Lib.hid (by unfold Sc; simp)
    all_goals
      go_enter Try.func45, Try.ntmps45
      go_wp2
    all_goals
      go_ret
      refine ⟨_, rfl, (Below.refl _ _).alloc (Nat.le_refl _) _, ?_⟩
      rw [HE.out]
      first | (simp [*]; done) | (simp; omega) | omega | (simp [*]; omega) | (simp_all; done)
  by_cases h5 : k = 5
  · subst h5
    have HE : Hid (Sc 5 n s ↔ (n = 0 ∧ s = [])) := Lib.hid (by unfold Sc; simp)
    all_goals
      go_enter Try.func45, Try.ntmps45
      go_wp2
    all_goals
      go_ret
      refine ⟨_, rfl, (Below.refl _ _).alloc (Nat.le_refl _) _, ?_⟩
      rw [HE.out]
      first | (simp [*]; done) | (simp; omega) | omega | (simp [*]; omega) | (simp_all; done)
  have HE : Hid (¬ Sc k n s) := Lib.hid (by unfold Sc; simp [h0, h1, h2, h3, h4, h5])
  go_enter Try.func45, Try.ntmps45
  go_wp2
  go_ret
  exact ⟨_, rfl, (Below.refl _ _).alloc (Nat.le_refl _) _, by rw [iff_false_right HE.out]; simp⟩
end Go.Proofs.Ytinenbgdkchghaa
namespace Go.Proofs.Ytinenbgdkchghaa
open Go.RowKit Go.Sort Go.Proofs.LawFrame

open Classical in
set_option maxHeartbeats 2000000 in
theorem rvalid_any : ∀ (N : Nat) (t : T), SizeOf.sizeOf t ≤ N → ∀ (c : VC) (w : World) (d : Nat), Is w c t → t.nice → t.size ≤ 4000 → d ≤ 20 →
    Calls Try.prog 37 #[c.val, .int .i64 (d : Int)] w fun e w' => RB w (Val d t) e w' := by
  intro N
  induction N with
  | zero => rintro ⟨k, n, s, l, f⟩ h; simp at h
  | succ N ih =>
    rintro ⟨k, n, s, l, f⟩ hN ⟨k', n', s', la, ln, lc, fa, fn, fc⟩ w d hI hni hz hd
    obtain ⟨rfl, rfl, rfl⟩ : k' = k ∧ n' = n ∧ s' = s := hI.same
    have hl := hI.vals
    have hf := hI.flds
    clear hI
    obtain ⟨rfl, hlc, hlm⟩ := hl.slice
    obtain ⟨rfl, hfc, hfm⟩ := hf.slice
    unfold maxLen at hlm hfm
    rw [T.nice] at hni
    rw [T.size] at hz
    have HNI := Lib.hid hni
    clear hni
    have hlen := len_sizeL l
    have hflen := len_sizeF f
    have hw0 : Below w.heap.size w (w.alloc (.cells #[.int .i64 k', .int .i64 n', sV s', .slice la l.length lc, .slice fa f.length fc] 25)) := (Below.refl _ _).alloc (Nat.le_refl _) _
    have o0 : Own (w.alloc (.cells #[.int .i64 k', .int .i64 n', sV s', .slice la l.length lc, .slice fa f.length fc] 25)) w.heap.size [.int .i64 k', .int .i64 n', sV s', .slice la l.length lc, .slice fa f.length fc] 25 := Own.new _ _ _
    cases d with
    | zero =>
      go_enter Try.func37, Try.ntmps37
      go_wp2
      go_ret
      exact ⟨false, rfl, hw0, by simp [Val]⟩
    | succ d =>
    have HE : Hid (Val (d + 1) (.mk k' n' s' l f) ↔ Sc k' n' s' ∧ l.length ≤ 64 ∧ f.length ≤ 64 ∧ (k' = 4 ∨ l.length = 0) ∧ (k' = 5 ∨ f.length = 0) ∧ NmTo f f.length ∧ (∀ t ∈ l, Val d t) ∧ ∀ p ∈ f, Val d p.2) := Lib.hid (by rw [Val])
    have hd1 : ((d : Int) + 1 == 0) = false := by rw [beq_eq_false_iff_ne]; omega
    have U := Lib.hid (scalar_any k' n' s' la fa l.length lc f.length fc (w.alloc (.cells #[.int .i64 k', .int .i64 n', sV s', .slice la l.length lc, .slice fa f.length fc] 25)) HNI.out.1)
    go_enter Try.func37, Try.ntmps37
    go_wp2_with fail
    refine U.out.mono ?_
    rintro e w1 ⟨⟨r1, rfl, hb1, hu⟩⟩
    have HU := Lib.hid hu
    clear hu U
    have hb01 := below_all hw0 hb1
    have o1 := o0.all hb1
    clear hb1 hw0 o0
    have s0 : w1.cell? ⟨w.heap.size, 0, none⟩ = some (.int .i64 k') := o1.cell rfl
    have s3 : w1.cell? ⟨w.heap.size, 3, none⟩ = some (.slice la l.length lc) := o1.cell rfl
    have s4 : w1.cell? ⟨w.heap.size, 4, none⟩ = some (.slice fa f.length fc) := o1.cell rfl
    cases r1 with
    | false =>
      go_wp2
      go_ret
      exact ⟨false, rfl, hb01, by rw [HE.out, iff_false_right (fun h => absurd (HU.out.2 h.1) (by simp))]; simp⟩
    | true =>
    have HS : Hid (Sc k' n' s') := Lib.hid (HU.out.1 (by simp))
    clear HU
    by_cases hl64 : l.length ≤ 64
    case neg =>
      go_wp2
      go_ret
      exact ⟨false, rfl, hb01, by rw [HE.out, iff_false_right (fun h => absurd h.2.1 hl64)]; simp⟩
    by_cases hf64 : f.length ≤ 64
    case neg =>
      go_wp2
      go_ret
      exact ⟨false, rfl, hb01, by rw [HE.out, iff_false_right (fun h => absurd h.2.2.1 hf64)]; simp⟩
    by_cases hA : k' = 4 ∨ l.length = 0
    case neg =>
      have hA1 : ¬ k' = 4 := fun h => hA (Or.inl h)
      have hA2 : 0 < l.length := by omega
      have HAA := Lib.hid hA
      clear hA
      go_wp2
      go_ret
      exact ⟨false, rfl, hb01, by rw [HE.out, iff_false_right (fun h => absurd h.2.2.2.1 HAA.out)]; simp⟩
    by_cases hB : k' = 5 ∨ f.length = 0
    case neg =>
      have hB1 : ¬ k' = 5 := fun h => hB (Or.inl h)
      have hB2 : 0 < f.length := by omega
      have HBB := Lib.hid hB
      clear hB
      by_cases hA1 : k' = 4
      · clear hA
        go_wp2
        go_ret
        exact ⟨false, rfl, hb01, by rw [HE.out, iff_false_right (fun h => absurd h.2.2.2.2.1 HBB.out)]; simp⟩
      · have hA2 : l.length = 0 := by omega
        clear hA
        go_wp2
        go_ret
        exact ⟨false, rfl, hb01, by rw [HE.out, iff_false_right (fun h => absurd h.2.2.2.2.1 HBB.out)]; simp⟩
    rcases (show (k' = 4 ∧ f.length = 0) ∨ (k' = 5 ∧ l.length = 0) ∨ (¬ k' = 4 ∧ ¬ k' = 5 ∧ l.length = 0 ∧ f.length = 0) by omega) with ⟨hk1, hk2⟩ | ⟨hk1, hk2⟩ | ⟨hk1, hk2, hk3, hk4⟩
    · subst hk1
      go_wp2
      have HK := Lib.hid (show f.length = 0 from hk2)
      clear hk2
      clear s0 s3 s4
      have R0 := Lib.hid (And.intro hb01 o1)
      clear hb01 o1
      go_loopg [5] l.length (fun g i wr => ∃ k : Nat, k ≤ l.length ∧ g = l.length - k ∧ i = .int .i64 k ∧ Hid (AllP (Val d) l k) ∧ Below w.heap.size w wr ∧ Own wr w.heap.size [.int .i64 4, .int .i64 n', sV s', .slice la l.length lc, .slice fa f.length fc] 25)
      case atStart =>
        obtain ⟨hw0, o0⟩ := R0.out
        exact ⟨0, Nat.zero_le _, rfl, rfl, Lib.hid (AllP.zero _ _), hw0, o0⟩
      case round =>
        obtain ⟨k, hk, hg, rfl, HA, hb, o0⟩ := hrel
        have HG := Lib.hid hg
        clear hg R0
        have s3 : wr.cell? ⟨w.heap.size, 3, none⟩ = some (.slice la l.length lc) := o0.cell rfl
        by_cases hlt : k < l.length
        · skip
          have hx := List.getElem?_eq_getElem hlt
          generalize l[k] = x at hx
          obtain ⟨b, off, c, rfl, hbl, hI, q0, q1, q2, q3, q4⟩ := hl.at hb hx
          have hsz : SizeOf.sizeOf x ≤ N := by have := sizeOf_l (k := 4) (n := n') (s := s') (f := f) (List.mem_of_getElem? hx); omega
          have HH := Lib.hid (And.intro hb (And.intro o0 hx))
          have IH := Lib.hid (ih x hsz c _ d hI (nice_mem_l hx HNI.out.2.1) (by have := size_mem_l hx; have := sizeF_nonneg f; omega) (by omega))
          have hdd : (((d + 1 : Nat) : Int) - 1) = (d : Int) := by omega
          clear hI hb o0 hx ih
          go_wp2_with fail
          refine IH.out.mono ?_
          rintro e w3 ⟨⟨r, rfl, hb3, hy⟩⟩
          have HY := Lib.hid hy
          clear hy
          cases r with
          | true =>
            go_wp2
            obtain ⟨hbb, oo, hx⟩ := HH.out
            go_roundg (l.length - (k + 1))
            case measure => have := HG.out; omega
            case rel => exact ⟨k + 1, by omega, rfl, by go_num, Lib.hid (HA.out.succ hx (HY.out.1 (by simp))), below_all hbb hb3, oo.all hb3⟩
          | false =>
            go_wp2
            obtain ⟨hbb, oo, hx⟩ := HH.out
            go_ret
            exact ⟨false, rfl, below_all hbb hb3, by rw [HE.out, iff_false_right (fun h => absurd (HY.out.2 (h.2.2.2.2.2.2.1 x (List.mem_of_getElem? hx))) (by simp))]; simp⟩
        · obtain rfl : k = l.length := by omega
          clear hl
          have s4 : wr.cell? ⟨w.heap.size, 4, none⟩ = some (.slice fa f.length fc) := o0.cell rfl
          go_wp2
          generalize wr = W1 at *
          clear s3 s4
          have R1 := Lib.hid (And.intro hb o0)
          clear hb o0
          go_loopg [6] f.length (fun g i wr => ∃ k : Nat, k ≤ f.length ∧ g = f.length - k ∧ i = .int .i64 k ∧ Hid (NmTo f k) ∧ Hid (AllP (fun p => Val d p.2) f k) ∧ Below w.heap.size w wr ∧ Own wr w.heap.size [.int .i64 4, .int .i64 n', sV s', .slice la l.length lc, .slice fa f.length fc] 25)
          case atStart =>
            obtain ⟨hw0, o0⟩ := R1.out
            exact ⟨0, Nat.zero_le _, rfl, rfl, Lib.hid (NmTo.zero f), Lib.hid (AllP.zero _ _), hw0, o0⟩
          case round =>
            obtain ⟨k, hk, hg, rfl, HM, HB, hb, o0⟩ := hrel
            have HG := Lib.hid hg
            clear hg R1
            have s4 : wr.cell? ⟨w.heap.size, 4, none⟩ = some (.slice fa f.length fc) := o0.cell rfl
            by_cases hlt : k < f.length
            · exfalso; have := HK.out; omega
            · obtain rfl : k = f.length := by omega
              go_wp2
              go_ret
              exact ⟨true, rfl, hb, by rw [HE.out]; exact iff_of_true rfl ⟨HS.out, hl64, hf64, hA, hB, HM.out, HA.out.full, HB.out.full⟩⟩
    · subst hk1
      go_wp2
      have HK := Lib.hid (show l.length = 0 from hk2)
      clear hk2
      clear s0 s3 s4
      have R0 := Lib.hid (And.intro hb01 o1)
      clear hb01 o1
      go_loopg [5] l.length (fun g i wr => ∃ k : Nat, k ≤ l.length ∧ g = l.length - k ∧ i = .int .i64 k ∧ Hid (AllP (Val d) l k) ∧ Below w.heap.size w wr ∧ Own wr w.heap.size [.int .i64 5, .int .i64 n', sV s', .slice la l.length lc, .slice fa f.length fc] 25)
      case atStart =>
        obtain ⟨hw0, o0⟩ := R0.out
        exact ⟨0, Nat.zero_le _, rfl, rfl, Lib.hid (AllP.zero _ _), hw0, o0⟩
      case round =>
        obtain ⟨k, hk, hg, rfl, HA, hb, o0⟩ := hrel
        have HG := Lib.hid hg
        clear hg R0
        have s3 : wr.cell? ⟨w.heap.size, 3, none⟩ = some (.slice la l.length lc) := o0.cell rfl
        by_cases hlt : k < l.length
        · exfalso; have := HK.out; omega
        · obtain rfl : k = l.length := by omega
          clear hl
          have s4 : wr.cell? ⟨w.heap.size, 4, none⟩ = some (.slice fa f.length fc) := o0.cell rfl
          go_wp2
          generalize wr = W1 at *
          clear s3 s4
          have R1 := Lib.hid (And.intro hb o0)
          clear hb o0
          go_loopg [6] f.length (fun g i wr => ∃ k : Nat, k ≤ f.length ∧ g = f.length - k ∧ i = .int .i64 k ∧ Hid (NmTo f k) ∧ Hid (AllP (fun p => Val d p.2) f k) ∧ Below w.heap.size w wr ∧ Own wr w.heap.size [.int .i64 5, .int .i64 n', sV s', .slice la l.length lc, .slice fa f.length fc] 25)
          case atStart =>
            obtain ⟨hw0, o0⟩ := R1.out
            exact ⟨0, Nat.zero_le _, rfl, rfl, Lib.hid (NmTo.zero f), Lib.hid (AllP.zero _ _), hw0, o0⟩
          case round =>
            obtain ⟨k, hk, hg, rfl, HM, HB, hb, o0⟩ := hrel
            have HG := Lib.hid hg
            clear hg R1
            have s4 : wr.cell? ⟨w.heap.size, 4, none⟩ = some (.slice fa f.length fc) := o0.cell rfl
            by_cases hlt : k < f.length
            · skip
              have hx := List.getElem?_eq_getElem hlt
              generalize f[k] = p at hx
              obtain ⟨b, off, c, rfl, hbl, hI, q, q0, q1, q2, q3, q4⟩ := hf.at hb hx
              have hsz : SizeOf.sizeOf p.2 ≤ N := by have := sizeOf_f (k := 5) (n := n') (s := s') (l := l) (List.mem_of_getElem? hx); omega
              have hnn := nice_mem_f hx HNI.out.2.2
              have hss : p.2.size ≤ 4000 := by have := size_mem_f hx; have := sizeL_nonneg l; omega
              go_wp2
              have z4 := cell_regrown s4
              have z := cell_regrown q
              have z0 := cell_regrown q0
              have z1 := cell_regrown q1
              have z2 := cell_regrown q2
              have z3 := cell_regrown q3
              have z5 := cell_regrown q4
              have cN : ∀ dd os, Calls Try.prog 46 #[.string ⟨p.1.toArray⟩] (grow (redrawn wr dd) os) fun e w'' => e = .returned (.bool (nameOk p.1)) ∧ ∃ p : Regrown, w'' = grow (redrawn wr p.d) p.os := fun dd os => (rvalidField_any p.1 _ hnn.1).mono (fun e w'' h => ⟨h.1, ⟨⟨dd, os⟩, h.2.symm⟩⟩)
              have hdd : (((d + 1 : Nat) : Int) - 1) = (d : Int) := by omega
              have cV : ∀ dd os, Calls Try.prog 37 #[c.val, .int .i64 (d : Int)] (grow (redrawn wr dd) os) fun e w'' => e = .returned (.bool (decide (Val d p.2))) ∧ ∃ p : Regrown, w'' = grow (redrawn wr p.d) p.os := fun dd os => Calls.regrown_of ((ih p.2 hsz c _ d (hI.all (below_regrown wr dd os)) hnn.2 hss (by omega)).mono (fun e w'' h => by
                obtain ⟨r, h1, h2, h3⟩ := h.out
                refine ⟨?_, h2⟩
                rw [h1]; congr 2; rw [Bool.eq_iff_iff, h3]; simp))
              have HH := Lib.hid (And.intro hb (And.intro o0 hx))
              clear hb o0 hx hI ih
              cases hok : nameOk p.1
              · refine wp_region_quiet_below (by kernel_rfl) (by kernel_rfl) ?_
                repeat (first | go_big_quiet_step ((first | with_reducible exact cN _ _ | with_reducible exact cV _ _)) | quiet_step (first | with_reducible exact cN _ _ | with_reducible exact cV _ _))
                refine wpQuiet_nil ?_
                intro _ hw'
                obtain ⟨⟨dq, osq⟩, hw''⟩ := hw'
                subst hw''
                obtain ⟨hb, o0, hx⟩ := HH.out
                have hbq := below_all hb (below_regrown wr dq osq)
                have oq := o0.all (below_regrown wr dq osq)
                clear hb o0
                go_wp2
                go_ret
                exact ⟨false, rfl, hbq, by rw [HE.out, iff_false_right (fun h => absurd h.2.2.2.2.2.1 (NmTo.no hx hok))]; simp⟩
              · by_cases hp : 0 < k
                · have hy := get_some (show k - 1 < f.length by omega)
                  generalize f[k - 1] = p' at hy
                  obtain ⟨b', off', c', he, hbl', hI', q', -⟩ := hf.at HH.out.1 hy
                  cases he
                  clear hI'
                  have HY := Lib.hid hy
                  clear hy
                  have zz := cell_regrown q'
                  have hpd : decide ((0 : Int) < (k : Int)) = true := decide_eq_true (by omega)
                  rcases good_str.tri p'.1 p.1 trivial trivial with hyx | hyx | hyx
                  case inr.inl =>
                    have e1 : Op.bytesLess p.1 p'.1 = false := less_not.2 (by rw [good_str.anti p'.1 p.1 trivial trivial]; omega)
                    have e2 : (p.1 == p'.1) = true := by rw [cmpS_zero hyx]; simp
                    have HX := Lib.hid hyx
                    clear hyx
                    refine wp_region_quiet_below (by kernel_rfl) (by kernel_rfl) ?_
                    repeat (first | go_big_quiet_step ((first | with_reducible exact cN _ _ | with_reducible exact cV _ _)) | quiet_step (first | with_reducible exact cN _ _ | with_reducible exact cV _ _))
                    refine wpQuiet_nil ?_
                    intro _ hw'
                    obtain ⟨⟨dq, osq⟩, hw''⟩ := hw'
                    subst hw''
                    obtain ⟨hb, o0, hx⟩ := HH.out
                    have hbq := below_all hb (below_regrown wr dq osq)
                    have oq := o0.all (below_regrown wr dq osq)
                    clear hb o0
                    go_wp2
                    go_ret
                    exact ⟨false, rfl, hbq, by rw [HE.out, iff_false_right (fun h => absurd h.2.2.2.2.2.1 (NmTo.no_lt hx hp HY.out (by rw [HX.out]; omega)))]; simp⟩
                  case inr.inr =>
                    have e1 : Op.bytesLess p.1 p'.1 = true := less_iff.2 (by rw [good_str.anti p'.1 p.1 trivial trivial]; omega)
                    have HX := Lib.hid hyx
                    clear hyx
                    refine wp_region_quiet_below (by kernel_rfl) (by kernel_rfl) ?_
                    repeat (first | go_big_quiet_step ((first | with_reducible exact cN _ _ | with_reducible exact cV _ _)) | quiet_step (first | with_reducible exact cN _ _ | with_reducible exact cV _ _))
                    refine wpQuiet_nil ?_
                    intro _ hw'
                    obtain ⟨⟨dq, osq⟩, hw''⟩ := hw'
                    subst hw''
                    obtain ⟨hb, o0, hx⟩ := HH.out
                    have hbq := below_all hb (below_regrown wr dq osq)
                    have oq := o0.all (below_regrown wr dq osq)
                    clear hb o0
                    go_wp2
                    go_ret
                    exact ⟨false, rfl, hbq, by rw [HE.out, iff_false_right (fun h => absurd h.2.2.2.2.2.1 (NmTo.no_lt hx hp HY.out (by rw [HX.out]; omega)))]; simp⟩
                  · have e1 : Op.bytesLess p.1 p'.1 = false := less_not.2 (by rw [good_str.anti p'.1 p.1 trivial trivial]; omega)
                    have e2 : (p.1 == p'.1) = false := by rw [beq_eq_false_iff_ne]; intro h; rw [h, cmpS_refl] at hyx; omega
                    have HX := Lib.hid hyx
                    clear hyx
                    by_cases hv : Val d p.2
                    · have hvd : decide (Val d p.2) = true := decide_eq_true hv
                      have HV := Lib.hid hv
                      clear hv
                      refine wp_region_quiet_below (by kernel_rfl) (by kernel_rfl) ?_
                      repeat (first | go_big_quiet_step ((first | with_reducible exact cN _ _ | with_reducible exact cV _ _)) | quiet_step (first | with_reducible exact cN _ _ | with_reducible exact cV _ _))
                      refine wpQuiet_nil ?_
                      intro _ hw'
                      obtain ⟨⟨dq, osq⟩, hw''⟩ := hw'
                      subst hw''
                      obtain ⟨hb, o0, hx⟩ := HH.out
                      have hbq := below_all hb (below_regrown wr dq osq)
                      have oq := o0.all (below_regrown wr dq osq)
                      clear hb o0
                      go_wp2
                      go_roundg (f.length - (k + 1))
                      case measure => have := HG.out; omega
                      case rel => exact ⟨k + 1, by omega, rfl, by go_num, Lib.hid (HM.out.succ hx hok (fun q _ hq => by rw [HY.out] at hq; cases hq; exact HX.out)), Lib.hid (HB.out.succ hx HV.out), hbq, oq⟩
                    · have hvd : decide (Val d p.2) = false := decide_eq_false hv
                      have HV := Lib.hid hv
                      clear hv
                      refine wp_region_quiet_below (by kernel_rfl) (by kernel_rfl) ?_
                      repeat (first | go_big_quiet_step ((first | with_reducible exact cN _ _ | with_reducible exact cV _ _)) | quiet_step (first | with_reducible exact cN _ _ | with_reducible exact cV _ _))
                      refine wpQuiet_nil ?_
                      intro _ hw'
                      obtain ⟨⟨dq, osq⟩, hw''⟩ := hw'
                      subst hw''
                      obtain ⟨hb, o0, hx⟩ := HH.out
                      have hbq := below_all hb (below_regrown wr dq osq)
                      have oq := o0.all (below_regrown wr dq osq)
                      clear hb o0
                      go_wp2
                      go_ret
                      exact ⟨false, rfl, hbq, by rw [HE.out, iff_false_right (fun h => HV.out (h.2.2.2.2.2.2.2 p (List.mem_of_getElem? hx)))]; simp⟩
                · have hp2 : ¬ (0 : Int) < (k : Int) := by omega
                  have HP := Lib.hid hp
                  by_cases hv : Val d p.2
                  · have hvd : decide (Val d p.2) = true := decide_eq_true hv
                    have HV := Lib.hid hv
                    clear hv
                    refine wp_region_quiet_below (by kernel_rfl) (by kernel_rfl) ?_
                    repeat (first | go_big_quiet_step ((first | with_reducible exact cN _ _ | with_reducible exact cV _ _)) | quiet_step (first | with_reducible exact cN _ _ | with_reducible exact cV _ _))
                    refine wpQuiet_nil ?_
                    intro _ hw'
                    obtain ⟨⟨dq, osq⟩, hw''⟩ := hw'
                    subst hw''
                    obtain ⟨hb, o0, hx⟩ := HH.out
                    have hbq := below_all hb (below_regrown wr dq osq)
                    have oq := o0.all (below_regrown wr dq osq)
                    clear hb o0
                    go_wp2
                    go_roundg (f.length - (k + 1))
                    case measure => have := HG.out; omega
                    case rel => exact ⟨k + 1, by omega, rfl, by go_num, Lib.hid (HM.out.succ hx hok (fun q h => absurd h HP.out)), Lib.hid (HB.out.succ hx HV.out), hbq, oq⟩
                  · have hvd : decide (Val d p.2) = false := decide_eq_false hv
                    have HV := Lib.hid hv
                    clear hv
                    refine wp_region_quiet_below (by kernel_rfl) (by kernel_rfl) ?_
                    repeat (first | go_big_quiet_step ((first | with_reducible exact cN _ _ | with_reducible exact cV _ _)) | quiet_step (first | with_reducible exact cN _ _ | with_reducible exact cV _ _))
                    refine wpQuiet_nil ?_
                    intro _ hw'
                    obtain ⟨⟨dq, osq⟩, hw''⟩ := hw'
                    subst hw''
                    obtain ⟨hb, o0, hx⟩ := HH.out
                    have hbq := below_all hb (below_regrown wr dq osq)
                    have oq := o0.all (below_regrown wr dq osq)
                    clear hb o0
                    go_wp2
                    go_ret
                    exact ⟨false, rfl, hbq, by rw [HE.out, iff_false_right (fun h => HV.out (h.2.2.2.2.2.2.2 p (List.mem_of_getElem? hx)))]; simp⟩
            · obtain rfl : k = f.length := by omega
              go_wp2
              go_ret
              exact ⟨true, rfl, hb, by rw [HE.out]; exact iff_of_true rfl ⟨HS.out, hl64, hf64, hA, hB, HM.out, HA.out.full, HB.out.full⟩⟩
    · go_wp2
      have HK := Lib.hid (show l.length = 0 ∧ f.length = 0 from ⟨hk3, hk4⟩)
      clear hk1 hk2 hk3 hk4
      clear s0 s3 s4
      have R0 := Lib.hid (And.intro hb01 o1)
      clear hb01 o1
      go_loopg [5] l.length (fun g i wr => ∃ k : Nat, k ≤ l.length ∧ g = l.length - k ∧ i = .int .i64 k ∧ Hid (AllP (Val d) l k) ∧ Below w.heap.size w wr ∧ Own wr w.heap.size [.int .i64 k', .int .i64 n', sV s', .slice la l.length lc, .slice fa f.length fc] 25)
      case atStart =>
        obtain ⟨hw0, o0⟩ := R0.out
        exact ⟨0, Nat.zero_le _, rfl, rfl, Lib.hid (AllP.zero _ _), hw0, o0⟩
      case round =>
        obtain ⟨k, hk, hg, rfl, HA, hb, o0⟩ := hrel
        have HG := Lib.hid hg
        clear hg R0
        have s3 : wr.cell? ⟨w.heap.size, 3, none⟩ = some (.slice la l.length lc) := o0.cell rfl
        by_cases hlt : k < l.length
        · exfalso; have := HK.out; omega
        · obtain rfl : k = l.length := by omega
          clear hl
          have s4 : wr.cell? ⟨w.heap.size, 4, none⟩ = some (.slice fa f.length fc) := o0.cell rfl
          go_wp2
          generalize wr = W1 at *
          clear s3 s4
          have R1 := Lib.hid (And.intro hb o0)
          clear hb o0
          go_loopg [6] f.length (fun g i wr => ∃ k : Nat, k ≤ f.length ∧ g = f.length - k ∧ i = .int .i64 k ∧ Hid (NmTo f k) ∧ Hid (AllP (fun p => Val d p.2) f k) ∧ Below w.heap.size w wr ∧ Own wr w.heap.size [.int .i64 k', .int .i64 n', sV s', .slice la l.length lc, .slice fa f.length fc] 25)
          case atStart =>
            obtain ⟨hw0, o0⟩ := R1.out
            exact ⟨0, Nat.zero_le _, rfl, rfl, Lib.hid (NmTo.zero f), Lib.hid (AllP.zero _ _), hw0, o0⟩
          case round =>
            obtain ⟨k, hk, hg, rfl, HM, HB, hb, o0⟩ := hrel
            have HG := Lib.hid hg
            clear hg R1
            have s4 : wr.cell? ⟨w.heap.size, 4, none⟩ = some (.slice fa f.length fc) := o0.cell rfl
            by_cases hlt : k < f.length
            · exfalso; have := HK.out; omega
            · obtain rfl : k = f.length := by omega
              go_wp2
              go_ret
              exact ⟨true, rfl, hb, by rw [HE.out]; exact iff_of_true rfl ⟨HS.out, hl64, hf64, hA, hB, HM.out, HA.out.full, HB.out.full⟩⟩

set_option maxHeartbeats 400000 in
theorem rvalidtop_any (t : T) (c : VC) (w : World) (hI : Is w c t) (hni : t.nice) (hz : t.size ≤ 4000) :
    Calls Try.prog 23 #[c.val] w fun e w' => RB w (Val 12 t ∧ t.size ≤ 600) e w' := by
  obtain ⟨k', n', s', la, ln, lc, fa, fn, fc⟩ := c
  have hw0 : Below w.heap.size w (w.alloc (.cells #[.int .i64 k', .int .i64 n', sV s', .slice la ln lc, .slice fa fn fc] 25)) := (Below.refl _ _).alloc (Nat.le_refl _) _
  have o0 : Own (w.alloc (.cells #[.int .i64 k', .int .i64 n', sV s', .slice la ln lc, .slice fa fn fc] 25)) w.heap.size [.int .i64 k', .int .i64 n', sV s', .slice la ln lc, .slice fa fn fc] 25 := Own.new _ _ _
  have C := Lib.hid (rvalid_any _ t (Nat.le_refl _) ⟨k', n', s', la, ln, lc, fa, fn, fc⟩ _ 12 (hI.all hw0) hni hz (by omega))
  go_enter Try.func23, Try.ntmps23
  go_wp2_with fail
  refine C.out.mono ?_
  rintro e w2 ⟨⟨r, rfl, hb, hy⟩⟩
  have HY := Lib.hid hy
  have hb2 := below_all hw0 hb
  have o2 := o0.all hb
  have s0 := o2.cell (i := 0) rfl
  have s1 := o2.cell (i := 1) rfl
  have s2 := o2.cell (i := 2) rfl
  have s3 := o2.cell (i := 3) rfl
  have s4 := o2.cell (i := 4) rfl
  have S := Lib.hid (rsize_any _ t (Nat.le_refl _) ⟨k', n', s', la, ln, lc, fa, fn, fc⟩ _ (hI.all hb2) hz)
  clear hy hb hw0 o0 o2 hI C
  cases r with
  | false =>
    go_wp2
    go_ret
    exact ⟨false, rfl, hb2, by rw [iff_false_right (fun h => absurd (HY.out.2 h.1) (by simp))]; simp⟩
  | true =>
    go_wp2_with fail
    refine S.out.mono ?_
    rintro e w3 ⟨rfl, hb3⟩
    go_wp2
    go_ret
    exact ⟨_, rfl, below_all hb2 hb3, by rw [iff_true_intro (HY.out.1 (by simp)), true_and]; simp⟩
end Go.Proofs.Ytinenbgdkchghaa
