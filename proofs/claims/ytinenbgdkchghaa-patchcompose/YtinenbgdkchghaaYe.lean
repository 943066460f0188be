/- The reference: how many parts a value has (left, Few). -/
import Derived.Test.YtinenbgdkchghaaOf
import Derived.Test.YtinenbgdkchghaaGp
set_option linter.unusedSimpArgs false
set_option linter.unusedVariables false
namespace Go.Proofs.Ytinenbgdkchghaa
open Go.RowKit Go.Sort Go.Proofs.LawFrame

theorem T.strB_mk {B : Nat} {k n : Int} {s : Str} {l : List T} {f : List (Str × T)} (h : (T.mk k n s l f).strB B) : s.length ≤ B ∧ (∀ (i : Nat) (t : T), l[i]? = some t → t.strB B) ∧ ∀ (i : Nat) (p : Str × T), f[i]? = some p → p.1.length ≤ B ∧ p.2.strB B := by
  rw [T.strB] at h; exact ⟨h.1, strBL_iff.1 h.2.1, strBF_iff.1 h.2.2⟩
mutual
/-- how many parts there may still be -/
def leftT : T → Int → Int
  | .mk _ _ s l f, m => leftF f (leftL l (m - 1 - (s.length : Int)))
def leftL : List T → Int → Int
  | [], m => m
  | t :: r, m => if m < 0 then m else leftL r (leftT t m)
def leftF : List (Str × T) → Int → Int
  | [], m => m
  | (x, t) :: r, m => if m < 0 then m else leftF r (leftT t (m - (x.length : Int)))
end
theorem leftL_neg {l : List T} {m : Int} (h : m < 0) : leftL l m = m := by cases l with
  | nil => rw [leftL]
  | cons t r => rw [leftL, if_pos h]
theorem leftF_neg {l : List (Str × T)} {m : Int} (h : m < 0) : leftF l m = m := by cases l with
  | nil => rw [leftF]
  | cons t r => obtain ⟨x, t⟩ := t; rw [leftF, if_pos h]
theorem leftL_step {l : List T} {m : Int} {k : Nat} {t : T} (h : l[k]? = some t) (hm : 0 ≤ m) : leftL (l.drop k) m = leftL (l.drop (k + 1)) (leftT t m) := by
  obtain ⟨hk, rfl⟩ := List.getElem?_eq_some_iff.1 h
  rw [List.drop_eq_getElem_cons hk, leftL, if_neg (by omega)]
theorem leftF_step {l : List (Str × T)} {m : Int} {k : Nat} {p : Str × T} (h : l[k]? = some p) (hm : 0 ≤ m) : leftF (l.drop k) m = leftF (l.drop (k + 1)) (leftT p.2 (m - (p.1.length : Int))) := by
  obtain ⟨hk, rfl⟩ := List.getElem?_eq_some_iff.1 h
  rw [List.drop_eq_getElem_cons hk, leftF, if_neg (by omega)]
theorem left_le : ∀ (N : Nat) (t : T), SizeOf.sizeOf t ≤ N → ∀ m : Int, t.strB 140737488355328 → -281474976710656 ≤ m → m ≤ 3000 → -562949953421312 ≤ leftT t m ∧ leftT t m ≤ m ∧ (0 ≤ leftT t m → t.size + leftT t m ≤ m ∧ t.nice) := by
  intro N
  induction N with
  | zero => rintro ⟨k, n, s, l, f⟩ h; simp at h
  | succ N ih =>
    rintro ⟨k, n, s, l, f⟩ hN m hst hm hm2
    obtain ⟨hs0, hsl, hsf⟩ := T.strB_mk hst
    have hL : ∀ (r : List T), (∀ t ∈ r, t ∈ l) → ∀ q : Int, q ≤ 3000 → -562949953421312 ≤ q → -562949953421312 ≤ leftL r q ∧ leftL r q ≤ q ∧ (0 ≤ leftL r q → sizeL r + leftL r q ≤ q ∧ niceL r) := by
      intro r
      induction r with
      | nil => intro _ q h1 h2; rw [leftL]; simp [sizeL, niceL]; omega
      | cons t r ihr =>
        intro hr q h1 h2
        rw [leftL, sizeL, niceL]
        by_cases hq : q < 0
        · rw [if_pos hq]; exact ⟨h2, Int.le_refl _, fun h => absurd h (by omega)⟩
        · rw [if_neg hq]
          have htl := hr t (by simp)
          obtain ⟨i, hi⟩ := List.getElem?_of_mem htl
          have hsz : SizeOf.sizeOf t ≤ N := by have := sizeOf_l (k := k) (n := n) (s := s) (f := f) htl; omega
          obtain ⟨a1, a2, a3⟩ := ih t hsz q (hsl i t hi) (by omega) h1
          obtain ⟨b1, b2, b3⟩ := ihr (fun u hu => hr u (by simp [hu])) (leftT t q) (by omega) a1
          refine ⟨b1, by omega, fun h => ?_⟩
          obtain ⟨c1, c2⟩ := b3 h
          have hp := sizeL_nonneg r
          obtain ⟨d1, d2⟩ := a3 (by omega)
          exact ⟨by omega, d2, c2⟩
    have hF : ∀ (r : List (Str × T)), (∀ t ∈ r, t ∈ f) → ∀ q : Int, q ≤ 3000 → -562949953421312 ≤ q → -562949953421312 ≤ leftF r q ∧ leftF r q ≤ q ∧ (0 ≤ leftF r q → sizeF r + leftF r q ≤ q ∧ niceF r) := by
      intro r
      induction r with
      | nil => intro _ q h1 h2; rw [leftF]; simp [sizeF, niceF]; omega
      | cons p r ihr =>
        intro hr q h1 h2
        obtain ⟨x, t⟩ := p
        rw [leftF, sizeF, niceF]
        by_cases hq : q < 0
        · rw [if_pos hq]; exact ⟨h2, Int.le_refl _, fun h => absurd h (by omega)⟩
        · rw [if_neg hq]
          have htl := hr (x, t) (by simp)
          obtain ⟨i, hi⟩ := List.getElem?_of_mem htl
          have hsz : SizeOf.sizeOf t ≤ N := by have := sizeOf_f (k := k) (n := n) (s := s) (l := l) htl; simp only at this; omega
          have hx := hsf i (x, t) hi
          simp only at hx
          obtain ⟨a1, a2, a3⟩ := ih t hsz (q - (x.length : Int)) hx.2 (by omega) (by omega)
          obtain ⟨b1, b2, b3⟩ := ihr (fun u hu => hr u (by simp [hu])) (leftT t (q - (x.length : Int))) (by omega) a1
          refine ⟨b1, by omega, fun h => ?_⟩
          obtain ⟨c1, c2⟩ := b3 h
          have hp := sizeF_nonneg r
          obtain ⟨d1, d2⟩ := a3 (by omega)
          have := size_pos t
          exact ⟨by omega, by omega, d2, c2⟩
    rw [leftT, T.size, T.nice]
    obtain ⟨a1, a2, a3⟩ := hL l (fun t h => h) (m - 1 - (s.length : Int)) (by omega) (by omega)
    obtain ⟨b1, b2, b3⟩ := hF f (fun t h => h) _ (by omega) a1
    refine ⟨b1, by omega, fun h => ?_⟩
    obtain ⟨c1, c2⟩ := b3 h
    have hp := sizeF_nonneg f
    have hp2 := sizeL_nonneg l
    obtain ⟨d1, d2⟩ := a3 (by omega)
    exact ⟨by omega, by omega, d2, c2⟩
set_option maxHeartbeats 4000000 in
set_option maxRecDepth 4000 in
theorem left_any : ∀ (N : Nat) (t : T), SizeOf.sizeOf t ≤ N → ∀ (c : VC) (w : World) (m : Int), Is w c t → t.strB 140737488355328 → m ≤ 3000 → -281474976710656 ≤ m →
    Calls Try.prog 36 #[c.val, .int .i64 m] w fun e w' => e = .returned (.int .i64 (leftT t m)) ∧ Below w.heap.size w w' := by
  intro N
  induction N with
  | zero => rintro ⟨k, n, s, l, f⟩ h; simp at h
  | succ N ih =>
    rintro ⟨k, n, s, l, f⟩ hN ⟨k', n', s', la, ln, lc, fa, fn, fc⟩ w m hI hst hm1 hm2
    obtain ⟨rfl, rfl, rfl⟩ : k' = k ∧ n' = n ∧ s' = s := hI.same
    have hl := hI.vals
    have hf := hI.flds
    clear hI
    obtain ⟨rfl, hlc, hlm⟩ := hl.slice
    obtain ⟨rfl, hfc, hfm⟩ := hf.slice
    obtain ⟨hs0, hsl, hsf⟩ := T.strB_mk hst
    have HSF := Lib.hid (And.intro hsl hsf)
    have HLE : Hid (∀ t : T, t.strB 140737488355328 → ∀ m : Int, -281474976710656 ≤ m → m ≤ 3000 → -562949953421312 ≤ leftT t m ∧ leftT t m ≤ m) := Lib.hid (fun t h m h1 h2 => by have := left_le _ t (Nat.le_refl _) m h h1 h2; exact ⟨this.1, this.2.1⟩)
    clear hsl hsf hst
    unfold maxLen at hlm hfm
    rw [leftT]
    obtain ⟨R, hR⟩ : ∃ R, leftF f (leftL l (m - 1 - (s'.length : Int))) = R := ⟨_, rfl⟩
    rw [hR]
    have hw0 : Below w.heap.size w (w.alloc (.cells #[.int .i64 k', .int .i64 n', sV s', .slice la l.length lc, .slice fa f.length fc] 25)) := (Below.refl _ _).alloc (Nat.le_refl _) _
    go_enter Try.func36, Try.ntmps36
    go_wp2
    have o0 : Own (w.alloc (.cells #[.int .i64 k', .int .i64 n', sV s', .slice la l.length lc, .slice fa f.length fc] 25)) w.heap.size [.int .i64 k', .int .i64 n', sV s', .slice la l.length lc, .slice fa f.length fc] 25 := Own.new _ _ _
    generalize w.alloc (.cells #[.int .i64 k', .int .i64 n', sV s', .slice la l.length lc, .slice fa f.length fc] 25) = W at *
    have R0 := Lib.hid (And.intro hw0 (And.intro o0 hR))
    clear hw0 o0 hR
    go_loopg [1, 5] l.length (fun g sz i wr => ∃ (k : Nat) (r : Int), k ≤ l.length ∧ g = l.length - k ∧ i = .int .i64 k ∧ sz = .int .i64 r ∧ -562949953421312 ≤ r ∧ r ≤ 3000 ∧ Hid (leftF f (leftL (l.drop k) r) = R) ∧ Below w.heap.size w wr ∧ Own wr w.heap.size [.int .i64 k', .int .i64 n', sV s', .slice la l.length lc, .slice fa f.length fc] 25)
    case atStart =>
      obtain ⟨hw0, o0, hR⟩ := R0.out
      exact ⟨0, m - 1 - (s'.length : Int), Nat.zero_le _, rfl, rfl, by go_num, by omega, by omega, Lib.hid hR, hw0, o0⟩
    case round =>
      obtain ⟨k, r, hk, hg, rfl, rfl, hr1, hr2, HR, hb, o0⟩ := hrel
      have HG := Lib.hid hg
      clear hg R0
      have s3 : wr.cell? ⟨w.heap.size, 3, none⟩ = some (.slice la l.length lc) := o0.cell rfl
      by_cases hlt : k < l.length ∧ 0 ≤ r
      · obtain ⟨hlt, hr⟩ := hlt
        have hx := List.getElem?_eq_getElem hlt
        generalize l[k] = x at hx
        obtain ⟨b, off, c, rfl, hbl, hI, q0, q1, q2, q3, q4⟩ := hl.at hb hx
        have hsz : SizeOf.sizeOf x ≤ N := by have := sizeOf_l (k := k') (n := n') (s := s') (f := f) (List.mem_of_getElem? hx); omega
        have hle := HLE.out x (HSF.out.1 k x hx) r (by omega) hr2
        have IH := Lib.hid (ih x hsz c wr r hI (HSF.out.1 k x hx) (by omega) (by omega))
        have HR2 : Hid (leftF f (leftL (l.drop (k + 1)) (leftT x r)) = R) := Lib.hid (by rw [← HR.out, leftL_step hx hr])
        have HH := Lib.hid (And.intro hb o0)
        generalize leftT x r = r' at *
        clear hI hb o0 hx ih HR
        go_wp2_with fail
        refine IH.out.mono ?_
        rintro e w2 ⟨rfl, hb2⟩
        go_wp2
        obtain ⟨hbb, oo⟩ := HH.out
        go_roundg (l.length - (k + 1))
        case measure => have := HG.out; omega
        case rel => exact ⟨k + 1, r', by omega, rfl, by go_num, rfl, by omega, by omega, HR2, below_all hbb hb2, oo.all hb2⟩
      · have HR2 : Hid (leftF f r = R) := Lib.hid (by
          rw [← HR.out]
          by_cases h0 : r < 0
          · rw [leftL_neg h0]
          · have : k = l.length := by omega
            rw [this, List.drop_length, leftL])
        clear HR hl
        have s4 : wr.cell? ⟨w.heap.size, 4, none⟩ = some (.slice fa f.length fc) := o0.cell rfl
        have hlt2 : ¬ k < l.length ∨ (k < l.length ∧ r < 0) := by omega
        clear hlt
        rcases hlt2 with hlt | ⟨hlt, hr⟩
        all_goals
          go_wp2
          generalize wr = W1 at *
          clear s3 s4
          have R1 := Lib.hid (And.intro hb o0)
          clear hb o0
          go_loopg [1, 6] f.length (fun g sz i wr => ∃ (k : Nat) (r : Int), k ≤ f.length ∧ g = f.length - k ∧ i = .int .i64 k ∧ sz = .int .i64 r ∧ -562949953421312 ≤ r ∧ r ≤ 3000 ∧ Hid (leftF (f.drop k) r = R) ∧ Below w.heap.size w wr ∧ Own wr w.heap.size [.int .i64 k', .int .i64 n', sV s', .slice la l.length lc, .slice fa f.length fc] 25)
          case atStart =>
            obtain ⟨hw0, o0⟩ := R1.out
            exact ⟨0, r, Nat.zero_le _, rfl, rfl, rfl, by omega, by omega, HR2, hw0, o0⟩
          case round =>
            clear hr1 hr2 HR2 hk hlt HG R1
            obtain ⟨k, r, hk, hg, rfl, rfl, hr1, hr2, HR, hb, o0⟩ := hrel
            have HG := Lib.hid hg
            clear hg
            have s4 : wr.cell? ⟨w.heap.size, 4, none⟩ = some (.slice fa f.length fc) := o0.cell rfl
            by_cases hlt : k < f.length ∧ 0 ≤ r
            · obtain ⟨hlt, hr⟩ := hlt
              have hx := List.getElem?_eq_getElem hlt
              generalize f[k] = p at hx
              obtain ⟨b, off, c, rfl, hbl, hI, q, q0, q1, q2, q3, q4⟩ := hf.at hb hx
              have hsz : SizeOf.sizeOf p.2 ≤ N := by have := sizeOf_f (k := k') (n := n') (s := s') (l := l) (List.mem_of_getElem? hx); omega
              have hpn := (HSF.out.2 k p hx).1
              have hle := HLE.out p.2 (HSF.out.2 k p hx).2 (r - (p.1.length : Int)) (by omega) (by omega)
              have cC : ∀ dd os, Calls Try.prog 36 #[c.val, .int .i64 (r - (p.1.length : Int))] (grow (redrawn wr dd) os) fun e w'' => e = .returned (.int .i64 (leftT p.2 (r - (p.1.length : Int)))) ∧ ∃ p : Regrown, w'' = grow (redrawn wr p.d) p.os := fun dd os => Calls.regrown_of (ih p.2 hsz c _ (r - (p.1.length : Int)) (hI.all (below_regrown wr dd os)) (HSF.out.2 k p hx).2 (by omega) (by omega))
              have HR2 : Hid (leftF (f.drop (k + 1)) (leftT p.2 (r - (p.1.length : Int))) = R) := Lib.hid (by rw [← HR.out, leftF_step hx hr])
              have HH := Lib.hid (And.intro hb o0)
              generalize leftT p.2 (r - (p.1.length : Int)) = r' at *
              have z4 := cell_regrown s4
              have z := cell_regrown q
              have z0 := cell_regrown q0
              have z1 := cell_regrown q1
              have z2 := cell_regrown q2
              have z3 := cell_regrown q3
              have z5 := cell_regrown q4
              clear hI hb o0 hx ih HR
              go_upto_region 9 with (fail)
              refine wp_region_quiet_below (by kernel_rfl) (by kernel_rfl) ?_
              repeat (first | go_big_quiet_step (with_reducible exact cC _ _) | quiet_step (with_reducible exact cC _ _))
              refine wpQuiet_nil ?_
              intro _ hw'
              obtain ⟨⟨dq, osq⟩, hw''⟩ := hw'
              subst hw''
              obtain ⟨hbb, oo⟩ := HH.out
              have hb3 := below_all hbb (below_regrown wr dq osq)
              have o3 := oo.all (below_regrown wr dq osq)
              clear cC z4 z z0 z1 z2 z3 z5 s4 q q0 q1 q2 q3 q4 hbb oo
              generalize grow (redrawn wr dq) osq = W3 at *
              go_wp2
              go_roundg (f.length - (k + 1))
              case measure => have := HG.out; omega
              case rel => exact ⟨k + 1, r', by omega, rfl, by go_num, rfl, by omega, by omega, HR2, hb3, o3⟩
            · have HR2 : Hid (r = R) := Lib.hid (by
                rw [← HR.out]
                by_cases h0 : r < 0
                · rw [leftF_neg h0]
                · have : k = f.length := by omega
                  rw [this, List.drop_length, leftF])
              have hlt2 : ¬ k < f.length ∨ (k < f.length ∧ r < 0) := by omega
              clear hlt
              rcases hlt2 with hlt | ⟨hlt, hr⟩
              · go_wp2
                go_ret
                exact ⟨ret_int HR2.out, hb⟩
              · go_wp2
                go_ret
                exact ⟨ret_int HR2.out, hb⟩
set_option maxHeartbeats 400000 in
theorem few3000_any (t : T) (c : VC) (w : World) (hI : Is w c t) (hst : t.strB 140737488355328) :
    Calls Try.prog 22 #[c.val, .int .i64 3000] w fun e w' => e = .returned (.bool (decide (0 ≤ leftT t 3000))) ∧ Below w.heap.size w w' := by
  obtain ⟨k', n', s', la, ln, lc, fa, fn, fc⟩ := c
  go_enter Try.func22, Try.ntmps22
  have hw0 : Below w.heap.size w (w.alloc (.cells #[.int .i64 k', .int .i64 n', sV s', .slice la ln lc, .slice fa fn fc] 25)) := (Below.refl _ _).alloc (Nat.le_refl _) _
  have C := Lib.hid (left_any _ t (Nat.le_refl _) ⟨k', n', s', la, ln, lc, fa, fn, fc⟩ _ 3000 (hI.all hw0) hst (by omega) (by omega))
  clear hI
  generalize leftT t 3000 = r at *
  go_wp2_with fail
  refine C.out.mono ?_
  rintro e w2 ⟨rfl, hb⟩
  go_wp2
  go_ret
  exact ⟨rfl, below_all hw0 hb⟩
theorem few3000 {t : T} (hst : t.strB 140737488355328) (h : decide (0 ≤ leftT t 3000) = true) : t.size ≤ 3000 ∧ t.nice := by
  have := left_le _ t (Nat.le_refl _) 3000 hst (by omega) (by omega)
  have := this.2.2 (by simpa using h)
  exact ⟨by have := of_decide_eq_true h; omega, this.2⟩
end Go.Proofs.Ytinenbgdkchghaa
