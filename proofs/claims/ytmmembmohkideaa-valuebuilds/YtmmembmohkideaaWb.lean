/- Contracts of count, Small and small. -/
import Derived.Test.YtmmembmohkideaaWa
namespace Go.Proofs.Ytmmembmohkideaa
open Go.RowKit Go.Sort Go.Proofs.LawFrame

set_option maxHeartbeats 2000000 in
theorem count_any : ∀ (N : Nat) (t : T), SizeOf.sizeOf t ≤ N → ∀ (c : VC) (w : World) (m d : Int), Is w c t → m ≤ 1000 → d ≤ 1000 → -1000 ≤ m → -1000 ≤ d →
    Calls Try.prog 57 #[c.val, .int .i64 m, .int .i64 d] w fun e w' => ∃ r : Int, e = .returned (.int .i64 r) ∧ Below w.heap.size w w' ∧ -1000 ≤ r ∧ r ≤ 1000 ∧ (0 ≤ r → t.size + r ≤ m ∧ t.nice) := by
  intro N
  induction N with
  | zero => rintro ⟨k, n, s, l, f⟩ h; simp at h
  | succ N ih =>
    rintro ⟨k, n, s, l, f⟩ hN ⟨k', n', s', la, ln, lc, fa, fn, fc⟩ w m d hI hm1 hd1 hm2 hd2
    obtain ⟨rfl, rfl, rfl⟩ : k' = k ∧ n' = n ∧ s' = s := hI.same
    have hl := hI.vals
    have hf := hI.flds
    clear hI
    obtain ⟨rfl, hlc, hlm⟩ := hl.slice
    obtain ⟨rfl, hfc, hfm⟩ := hf.slice
    unfold maxLen at hlm hfm
    rw [T.size, T.nice]
    have hw0 : Below w.heap.size w (w.alloc (.cells #[.int .i64 k', .int .i64 n', sV s', .slice la l.length lc, .slice fa f.length fc] 25)) := (Below.refl _ _).alloc (Nat.le_refl _) _
    by_cases g1 : m ≤ 0
    · go_enter Try.func57, Try.ntmps57
      go_wp2
      go_ret
      exact ⟨-1, rfl, hw0, by omega, by omega, fun h => absurd h (by omega)⟩
    by_cases g2 : d ≤ 0
    · go_enter Try.func57, Try.ntmps57
      go_wp2
      go_ret
      exact ⟨-1, rfl, hw0, by omega, by omega, fun h => absurd h (by omega)⟩
    by_cases g3 : 1000 < s'.length
    · go_enter Try.func57, Try.ntmps57
      go_wp2
      go_ret
      exact ⟨-1, rfl, hw0, by omega, by omega, fun h => absurd h (by omega)⟩
    go_enter Try.func57, Try.ntmps57
    go_wp2
    have o0 : Own (w.alloc (.cells #[.int .i64 k', .int .i64 n', sV s', .slice la l.length lc, .slice fa f.length fc] 25)) w.heap.size [.int .i64 k', .int .i64 n', sV s', .slice la l.length lc, .slice fa f.length fc] 25 := Own.new _ _ _
    generalize w.alloc (.cells #[.int .i64 k', .int .i64 n', sV s', .slice la l.length lc, .slice fa f.length fc] 25) = W at *
    have R0 := Lib.hid (And.intro hw0 o0)
    clear hw0 o0
    go_loopg [1, 7] l.length (fun g sz i wr => ∃ (k : Nat) (r : Int), k ≤ l.length ∧ g = l.length - k ∧ i = .int .i64 k ∧ sz = .int .i64 r ∧ -1000 ≤ r ∧ r ≤ 1000 ∧ (0 ≤ r → 1 + sizeL (l.take k) + r ≤ m ∧ niceL (l.take k)) ∧ Below w.heap.size w wr ∧ Own wr w.heap.size [.int .i64 k', .int .i64 n', sV s', .slice la l.length lc, .slice fa f.length fc] 25)
    case atStart =>
      obtain ⟨hw0, o0⟩ := R0.out
      exact ⟨0, m - 1, Nat.zero_le _, rfl, rfl, rfl, by omega, by omega, fun _ => by simp [sizeL, niceL]; omega, hw0, o0⟩
    case round =>
      obtain ⟨k, r, hk, hg, rfl, rfl, hr1, hr2, hr3, hb, o0⟩ := hrel
      have HG := Lib.hid hg
      clear hg R0
      have s3 : wr.cell? ⟨w.heap.size, 3, none⟩ = some (.slice la l.length lc) := o0.cell rfl
      by_cases hlt : k < l.length ∧ 0 ≤ r
      · obtain ⟨hlt, hr⟩ := hlt
        obtain ⟨e1, e2⟩ := hr3 hr
        have hx := List.getElem?_eq_getElem hlt
        generalize l[k] = x at hx
        obtain ⟨b, off, c, rfl, hbl, hI, q0, q1, q2, q3, q4⟩ := hl.at hb hx
        have h1 := sizeL_succ hx
        have h2 := niceL_succ hx
        have hsz : SizeOf.sizeOf x ≤ N := by have := sizeOf_l (k := k') (n := n') (s := s') (f := f) (List.mem_of_getElem? hx); omega
        have HH := Lib.hid (And.intro hb (And.intro o0 (And.intro h1 (And.intro h2 (And.intro e1 e2)))))
        have IH := Lib.hid (ih x hsz c wr r (d - 1) hI (by omega) (by omega) (by omega) (by omega))
        clear hI hb o0 hx ih h1 h2 e1 e2 hr3
        go_wp2_with fail
        refine IH.out.mono ?_
        rintro e w2 ⟨r', rfl, hb2, k1, k2, k3⟩
        have K3 := Lib.hid k3
        clear k3
        go_wp2
        obtain ⟨hbb, oo, h1, h2, e1, e2⟩ := HH.out
        go_roundg (l.length - (k + 1))
        case measure => have := HG.out; omega
        case rel =>
          refine ⟨k + 1, r', by omega, rfl, by go_num, rfl, k1, k2, fun h => ?_, below_all hbb hb2, oo.all hb2⟩
          obtain ⟨a1, a2⟩ := K3.out h
          exact ⟨by rw [h1]; omega, h2.2 ⟨e2, a2⟩⟩
      · have hN1 : 0 ≤ r → k = l.length := fun h => by
          rcases Nat.lt_or_ge k l.length with h' | h'
          · exact absurd ⟨h', h⟩ hlt
          · omega
        have hr4 : 0 ≤ r → 1 + sizeL l + r ≤ m ∧ niceL l := fun h => by
          have := hr3 h; rw [hN1 h, List.take_length] at this; exact this
        have HR := Lib.hid hr4
        clear hr3 hN1 hr4 hl
        have s4 : wr.cell? ⟨w.heap.size, 4, none⟩ = some (.slice fa f.length fc) := o0.cell rfl
        have hlt2 : ¬ k < l.length ∨ (k < l.length ∧ r < 0) := by omega
        clear hlt
        rcases hlt2 with hlt | ⟨hlt, hr⟩
        · go_wp2
          generalize wr = W1 at *
          clear s3 s4
          have R1 := Lib.hid (And.intro hb o0)
          clear hb o0
          go_loopg [1, 8] f.length (fun g sz i wr => ∃ (k : Nat) (r : Int), k ≤ f.length ∧ g = f.length - k ∧ i = .int .i64 k ∧ sz = .int .i64 r ∧ -1000 ≤ r ∧ r ≤ 1000 ∧ (0 ≤ r → 1 + sizeL l + sizeF (f.take k) + r ≤ m ∧ niceL l ∧ niceF (f.take k)) ∧ Below w.heap.size w wr ∧ Own wr w.heap.size [.int .i64 k', .int .i64 n', sV s', .slice la l.length lc, .slice fa f.length fc] 25)
          case atStart =>
            obtain ⟨hw0, o0⟩ := R1.out
            exact ⟨0, r, Nat.zero_le _, rfl, rfl, rfl, by omega, by omega, fun h => by have := HR.out h; simp [sizeF, niceF]; exact this, hw0, o0⟩
          case round =>
            clear hr1 hr2 HR hk hlt HG R1
            obtain ⟨k, r, hk, hg, rfl, rfl, hr1, hr2, hr3, hb, o0⟩ := hrel
            have HG := Lib.hid hg
            clear hg
            have s4 : wr.cell? ⟨w.heap.size, 4, none⟩ = some (.slice fa f.length fc) := o0.cell rfl
            by_cases hlt : k < f.length ∧ 0 ≤ r
            · obtain ⟨hlt, hr⟩ := hlt
              obtain ⟨e1, e2, e3⟩ := hr3 hr
              have hx := List.getElem?_eq_getElem hlt
              generalize f[k] = p at hx
              obtain ⟨b, off, c, rfl, hbl, hI, q, q0, q1, q2, q3, q4⟩ := hf.at hb hx
              have h1 := sizeF_succ hx
              have h2 := niceF_succ hx
              have hsz : SizeOf.sizeOf p.2 ≤ N := by have := sizeOf_f (k := k') (n := n') (s := s') (l := l) (List.mem_of_getElem? hx); omega
              have HH := Lib.hid (And.intro hb (And.intro o0 (And.intro h1 (And.intro h2 (And.intro e1 (And.intro e2 e3))))))
              have IH := Lib.hid (ih p.2 hsz c wr r (d - 1) hI (by omega) (by omega) (by omega) (by omega))
              clear hI hb o0 hx ih h1 h2 e1 e2 e3 hr3
              by_cases hnm : 1000 < p.1.length
              · go_wp2
                go_ret
                exact ⟨-1, rfl, HH.out.1, by omega, by omega, fun h => absurd h (by omega)⟩
              · go_wp2_with fail
                refine IH.out.mono ?_
                rintro e w2 ⟨r', rfl, hb2, k1, k2, k3⟩
                have K3 := Lib.hid k3
                clear k3
                go_wp2
                obtain ⟨hbb, oo, h1, h2, e1, e2, e3⟩ := HH.out
                go_roundg (f.length - (k + 1))
                case measure => have := HG.out; omega
                case rel =>
                  refine ⟨k + 1, r', by omega, rfl, by go_num, rfl, k1, k2, fun h => ?_, below_all hbb hb2, oo.all hb2⟩
                  obtain ⟨a1, a2⟩ := K3.out h
                  exact ⟨by rw [h1]; omega, e2, h2.2 ⟨e3, by omega, a2⟩⟩
            · have hN1 : 0 ≤ r → k = f.length := fun h => by
                rcases Nat.lt_or_ge k f.length with h' | h'
                · exact absurd ⟨h', h⟩ hlt
                · omega
              have hr4 : 0 ≤ r → 1 + sizeL l + sizeF f + r ≤ m ∧ s'.length ≤ 1000 ∧ niceL l ∧ niceF f := fun h => by
                have := hr3 h; rw [hN1 h, List.take_length] at this; exact ⟨this.1, by omega, this.2⟩
              have HR := Lib.hid hr4
              clear hr3 hN1 hr4
              have hlt2 : ¬ k < f.length ∨ (k < f.length ∧ r < 0) := by omega
              clear hlt
              rcases hlt2 with hlt | ⟨hlt, hr⟩
              · go_wp2
                go_ret
                exact ⟨r, rfl, hb, hr1, hr2, HR.out⟩
              · go_wp2
                go_ret
                exact ⟨r, rfl, hb, hr1, hr2, HR.out⟩
        · go_wp2
          generalize wr = W1 at *
          clear s3 s4
          have R1 := Lib.hid (And.intro hb o0)
          clear hb o0
          go_loopg [1, 8] f.length (fun g sz i wr => ∃ (k : Nat) (r : Int), k ≤ f.length ∧ g = f.length - k ∧ i = .int .i64 k ∧ sz = .int .i64 r ∧ -1000 ≤ r ∧ r ≤ 1000 ∧ (0 ≤ r → 1 + sizeL l + sizeF (f.take k) + r ≤ m ∧ niceL l ∧ niceF (f.take k)) ∧ Below w.heap.size w wr ∧ Own wr w.heap.size [.int .i64 k', .int .i64 n', sV s', .slice la l.length lc, .slice fa f.length fc] 25)
          case atStart =>
            obtain ⟨hw0, o0⟩ := R1.out
            exact ⟨0, r, Nat.zero_le _, rfl, rfl, rfl, by omega, by omega, fun h => by have := HR.out h; simp [sizeF, niceF]; exact this, hw0, o0⟩
          case round =>
            clear hr1 hr2 HR hk hlt HG R1
            obtain ⟨k, r, hk, hg, rfl, rfl, hr1, hr2, hr3, hb, o0⟩ := hrel
            have HG := Lib.hid hg
            clear hg
            have s4 : wr.cell? ⟨w.heap.size, 4, none⟩ = some (.slice fa f.length fc) := o0.cell rfl
            by_cases hlt : k < f.length ∧ 0 ≤ r
            · obtain ⟨hlt, hr⟩ := hlt
              obtain ⟨e1, e2, e3⟩ := hr3 hr
              have hx := List.getElem?_eq_getElem hlt
              generalize f[k] = p at hx
              obtain ⟨b, off, c, rfl, hbl, hI, q, q0, q1, q2, q3, q4⟩ := hf.at hb hx
              have h1 := sizeF_succ hx
              have h2 := niceF_succ hx
              have hsz : SizeOf.sizeOf p.2 ≤ N := by have := sizeOf_f (k := k') (n := n') (s := s') (l := l) (List.mem_of_getElem? hx); omega
              have HH := Lib.hid (And.intro hb (And.intro o0 (And.intro h1 (And.intro h2 (And.intro e1 (And.intro e2 e3))))))
              have IH := Lib.hid (ih p.2 hsz c wr r (d - 1) hI (by omega) (by omega) (by omega) (by omega))
              clear hI hb o0 hx ih h1 h2 e1 e2 e3 hr3
              by_cases hnm : 1000 < p.1.length
              · go_wp2
                go_ret
                exact ⟨-1, rfl, HH.out.1, by omega, by omega, fun h => absurd h (by omega)⟩
              · go_wp2_with fail
                refine IH.out.mono ?_
                rintro e w2 ⟨r', rfl, hb2, k1, k2, k3⟩
                have K3 := Lib.hid k3
                clear k3
                go_wp2
                obtain ⟨hbb, oo, h1, h2, e1, e2, e3⟩ := HH.out
                go_roundg (f.length - (k + 1))
                case measure => have := HG.out; omega
                case rel =>
                  refine ⟨k + 1, r', by omega, rfl, by go_num, rfl, k1, k2, fun h => ?_, below_all hbb hb2, oo.all hb2⟩
                  obtain ⟨a1, a2⟩ := K3.out h
                  exact ⟨by rw [h1]; omega, e2, h2.2 ⟨e3, by omega, a2⟩⟩
            · have hN1 : 0 ≤ r → k = f.length := fun h => by
                rcases Nat.lt_or_ge k f.length with h' | h'
                · exact absurd ⟨h', h⟩ hlt
                · omega
              have hr4 : 0 ≤ r → 1 + sizeL l + sizeF f + r ≤ m ∧ s'.length ≤ 1000 ∧ niceL l ∧ niceF f := fun h => by
                have := hr3 h; rw [hN1 h, List.take_length] at this; exact ⟨this.1, by omega, this.2⟩
              have HR := Lib.hid hr4
              clear hr3 hN1 hr4
              have hlt2 : ¬ k < f.length ∨ (k < f.length ∧ r < 0) := by omega
              clear hlt
              rcases hlt2 with hlt | ⟨hlt, hr⟩
              · go_wp2
                go_ret
                exact ⟨r, rfl, hb, hr1, hr2, HR.out⟩
              · go_wp2
                go_ret
                exact ⟨r, rfl, hb, hr1, hr2, HR.out⟩
set_option maxHeartbeats 400000 in
theorem small_any (t : T) (c : VC) (w : World) (hI : Is w c t) :
    Calls Try.prog 9 #[c.val] w fun e w' => ∃ r : Bool, e = .returned (.bool r) ∧ Below w.heap.size w w' ∧ (r = true → t.size ≤ 400 ∧ t.nice) := by
  obtain ⟨k', n', s', la, ln, lc, fa, fn, fc⟩ := c
  have S : ∀ w : World, Is w ⟨k', n', s', la, ln, lc, fa, fn, fc⟩ t → Calls Try.prog 37 #[(⟨k', n', s', la, ln, lc, fa, fn, fc⟩ : VC).val, .int .i64 400] w fun e w' => ∃ r : Bool, e = .returned (.bool r) ∧ Below w.heap.size w w' ∧ (r = true → t.size ≤ 400 ∧ t.nice) := by
    intro w hI
    go_enter Try.func37, Try.ntmps37
    have hw0 : Below w.heap.size w (w.alloc (.cells #[.int .i64 k', .int .i64 n', sV s', .slice la ln lc, .slice fa fn fc] 25)) := (Below.refl _ _).alloc (Nat.le_refl _) _
    have C := Lib.hid (count_any _ t (Nat.le_refl _) ⟨k', n', s', la, ln, lc, fa, fn, fc⟩ _ 400 400 (hI.all hw0) (by omega) (by omega) (by omega) (by omega))
    clear hI
    go_wp2_with fail
    refine C.out.mono ?_
    rintro e w2 ⟨r, rfl, hb, h1, h2, h3⟩
    have H3 := Lib.hid h3
    clear h3
    go_wp2
    go_ret
    exact ⟨_, rfl, below_all hw0 hb, fun h => by have := H3.out (by simpa using h); have := this.1; exact ⟨by simp at h; omega, by simp_all⟩⟩
  go_enter Try.func9, Try.ntmps9
  have hw0 : Below w.heap.size w (w.alloc (.cells #[.int .i64 k', .int .i64 n', sV s', .slice la ln lc, .slice fa fn fc] 25)) := (Below.refl _ _).alloc (Nat.le_refl _) _
  have C := Lib.hid (S _ (hI.all hw0))
  clear S hI
  go_wp2_with fail
  refine C.out.mono ?_
  rintro e w2 ⟨r, rfl, hb, h3⟩
  have H3 := Lib.hid h3
  clear h3
  go_wp2
  go_ret
  exact ⟨r, rfl, below_all hw0 hb, H3.out⟩
end Go.Proofs.Ytmmembmohkideaa
