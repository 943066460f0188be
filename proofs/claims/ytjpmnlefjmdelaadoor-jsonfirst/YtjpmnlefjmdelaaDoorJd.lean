/- What is read, printed: plain mathematics. -/
import Derived.Test.YtjpmnlefjmdelaaDoorJc
import Derived.Test.YtjpmnlefjmdelaaDoorKoJ
namespace Go.Proofs.YtjpmnlefjmdelaaDoor

theorem skp_len (r : Str) : (skp r).length ≤ r.length := by
  induction r with
  | nil => simp [skp]
  | cons c r ih =>
    cases h : blk c
    · rw [skp_cons h]; exact Nat.le_refl _
    · rw [show skp (c :: r) = skp r by simp [skp, h]]; simp; omega
theorem digs_over {n : Int} (h : 1000000000000000 < n) : ∀ (r : Str) (v : Int) (r' : Str), digsR n r = (v, r') → v = n := by
  intro r
  induction r with
  | nil => intro v r' e; simp only [digsR] at e; cases e; rfl
  | cons c r ih =>
    intro v r' e
    simp only [digsR] at e
    split at e
    · rw [show digTo n c = n by unfold digTo; rw [if_neg (by omega)]] at e
      exact ih v r' e
    · cases e; rfl
theorem dig_back {c : UInt8} (h : 48 ≤ c.toNat) (h' : c.toNat ≤ 57) : UInt8.ofNat (48 + (c.toNat - 48)) = c := u8_of (by rw [dig_nat (by omega)]; omega)
theorem dig_iff {c : UInt8} (h : dig c = true) : 48 ≤ c.toNat ∧ c.toNat ≤ 57 := by unfold dig at h; simpa using h
theorem digs_back : ∀ (r : Str) (u : Nat) (v : Int) (r' : Str), 1 ≤ u → u ≤ 1000000000000000 → digsR u r = (v, r') → v ≤ 1000000000000000 → ∃ w : Nat, v = w ∧ Lib.decDigits u ++ r = Lib.decDigits w ++ r' := by
  intro r
  induction r with
  | nil => intro u v r' _ _ h _; simp only [digsR] at h; cases h; exact ⟨u, rfl, rfl⟩
  | cons c r ih =>
    intro u v r' h1 h2 h hv
    simp only [digsR] at h
    by_cases hd : dig c = true
    · rw [if_pos hd] at h
      obtain ⟨c1, c2⟩ := dig_iff hd
      have e : digTo u c = ((10 * u + (c.toNat - 48) : Nat) : Int) := by unfold digTo; rw [if_pos (by omega)]; omega
      rw [e] at h
      by_cases hbig : 10 * u + (c.toNat - 48) ≤ 1000000000000000
      · obtain ⟨w, hw, he⟩ := ih _ v r' (by omega) hbig h hv
        refine ⟨w, hw, ?_⟩
        rw [← he, dd_big (u := 10 * u + (c.toNat - 48)) (by omega), show (10 * u + (c.toNat - 48)) / 10 = u by omega, show (10 * u + (c.toNat - 48)) % 10 = c.toNat - 48 by omega, dig_back c1 c2]
        simp
      · have := digs_over (by omega) r v r' h
        omega
    · rw [if_neg hd] at h
      cases h
      exact ⟨u, rfl, rfl⟩
theorem digitsR_back {c : UInt8} {r : Str} {v : Int} {r' : Str} (hd : dig c = true) (h : digitsR (c :: r) = .ok (v, r')) (hv : v ≤ 1000000000000000) : ∃ w : Nat, v = w ∧ c :: r = Lib.decDigits w ++ r' := by
  unfold digitsR at h
  obtain ⟨c1, c2⟩ := dig_iff hd
  cases hz : zeroD (c :: r) with
  | some k => rw [hz] at h; cases h
  | none =>
    rw [hz] at h
    have h' : digsR 0 (c :: r) = (v, r') := R.ok.inj h
    simp only [digsR] at h'
    rw [if_pos hd] at h'
    by_cases h0 : c.toNat = 48
    · have hn : NotDig r := by
        cases r with
        | nil => trivial
        | cons d r =>
          simp only [zeroD] at hz
          by_cases hdd : dig d = true
          · rw [if_pos ⟨h0, hdd⟩] at hz; cases hz
          · show dig d = false
            simpa using hdd
      obtain rfl : c = 48 := u8_of h0
      rw [show digTo 0 48 = 0 by decide, digs_stop hn] at h'
      cases h'
      exact ⟨0, rfl, by rw [dd_small (by omega)]; rfl⟩
    · have e : digTo 0 c = ((c.toNat - 48 : Nat) : Int) := by unfold digTo; rw [if_pos (by omega)]; omega
      rw [e] at h'
      obtain ⟨w, hw, he⟩ := digs_back r (c.toNat - 48) v r' (by omega) (by omega) h' hv
      refine ⟨w, hw, ?_⟩
      rw [← he, dd_small (by omega), dig_back c1 c2]
      rfl
theorem numR_back {c : UInt8} {r : Str} {v : Int} {r' : Str} (hc : c.toNat = 45 ∨ dig c = true) (h : numR (c :: r) = .ok (v, r')) : -1000000000000000 ≤ v ∧ v ≤ 1000000000000000 ∧ c :: r = Lib.itoa v ++ r' := by
  simp only [numR] at h
  by_cases h45 : c.toNat = 45
  · rw [if_pos h45] at h
    obtain rfl : c = 45 := u8_of h45
    cases r with
    | nil => simp only [minusR] at h; cases h
    | cons d r =>
      simp only [minusR] at h
      by_cases hd : dig d = true ∧ ¬ d.toNat = 48
      · rw [if_pos hd] at h
        cases hx : digitsR (d :: r) with
        | er a b => rw [hx] at h; cases h
        | ok p =>
          obtain ⟨n, r2⟩ := p
          rw [hx] at h
          simp only [numF] at h
          by_cases hb : 1000000000000000 < n
          · rw [if_pos hb] at h; cases h
          · rw [if_neg hb] at h
            cases h
            obtain ⟨w, rfl, he⟩ := digitsR_back hd.1 hx (by omega)
            have hw : ¬ w = 0 := by
              rintro rfl
              rw [dd_small (by omega)] at he
              cases he
              exact hd.2 (by decide)
            refine ⟨by omega, by omega, ?_⟩
            unfold Lib.itoa
            rw [if_pos (by omega), show (-1 * (w : Int)).natAbs = w by omega, List.cons_append, ← he]
      · rw [if_neg hd] at h; cases h
  · rw [if_neg h45] at h
    have hd : dig c = true := by rcases hc with h' | h'; exact absurd h' h45; exact h'
    cases hx : digitsR (c :: r) with
    | er a b => rw [hx] at h; cases h
    | ok p =>
      obtain ⟨n, r2⟩ := p
      rw [hx] at h
      simp only [numF] at h
      by_cases hb : 1000000000000000 < n
      · rw [if_pos hb] at h; cases h
      · rw [if_neg hb] at h
        cases h
        obtain ⟨w, rfl, he⟩ := digitsR_back hd hx (by omega)
        refine ⟨by omega, by omega, ?_⟩
        unfold Lib.itoa
        rw [if_neg (by omega), show (1 * (w : Int)).toNat = w by omega, ← he]
theorem charR_back {c : UInt8} {r : Str} {x : UInt8} {r2 : Str} (h34 : ¬ c.toNat = 34) (hp : prt c = true) (hx : charR (c :: r) = .ok (x, r2)) : c :: r = esc x ++ r2 ∧ byteOk x = true := by
  simp only [charR] at hx
  by_cases h92 : c.toNat = 92
  · rw [if_pos h92] at hx
    obtain rfl : c = 92 := u8_of h92
    cases r with
    | nil => simp only [escR] at hx; cases hx
    | cons e r =>
      simp only [escR] at hx
      by_cases he : e.toNat = 34 ∨ e.toNat = 92
      · rw [if_pos he] at hx
        cases hx
        rcases he with he | he
        · obtain rfl : x = 34 := u8_of he
          exact ⟨by simp [esc], by decide⟩
        · obtain rfl : x = 92 := u8_of he
          exact ⟨by simp [esc], by decide⟩
      · rw [if_neg he] at hx
        by_cases h110 : e.toNat = 110
        · rw [if_pos h110] at hx
          cases hx
          obtain rfl : e = 110 := u8_of h110
          exact ⟨by simp [esc], by decide⟩
        · rw [if_neg h110] at hx; cases hx
  · rw [if_neg h92] at hx
    cases hx
    unfold prt at hp
    simp at hp
    refine ⟨by rw [esc, if_neg h34, if_neg h92, if_neg (by omega)]; rfl, ?_⟩
    unfold byteOk
    simp
    omega
theorem strR_back : ∀ (f k : Nat) (r l r' : Str), strR f k r = .ok (l, r') → k ≤ 200 → r = l.flatMap esc ++ 34 :: r' ∧ l.all byteOk = true ∧ k + l.length ≤ 200 := by
  intro f
  induction f with
  | zero => intro k r l r' h; simp only [strR] at h; cases h
  | succ f ih =>
    intro k r l r' h hk
    cases r with
    | nil => simp only [strR] at h; cases h
    | cons c r =>
      simp only [strR] at h
      by_cases h34 : c.toNat = 34
      · rw [if_pos h34] at h
        cases h
        obtain rfl : c = 34 := u8_of h34
        exact ⟨by simp, rfl, by simpa using hk⟩
      rw [if_neg h34] at h
      by_cases hp : prt c = false
      · rw [if_pos hp] at h; cases h
      rw [if_neg hp] at h
      by_cases h200 : k = 200
      · rw [if_pos h200] at h; cases h
      rw [if_neg h200] at h
      cases hx : charR (c :: r) with
      | er a b => rw [hx] at h; cases h
      | ok p =>
        obtain ⟨x, r2⟩ := p
        rw [hx] at h
        simp only at h
        cases hy : strR f (k + 1) r2 with
        | er a b => rw [hy] at h; cases h
        | ok q =>
          obtain ⟨l2, r3⟩ := q
          rw [hy] at h
          cases h
          obtain ⟨e1, e2, e3⟩ := ih _ _ _ _ hy (by omega)
          obtain ⟨e4, e5⟩ := charR_back h34 (by simpa using hp) hx
          refine ⟨by rw [List.flatMap_cons, List.append_assoc, ← e1, ← e4], by simp [e5]; simpa using e2, by simp; omega⟩
theorem nameR_back : ∀ (r : Str) (k : Nat) (l r' : Str), nameR k r = .ok (l, r') → k ≤ 40 → r = l ++ 34 :: r' ∧ l.all nmByte = true ∧ k + l.length ≤ 40 ∧ (k = 0 → l ≠ []) := by
  intro r
  induction r with
  | nil => intro k l r' h; simp only [nameR] at h; cases h
  | cons c r ih =>
    intro k l r' h hk
    simp only [nameR] at h
    by_cases h34 : c.toNat = 34 ∧ ¬ k = 0
    · rw [if_pos h34] at h
      cases h
      obtain rfl : c = 34 := u8_of h34.1
      exact ⟨rfl, rfl, by simpa using hk, fun e => absurd e h34.2⟩
    rw [if_neg h34] at h
    by_cases hp : nmByte c = false
    · rw [if_pos hp] at h; cases h
    rw [if_neg hp] at h
    by_cases h40 : k = 40
    · rw [if_pos h40] at h; cases h
    rw [if_neg h40] at h
    cases hx : nameR (k + 1) r with
    | er a b => rw [hx] at h; cases h
    | ok p =>
      obtain ⟨l2, r2⟩ := p
      rw [hx] at h
      cases h
      obtain ⟨e1, e2, e3, -⟩ := ih _ _ _ hx (by omega)
      refine ⟨by rw [e1]; rfl, by simp only [List.all_cons, e2, Bool.and_true]; simpa using hp, by simp; omega, fun _ => by simp⟩
theorem prL_false_len {l : List T} (h : l ≠ []) : (prL false l).length = (prL true l).length + 1 := by
  cases l with
  | nil => exact absurd rfl h
  | cons t l => simp [prL]
theorem prF_false_len {l : List (Str × T)} (h : l ≠ []) : (prF false l).length = (prF true l).length + 1 := by
  cases l with
  | nil => exact absurd rfl h
  | cons p l => obtain ⟨x, t⟩ := p; simp [prF]
theorem prF_append (a b : List (Str × T)) : prF false (a ++ b) = prF false a ++ prF false b := by
  induction a with
  | nil => rfl
  | cons p a ih => obtain ⟨x, t⟩ := p; simp [prF, ih]
theorem sub_len {M : List (Str × T)} (hs : SSrt M) : ∀ {l : List (Str × T)}, (∀ p ∈ M, p ∈ l) → (prF false M).length ≤ (prF false l).length := by
  induction M with
  | nil => intro l _; simp [prF]
  | cons p r ih =>
    obtain ⟨x, t⟩ := p
    intro l h
    obtain ⟨l1, l2, rfl⟩ := List.append_of_mem (h (x, t) List.mem_cons_self)
    have := ih hs.tail (l := l1 ++ l2) (fun q hq => by
      have h1 := h q (List.mem_cons_of_mem _ hq)
      rcases List.mem_append.1 h1 with h1 | h1
      · exact List.mem_append_left _ h1
      · rcases List.mem_cons.1 h1 with rfl | h1
        · exact absurd rfl (cmpS_ne (hs.head _ hq))
        · exact List.mem_append_right _ h1)
    rw [prF_append] at this ⊢
    simp [prF] at this ⊢
    omega
theorem nm_of_ssrt {f : List (Str × T)} (h : SSrt f) (hn : ∀ p ∈ f, nameOk p.1 = true) : NmTo f f.length := by
  intro i p hi hp
  refine ⟨hn p (List.mem_of_getElem? hp), fun q h0 hq => ?_⟩
  obtain ⟨h1, rfl⟩ := List.getElem?_eq_some_iff.1 hp
  obtain ⟨h2, rfl⟩ := List.getElem?_eq_some_iff.1 hq
  exact List.pairwise_iff_getElem.1 h (i - 1) i h2 h1 (by omega)

/-- what a reading gives is valid, and its printed text is not longer than what was read -/
def PB (d : Nat) (pv : PV) : Prop := ∀ (full : Bool) (n : Nat) (r : Str) (t : T) (n' : Nat) (r' : Str), pv full n r = .ok (t, n', r') → Val d t ∧ (prV t).length + r'.length ≤ r.length
theorem elemsR_back {d : Nat} {pv : PV} (H : PB d pv) (hF : ∀ n r p, pv true n r ≠ .ok p) : ∀ (m n : Nat) (r : Str) (l : List T) (n' : Nat) (r' : Str), elemsR pv m n r = .ok (l, n', r') →
    (∀ t ∈ l, Val d t) ∧ l.length ≤ m ∧ (prL true l).length + 1 + r'.length ≤ r.length ∧ l ≠ [] := by
  intro m
  induction m with
  | zero =>
    intro n r l n' r' h
    unfold elemsR at h
    cases hp : pv (decide (0 = 0)) n r with
    | er a b => rw [hp] at h; cases h
    | ok p => exact absurd hp (hF n r p)
  | succ m ih =>
    intro n r l n' r' h
    unfold elemsR at h
    cases hp : pv (decide (m + 1 = 0)) n r with
    | er a b => rw [hp] at h; cases h
    | ok p =>
      obtain ⟨t, n1, r1⟩ := p
      obtain ⟨h1, h2⟩ := H _ _ _ _ _ _ hp
      rw [hp] at h
      simp only at h
      have hk := skp_len r1
      cases hs : skp r1 with
      | nil => rw [hs] at h; cases h
      | cons c r2 =>
        rw [hs] at h hk
        simp only [List.length_cons] at h hk
        split at h
        · cases h
          refine ⟨by simpa using h1, by simp, ?_, by simp⟩
          simp [prL]
          omega
        · split at h
          · cases he : elemsR pv m n1 r2 with
            | er a b => rw [he] at h; cases h
            | ok q =>
              obtain ⟨l2, n2, r3⟩ := q
              rw [he] at h
              cases h
              obtain ⟨h3, h4, h5, h6⟩ := ih _ _ _ _ _ he
              have h7 := prL_false_len h6
              refine ⟨fun x hx => ?_, by simp; omega, ?_, by simp⟩
              · rcases List.mem_cons.1 hx with rfl | hx
                · exact h1
                · exact h3 x hx
              · simp only [prL, List.length_append, if_true, List.length_nil]
                omega
          · cases h
theorem fieldR_back {d : Nat} {pv : PV} (H : PB d pv) {m : Nat} {seen : List Str} {n : Nat} {r : Str} {p : Str × T} {n' : Nat} {r' : Str} (h : fieldR pv m seen n r = .ok (p, n', r')) :
    ¬ m = 0 ∧ Val d p.2 ∧ nameOk p.1 = true ∧ (quoteR p.1).length + 1 + (prV p.2).length + r'.length ≤ r.length := by
  unfold fieldR at h
  have hk := skp_len r
  split at h
  · cases h
  · rename_i c r1 hs
    rw [hs] at hk
    split at h
    · cases h
    · split at h
      · cases h
      · rename_i hm
        split at h
        · cases h
        · rename_i nm r2 hn
          split at h
          · cases h
          · split at h
            · cases h
            · rename_i r3 hb
              split at h
              · cases h
              · rename_i t n1 r4 hp
                cases h
                obtain ⟨e1, e2, e3, e4⟩ := nameR_back _ _ _ _ hn (by omega)
                obtain ⟨g1, g2⟩ := H _ _ _ _ _ _ hp
                have hk2 := skp_len r2
                have hb2 : (skp r2).length = r3.length + 1 := by
                  cases hq : skp r2 with
                  | nil => rw [hq] at hb; simp only [byteR] at hb; cases hb
                  | cons a b =>
                    rw [hq] at hb
                    simp only [byteR] at hb
                    split at hb
                    · cases hb; rfl
                    · cases hb
                have hl : (quoteR nm).length = nm.length + 2 := by unfold quoteR; rw [nm_escs e2]; simp
                rw [e1] at hk
                simp only [List.length_cons, List.length_append] at hk
                refine ⟨hm, g1, ?_, ?_⟩
                · unfold nameOk
                  simp only [Bool.and_eq_true, decide_eq_true_eq]
                  refine ⟨⟨?_, by omega⟩, e2⟩
                  cases nm with
                  | nil => exact absurd rfl (e4 rfl)
                  | cons a b => simp
                · simp only
                  omega
theorem membersR_back {d : Nat} {pv : PV} (H : PB d pv) : ∀ (m : Nat) (seen : List Str) (n : Nat) (r : Str) (l : List (Str × T)) (n' : Nat) (r' : Str), membersR pv m seen n r = .ok (l, n', r') →
    (∀ p ∈ l, Val d p.2 ∧ nameOk p.1 = true) ∧ l.length ≤ m ∧ (prF true l).length + 1 + r'.length ≤ r.length ∧ l ≠ [] := by
  intro m
  induction m with
  | zero =>
    intro seen n r l n' r' h
    unfold membersR at h
    cases hp : fieldR pv 0 seen n r with
    | er a b => rw [hp] at h; cases h
    | ok p => obtain ⟨q, n1, r1⟩ := p; exact absurd rfl (fieldR_back H hp).1
  | succ m ih =>
    intro seen n r l n' r' h
    unfold membersR at h
    cases hp : fieldR pv (m + 1) seen n r with
    | er a b => rw [hp] at h; cases h
    | ok p =>
      obtain ⟨⟨x, t⟩, n1, r1⟩ := p
      obtain ⟨-, h1, h1', h2⟩ := fieldR_back H hp
      rw [hp] at h
      simp only at h
      have hk := skp_len r1
      cases hs : skp r1 with
      | nil => rw [hs] at h; cases h
      | cons c r2 =>
        rw [hs] at h hk
        simp only [List.length_cons] at h hk
        simp only at h1 h1' h2
        split at h
        · cases h
          refine ⟨by simpa using ⟨h1, h1'⟩, by simp, ?_, by simp⟩
          simp [prF]
          omega
        · split at h
          · cases he : membersR pv m (seen ++ [x]) n1 r2 with
            | er a b => rw [he] at h; cases h
            | ok q2 =>
              obtain ⟨l2, n2, r3⟩ := q2
              rw [he] at h
              cases h
              obtain ⟨h3, h4, h5, h6⟩ := ih _ _ _ _ _ _ he
              have h7 := prF_false_len h6
              refine ⟨fun p hp => ?_, by simp; omega, ?_, by simp⟩
              · rcases List.mem_cons.1 hp with rfl | hp
                · exact ⟨h1, h1'⟩
                · exact h3 p hp
              · simp only [prF, List.length_append, if_true, List.length_nil, List.length_singleton, List.length_cons]
                omega
          · cases h
theorem val_leaf {d : Nat} {k n : Int} {s : Str} (hu : Uses k n s 0 0) (hm : Mem k n s 0 []) : Val (d + 1) (.mk k n s [] []) := by
  rw [val_eq]; exact ⟨hu, hm, by simp, by simp⟩
theorem wordR_back : ∀ (ws r r' : Str), wordR ws r = .ok r' → r = ws ++ r' := by
  intro ws
  induction ws with
  | nil => intro r r' h; simp only [wordR] at h; cases h; rfl
  | cons c ws ih =>
    intro r r' h
    simp only [wordR] at h
    cases r with
    | nil => simp only [byteR] at h; cases h
    | cons d r =>
      simp only [byteR] at h
      by_cases e : d = c
      · rw [if_pos e] at h
        simp only at h
        rw [ih _ _ h, e]; rfl
      · rw [if_neg e] at h; cases h
theorem wordV_back {n : Nat} {t t' : T} {ws r : Str} {n' : Nat} {r' : Str} (h : wordV n t (wordR ws r) = .ok (t', n', r')) : t' = t ∧ r = ws ++ r' := by
  cases hx : wordR ws r with
  | er a b => rw [hx] at h; cases h
  | ok r2 => rw [hx] at h; cases h; exact ⟨rfl, wordR_back _ _ _ hx⟩
theorem bodyR_back {d : Nat} {pv : PV} (H : PB d pv) (hF : ∀ n r p, pv true n r ≠ .ok p) {n : Nat} {c : UInt8} {r : Str} {t : T} {n' : Nat} {r' : Str} (hc : bgn c = true) (h : bodyR pv n c r = .ok (t, n', r')) :
    Val (d + 1) t ∧ (prV t).length + r'.length ≤ r.length + 1 := by
  unfold bodyR at h
  split at h
  · obtain ⟨rfl, e⟩ := wordV_back h
    refine ⟨val_leaf (by simp [Uses]) (by simp [Mem]), ?_⟩
    have := congrArg List.length e
    simp [prV] at this ⊢
    omega
  split at h
  · obtain ⟨rfl, e⟩ := wordV_back h
    refine ⟨val_leaf (by simp [Uses]) (by simp [Mem]), ?_⟩
    have := congrArg List.length e
    simp [prV, boolW] at this ⊢
    omega
  split at h
  · obtain ⟨rfl, e⟩ := wordV_back h
    refine ⟨val_leaf (by simp [Uses]) (by simp [Mem]), ?_⟩
    have := congrArg List.length e
    simp [prV, boolW] at this ⊢
    omega
  split at h
  · cases hx : strR (r.length + 1) 0 r with
    | er a b => rw [hx] at h; cases h
    | ok p =>
      obtain ⟨l, r2⟩ := p
      rw [hx] at h
      cases h
      obtain ⟨e1, e2, e3⟩ := strR_back _ _ _ _ _ hx (by omega)
      refine ⟨val_leaf (by simp [Uses]) (by simp [Mem, strOk]; exact ⟨by omega, by simpa using e2⟩), ?_⟩
      rw [e1]
      simp [prV, quoteR]
      omega
  split at h
  · unfold listR at h
    have hk := skp_len r
    split at h
    · cases h
    · rename_i c1 r1 hs
      rw [hs] at hk
      simp only [List.length_cons] at hk
      split at h
      · cases h
        exact ⟨val_leaf (by simp [Uses]) (by simp [Mem]), by simp [prV, prL]; omega⟩
      · split at h
        · cases h
        · rename_i l n1 r2 he
          cases h
          obtain ⟨h3, h4, h5, h6⟩ := elemsR_back H hF _ _ _ _ _ _ he
          refine ⟨?_, by simp [prV]; omega⟩
          rw [val_eq]
          exact ⟨by simp [Uses], by simp [Mem]; exact h4, h3, by simp⟩
  split at h
  · unfold mapR at h
    have hk := skp_len r
    split at h
    · cases h
    · rename_i c1 r1 hs
      rw [hs] at hk
      simp only [List.length_cons] at hk
      split at h
      · cases h
        exact ⟨val_leaf (by simp [Uses]) (by simp [Mem, NmTo]), by simp [prV, prF]; omega⟩
      · split at h
        · cases h
        · rename_i l n1 r2 he
          cases h
          obtain ⟨h3, h4, h5, h6⟩ := membersR_back H _ _ _ _ _ _ _ he
          have hM := mapL_of l
          have hsub : ∀ p ∈ mapL l, p ∈ l := fun p hp => hM.mem hp
          have hlen := sub_len hM.srt hsub
          have hln := hM.size.2
          have hle : (prF true (mapL l)).length ≤ (prF true l).length := by
            rw [prF_false_len h6] at hlen
            by_cases hz : mapL l = []
            · rw [hz]; simp [prF]
            · rw [prF_false_len hz] at hlen; omega
          refine ⟨?_, by simp [prV]; omega⟩
          rw [val_eq]
          exact ⟨by simp [Uses], Or.inr (Or.inr (Or.inr (Or.inr (Or.inr ⟨rfl, by omega, nm_of_ssrt hM.srt fun p hp => (h3 p (hsub p hp)).2⟩)))), by simp, fun p hp => (h3 p (hsub p hp)).1⟩
  · cases hx : numR (c :: r) with
    | er a b => rw [hx] at h; cases h
    | ok p =>
      obtain ⟨v, r2⟩ := p
      rw [hx] at h
      cases h
      obtain ⟨e1, e2, e3⟩ := numR_back (by
        rename_i a1 a2 a3 a4 a5 a6
        by_cases h45 : c.toNat = 45
        · exact Or.inl h45
        · refine Or.inr ?_
          simpa [bgn, a1, a2, a3, a4, a5, a6, h45] using hc) hx
      refine ⟨val_leaf (by simp [Uses]) (by simp [Mem]; exact ⟨e1, e2⟩), ?_⟩
      have := congrArg List.length e3
      simp [prV] at this ⊢
      omega
theorem valR_back : ∀ d, PB d (valR d) := by
  intro d
  induction d with
  | zero =>
    intro full n r t n' r' h
    rw [valR_zero] at h
    split at h
    · cases h
    · split at h <;> cases h
  | succ d ih =>
    intro full n r t n' r' h
    rw [valR_succ] at h
    have hk := skp_len r
    split at h
    · cases h
    · rename_i c r1 hs
      rw [hs] at hk
      simp only [List.length_cons] at hk
      split at h
      · cases h
      · rename_i hc
        split at h
        · cases h
        · obtain ⟨h1, h2⟩ := bodyR_back ih (valR_ok d).full (by simpa using hc) h
          exact ⟨h1, by omega⟩
theorem text_back {s : Str} {t : T} (h : textR s = .ok t) : Val 12 t ∧ t.size ≤ 600 ∧ (prV t).length ≤ s.length := by
  unfold textR at h
  cases hx : valR 12 false 0 s with
  | er a b => rw [hx] at h; cases h
  | ok p =>
    obtain ⟨t', n', r'⟩ := p
    rw [hx] at h
    simp only at h
    split at h
    · cases h
      obtain ⟨h1, h2⟩ := valR_back 12 _ _ _ _ _ _ hx
      obtain ⟨h3, h4⟩ := (valR_ok 12).size _ _ _ _ _ _ (by omega) hx
      exact ⟨h1, by omega, by omega⟩
    · cases h

/- the codes of errors -/
def Nz {α : Type} : R α → Prop
  | .ok _ => True
  | .er _ c => ¬ c = 0
theorem nz_byteR (c : UInt8) (r : Str) : Nz (byteR c r) := by
  unfold byteR
  split
  · simp [Nz]
  · split <;> simp [Nz]
theorem nz_wordR : ∀ ws r : Str, Nz (wordR ws r) := by
  intro ws
  induction ws with
  | nil => intro r; simp [wordR, Nz]
  | cons c ws ih =>
    intro r
    simp only [wordR]
    have := nz_byteR c r
    cases hx : byteR c r with
    | er a b => rw [hx] at this; exact this
    | ok r' => exact ih r'
theorem nz_digitsR (r : Str) : Nz (digitsR r) := by
  unfold digitsR
  split <;> simp [Nz]
theorem nz_numF (s : Int) (k : Nat) {x : R (Int × Str)} (h : Nz x) : Nz (numF s k x) := by
  cases x with
  | er a b => exact h
  | ok p => obtain ⟨n, r⟩ := p; simp only [numF]; split <;> simp [Nz]
theorem nz_numR (r : Str) : Nz (numR r) := by
  cases r with
  | nil => simp [numR, Nz]
  | cons c r =>
    simp only [numR]
    split
    · cases r with
      | nil => simp [minusR, Nz]
      | cons d r =>
        simp only [minusR]
        split
        · exact nz_numF _ _ (nz_digitsR _)
        · simp [Nz]
    · exact nz_numF _ _ (nz_digitsR _)
theorem nz_charR (r : Str) : Nz (charR r) := by
  cases r with
  | nil => simp [charR, Nz]
  | cons c r =>
    simp only [charR]
    split
    · cases r with
      | nil => simp [escR, Nz]
      | cons e r =>
        simp only [escR]
        split
        · simp [Nz]
        · split <;> simp [Nz]
    · simp [Nz]
theorem nz_strR : ∀ (f k : Nat) (r : Str), Nz (strR f k r) := by
  intro f
  induction f with
  | zero => intro k r; simp [strR, Nz]
  | succ f ih =>
    intro k r
    cases r with
    | nil => simp [strR, Nz]
    | cons c r =>
      simp only [strR]
      split
      · simp [Nz]
      split
      · simp [Nz]
      split
      · simp [Nz]
      have := nz_charR (c :: r)
      cases hx : charR (c :: r) with
      | er a b => rw [hx] at this; exact this
      | ok p =>
        obtain ⟨x, r2⟩ := p
        simp only
        have := ih (k + 1) r2
        cases hy : strR f (k + 1) r2 with
        | er a b => rw [hy] at this; exact this
        | ok q => simp [Nz]
theorem nz_nameR : ∀ (r : Str) (k : Nat), Nz (nameR k r) := by
  intro r
  induction r with
  | nil => intro k; simp [nameR, Nz]
  | cons c r ih =>
    intro k
    simp only [nameR]
    split
    · simp [Nz]
    split
    · simp [Nz]
    split
    · simp [Nz]
    have := ih (k + 1)
    cases hy : nameR (k + 1) r with
    | er a b => rw [hy] at this; exact this
    | ok q => simp [Nz]
def PN (pv : PV) : Prop := ∀ (full : Bool) (n : Nat) (r : Str), Nz (pv full n r)
theorem nz_elemsR {pv : PV} (H : PN pv) (hF : ∀ n r p, pv true n r ≠ .ok p) : ∀ (m n : Nat) (r : Str), Nz (elemsR pv m n r) := by
  intro m
  induction m with
  | zero =>
    intro n r
    unfold elemsR
    have := H (decide (0 = 0)) n r
    cases hp : pv (decide (0 = 0)) n r with
    | er a b => rw [hp] at this; exact this
    | ok p => exact absurd hp (hF n r p)
  | succ m ih =>
    intro n r
    unfold elemsR
    have := H (decide (m + 1 = 0)) n r
    cases hp : pv (decide (m + 1 = 0)) n r with
    | er a b => rw [hp] at this; exact this
    | ok p =>
      obtain ⟨t, n1, r1⟩ := p
      simp only
      split
      · simp [Nz]
      · rename_i c r2 hs
        split
        · simp [Nz]
        · split
          · have := ih n1 r2
            cases he : elemsR pv m n1 r2 with
            | er a b => rw [he] at this; exact this
            | ok q => simp [Nz]
          · simp [Nz]
theorem nz_fieldR {pv : PV} (H : PN pv) (m : Nat) (seen : List Str) (n : Nat) (r : Str) : Nz (fieldR pv m seen n r) := by
  unfold fieldR
  split
  · simp [Nz]
  · rename_i c r1 hs
    split
    · simp [Nz]
    split
    · simp [Nz]
    have := nz_nameR r1 0
    cases hx : nameR 0 r1 with
    | er a b => rw [hx] at this; exact this
    | ok p =>
      obtain ⟨nm, r2⟩ := p
      simp only
      split
      · simp [Nz]
      have := nz_byteR 58 (skp r2)
      cases hy : byteR 58 (skp r2) with
      | er a b => rw [hy] at this; exact this
      | ok r3 =>
        simp only
        have := H false n r3
        cases hz : pv false n r3 with
        | er a b => rw [hz] at this; exact this
        | ok q => simp [Nz]
theorem nz_membersR {pv : PV} (H : PN pv) : ∀ (m : Nat) (seen : List Str) (n : Nat) (r : Str), Nz (membersR pv m seen n r) := by
  intro m
  induction m with
  | zero =>
    intro seen n r
    unfold membersR
    have := nz_fieldR H 0 seen n r
    cases hp : fieldR pv 0 seen n r with
    | er a b => rw [hp] at this; exact this
    | ok p =>
      exfalso
      unfold fieldR at hp
      split at hp
      · cases hp
      · split at hp
        · cases hp
        · simp at hp
  | succ m ih =>
    intro seen n r
    unfold membersR
    have := nz_fieldR H (m + 1) seen n r
    cases hp : fieldR pv (m + 1) seen n r with
    | er a b => rw [hp] at this; exact this
    | ok p =>
      obtain ⟨q, n1, r1⟩ := p
      simp only
      split
      · simp [Nz]
      · rename_i c r2 hs
        split
        · simp [Nz]
        · split
          · have := ih (seen ++ [q.1]) n1 r2
            cases he : membersR pv m (seen ++ [q.1]) n1 r2 with
            | er a b => rw [he] at this; exact this
            | ok q2 => simp [Nz]
          · simp [Nz]
theorem nz_wrapR {α : Type} (n : Nat) (f : α → T) {x : R (α × Str)} (h : Nz x) : Nz (wrapR n f x) := by
  cases x with
  | er a b => exact h
  | ok p => simp [wrapR, Nz]
theorem nz_wordV (n : Nat) (t : T) {x : R Str} (h : Nz x) : Nz (wordV n t x) := by
  cases x with
  | er a b => exact h
  | ok p => simp [wordV, Nz]
theorem nz_bodyR {pv : PV} (H : PN pv) (hF : ∀ n r p, pv true n r ≠ .ok p) (n : Nat) (c : UInt8) (r : Str) : Nz (bodyR pv n c r) := by
  unfold bodyR
  split
  · exact nz_wordV _ _ (nz_wordR _ _)
  split
  · exact nz_wordV _ _ (nz_wordR _ _)
  split
  · exact nz_wordV _ _ (nz_wordR _ _)
  split
  · exact nz_wrapR _ _ (nz_strR _ _ _)
  split
  · unfold listR
    split
    · simp [Nz]
    · split
      · simp [Nz]
      · have := nz_elemsR H hF 64 n r
        cases he : elemsR pv 64 n r with
        | er a b => rw [he] at this; exact this
        | ok q => simp [Nz]
  split
  · unfold mapR
    split
    · simp [Nz]
    · split
      · simp [Nz]
      · have := nz_membersR H 64 [] n r
        cases he : membersR pv 64 [] n r with
        | er a b => rw [he] at this; exact this
        | ok q => simp [Nz]
  · exact nz_wrapR _ _ (nz_numR _)
theorem nz_valR : ∀ d, PN (valR d) := by
  intro d
  induction d with
  | zero =>
    intro full n r
    rw [valR_zero]
    split
    · simp [Nz]
    · split <;> simp [Nz]
  | succ d ih =>
    intro full n r
    rw [valR_succ]
    split
    · simp [Nz]
    · split
      · simp [Nz]
      · split
        · simp [Nz]
        · exact nz_bodyR ih (valR_ok d).full _ _ _
theorem nz_textR (s : Str) : Nz (textR s) := by
  unfold textR
  have := nz_valR 12 false 0 s
  cases hx : valR 12 false 0 s with
  | er a b => rw [hx] at this; exact this
  | ok p =>
    obtain ⟨t, n, r⟩ := p
    simp only
    split <;> simp [Nz]
/- Parse, as a whole -/
theorem parse_print {t : T} (hv : Val 12 t) (hz : t.size ≤ 600) (hl : (prV t).length ≤ 20000) : parseR (prV t) = (t, 0, 0) := by
  unfold parseR
  rw [if_neg (by omega), text_print hv hz]
theorem parse_blanks {t : T} (hv : Val 12 t) (hz : t.size ≤ 600) (hl : (prV t).length ≤ 19996) : parseR ([32, 9] ++ prV t ++ [13, 10]) = (t, 0, 0) := by
  unfold parseR
  rw [if_neg (by simp; omega), text_blanks hv hz]
/-- what Parse answers: a value that prints to a text that is not longer, or an error within the text -/
theorem parse_cases (s : Str) : (∃ t, parseR s = (t, 0, 0) ∧ Val 12 t ∧ t.size ≤ 600 ∧ (prV t).length ≤ s.length ∧ s.length ≤ 20000) ∨ (∃ (k c : Int), parseR s = (.mk 0 0 [] [] [], k, c) ∧ 0 ≤ k ∧ k ≤ s.length ∧ ¬ c = 0) := by
  unfold parseR
  split
  · exact Or.inr ⟨20000, 4, rfl, by omega, by omega, by omega⟩
  · have hn := nz_textR s
    cases hx : textR s with
    | er a b => rw [hx] at hn; exact Or.inr ⟨_, _, rfl, by omega, by omega, hn⟩
    | ok t => obtain ⟨h1, h2, h3⟩ := text_back hx; exact Or.inl ⟨t, rfl, h1, h2, h3, by omega⟩
end Go.Proofs.YtjpmnlefjmdelaaDoor
