/- The reference's parser: blanks, words, digits. The reference's parser: numbers. The reference's parser: names and strings. The reference's parser: strings. -/
import Derived.Test.YtjpmnlefjmdelaaGreatDoorKcJ
import Derived.Test.YtjpmnlefjmdelaaGreatDoorNhJ
namespace Go.Proofs.YtjpmnlefjmdelaaGreatDoor
open Go.RowKit Go.Sort Go.Proofs.LawFrame

/-- the place i of the text s, at which r is left -/
structure Ps (s : Str) (i : Nat) (r : Str) : Prop where
  le : i ≤ s.length
  dr : s.drop i = r
theorem Ps.next {s : Str} {i : Nat} {c : UInt8} {r : Str} (h : Ps s i (c :: r)) : Ps s (i + 1) r := by
  obtain ⟨hi, -, hd, -⟩ := drop_byte h.dr
  exact ⟨by omega, hd⟩
theorem Ps.fin {s : Str} {i : Nat} (h : Ps s i []) : i = s.length := drop_end h.dr h.le
theorem Ps.len {s : Str} {i : Nat} {r : Str} (h : Ps s i r) : i + r.length = s.length := by
  have := congrArg List.length h.dr
  rw [List.length_drop] at this
  have := h.le
  omega
theorem Ps.at {s : Str} {i : Nat} {r : Str} (h : Ps s i r) : s.length - r.length = i := by have := h.len; omega
abbrev faultV (a c : Int) : Value := .agg #[.int .i64 a, .int .i64 c]
theorem skp_keep {c : UInt8} {r : Str} (h : blk c = false) : skp (c :: r) = c :: r := by simp [skp, h]
theorem skp_blank {c : UInt8} {r : Str} (h : blk c = true) : skp (c :: r) = skp r := by simp [skp, h]
def digH : Str → Bool
  | [] => false
  | c :: _ => dig c

set_option maxHeartbeats 4000000 in
theorem rskip_any {s : Str} {i : Nat} {r : Str} (hl : s.length ≤ 20000) (h : Ps s i r) (w : World) :
    Calls Tryz.prog 55 #[sV s, .int .i64 i] w fun e w' => ∃ j : Nat, e = .returned (.int .i64 j) ∧ Ps s j (skp r) ∧ w = w' := by
  obtain ⟨hle, hdr⟩ := h
  go_enter Tryz.func55, Tryz.ntmps55
  go_wp2
  go_loopg [1] r.length (fun g v wr => ∃ (j : Nat) (r' : Str), g = r'.length ∧ v = .int .i64 j ∧ j ≤ s.length ∧ s.drop j = r' ∧ w = wr ∧ Hid (skp r' = skp r))
  case atStart => exact ⟨i, r, rfl, rfl, hle, hdr, rfl, Lib.hid rfl⟩
  case round =>
    obtain ⟨j, r', hg, rfl, hj, hd, rfl, HE⟩ := hrel
    have HG := Lib.hid hg
    clear hg hdr
    cases r' with
    | nil =>
      obtain rfl := drop_end hd hj
      have HD := Lib.hid hd
      clear hd
      go_wp2
      go_ret
      exact ⟨s.length, rfl, ⟨Nat.le_refl _, by rw [← HE.out, HD.out]; rfl⟩, rfl⟩
    | cons c r' =>
      obtain ⟨hlt, hc, hd', hlen⟩ := drop_byte hd
      have HD := Lib.hid (And.intro hd hd')
      have hm : ((⟨s.toArray⟩ : ByteArray)[j]'hlt).toNat = c.toNat := by rw [← hc]; rfl
      clear hd hd' hc hlen
      cases hbl : blk c
      · have hn : ¬ (c.toNat : Int) = 32 ∧ ¬ (c.toNat : Int) = 9 ∧ ¬ (c.toNat : Int) = 10 ∧ ¬ (c.toNat : Int) = 13 := by unfold blk at hbl; simp at hbl; omega
        obtain ⟨n1, n2, n3, n4⟩ := hn
        have b1 : ((c.toNat : Int) == 32) = false := by rw [beq_eq_false_iff_ne]; exact n1
        have b2 : ((c.toNat : Int) == 9) = false := by rw [beq_eq_false_iff_ne]; exact n2
        have b3 : ((c.toNat : Int) == 10) = false := by rw [beq_eq_false_iff_ne]; exact n3
        have b4 : ((c.toNat : Int) == 13) = false := by rw [beq_eq_false_iff_ne]; exact n4
        have HB := Lib.hid hbl
        clear hbl
        go_wp2
        go_ret
        exact ⟨j, rfl, ⟨by omega, by rw [← HE.out, HD.out.1, skp_keep HB.out]⟩, rfl⟩
      · have hn : (c.toNat : Int) = 32 ∨ (c.toNat : Int) = 9 ∨ (c.toNat : Int) = 10 ∨ (c.toNat : Int) = 13 := by unfold blk at hbl; simp at hbl; omega
        have HB := Lib.hid hbl
        clear hbl
        rcases hn with e1 | e1 | e1 | e1
        all_goals
          go_wp2
          go_roundg r'.length
          case measure => have := HG.out; simp at this; omega
          case rel => exact ⟨j + 1, r', rfl, by go_num, by omega, HD.out.2, rfl, Lib.hid (by rw [← HE.out, skp_blank HB.out])⟩

set_option maxHeartbeats 1000000 in
theorem rstarts_any (c : UInt8) (w : World) : Calls Tryz.prog 95 #[.int .u8 c.toNat] w fun e w' => e = .returned (.bool (bgn c)) ∧ w = w' := by
  have hm256 : c.toNat < 256 := c.toNat_lt
  go_enter Tryz.func95, Tryz.ntmps95
  go_wp2
  all_goals
    go_ret
    exact ⟨ret_bool (by unfold bgn dig; rw [Bool.eq_iff_iff]; simp; omega), rfl⟩
set_option maxHeartbeats 1000000 in
theorem rNameByte_any (c : UInt8) (w : World) : Calls Tryz.prog 196 #[.int .u8 c.toNat] w fun e w' => e = .returned (.bool (nmByte c)) ∧ w = w' := by
  have hm256 : c.toNat < 256 := c.toNat_lt
  go_enter Tryz.func196, Tryz.ntmps196
  go_wp2
  all_goals
    go_ret
    exact ⟨ret_bool (by unfold nmByte; rw [Bool.eq_iff_iff]; simp; omega), rfl⟩
set_option maxHeartbeats 1000000 in
theorem rdigit_any {s : Str} {j : Nat} {r : Str} (hl : s.length ≤ 20000) (hj : j ≤ s.length) (hd : s.drop j = r) (w : World) : Calls Tryz.prog 143 #[sV s, .int .i64 j] w fun e w' => e = .returned (.bool (digH r)) ∧ w = w' := by
  cases r with
  | nil =>
    obtain rfl := drop_end hd hj
    go_enter Tryz.func143, Tryz.ntmps143
    go_wp2
    go_ret
    exact ⟨rfl, rfl⟩
  | cons c r =>
    obtain ⟨hlt, hc, -, -⟩ := drop_byte hd
    have hm : ((⟨s.toArray⟩ : ByteArray)[j]'hlt).toNat = c.toNat := by rw [← hc]; rfl
    have hm256 : c.toNat < 256 := c.toNat_lt
    clear hd hc
    go_enter Tryz.func143, Tryz.ntmps143
    go_wp2
    all_goals
      go_ret
      exact ⟨ret_bool (by unfold digH dig; rw [Bool.eq_iff_iff]; simp; omega), rfl⟩
/-- what word answers -/
structure QW (s : Str) (w : World) (x : R Str) (e : Ending) (w' : World) : Prop where
  below : Below w.heap.size w w'
  ok : ∀ r', x = .ok r' → ∃ j : Nat, Ps s j r' ∧ e = .returned (.tuple #[.int .i64 j, faultV 0 0])
  er : ∀ k c, x = .er k c → e = .returned (.tuple #[.int .i64 0, faultV ((s.length - k : Nat) : Int) c])
theorem QW.mkOk {s : Str} {w w' : World} {x : R Str} {e : Ending} {r' : Str} {j : Nat} (hx : x = .ok r') (hb : Below w.heap.size w w') (hp : Ps s j r') (he : e = .returned (.tuple #[.int .i64 j, faultV 0 0])) : QW s w x e w' :=
  ⟨hb, fun r h => (by rw [hx] at h; cases h; exact ⟨j, hp, he⟩), fun k c h => (by rw [hx] at h; cases h)⟩
theorem QW.mkEr {s : Str} {w w' : World} {x : R Str} {e : Ending} {k : Nat} {c : Int} (hx : x = .er k c) (hb : Below w.heap.size w w') (he : e = .returned (.tuple #[.int .i64 0, faultV ((s.length - k : Nat) : Int) c])) : QW s w x e w' :=
  ⟨hb, fun r h => (by rw [hx] at h; cases h), fun k' c' h => (by rw [hx] at h; cases h; exact he)⟩
set_option maxHeartbeats 4000000 in
set_option maxRecDepth 4000 in
theorem rword_any {s : Str} {i : Nat} {r : Str} (hl : s.length ≤ 20000) (h : Ps s i r) (ws : Str) (hws : ws.length ≤ 10) (w : World) :
    Calls Tryz.prog 99 #[sV s, .int .i64 i, sV ws] w (QW s w (wordR ws r)) := by
  obtain ⟨hle, hdr⟩ := h
  have hbA := below_alloc w (.cells #[.int .i64 0, .int .i64 0] 75)
  have oN := Own.new w [.int .i64 0, .int .i64 0] 75
  have HS := Lib.hid (And.intro hbA oN)
  have HDR := Lib.hid hdr
  clear hbA oN hdr
  go_enter Tryz.func99, Tryz.ntmps99
  go_wp2
  change Code.wp Tryz.prog _ _ _ (w.alloc (.cells #[.int .i64 0, .int .i64 0] 75))
  generalize w.alloc (.cells #[.int .i64 0, .int .i64 0] 75) = V at *
  go_loopg [8] ws.length (fun g v wr => ∃ (k m : Nat) (r' : Str), k ≤ ws.length ∧ g = ws.length - k ∧ v = .int .i64 k ∧ m = i + k ∧ m ≤ s.length ∧ s.drop m = r' ∧ Below w.heap.size w wr ∧ Own wr w.heap.size [.int .i64 0, .int .i64 0] 75 ∧ Hid (wordR ws r = wordR (ws.drop k) r'))
  case atStart => exact ⟨0, i, r, Nat.zero_le _, rfl, rfl, rfl, hle, HDR.out, HS.out.1, HS.out.2, Lib.hid rfl⟩
  case round =>
    obtain ⟨k, m, r', hk, hg, rfl, hm, hms, hd, hb, o, HE⟩ := hrel
    have HG := Lib.hid hg
    have HB := Lib.hid hb
    have hmI : (i : Int) + (k : Int) = (m : Int) := by omega
    have HM := Lib.hid hm
    clear hg hb HS HDR hm
    by_cases hlt : k < ws.length
    · have HT : Hid (ws.drop k = ws[k] :: ws.drop (k + 1)) := Lib.hid (List.drop_eq_getElem_cons hlt)
      cases r' with
      | nil =>
        obtain rfl := drop_end hd hms
        have HQ : Hid (wordR ws r = .er 0 3) := Lib.hid (by rw [HE.out, HT.out]; rfl)
        clear hd
        have r0 := o.cell (i := 0) rfl
        have r1 := o.cell (i := 1) rfl
        have g0 := o.frozen 0
        have g1 := o.frozen 1
        have oS := Lib.hid (((o.set 0 (.int .i64 (s.length))).set 1 (.int .i64 (3))))
        go_wp2
        clear r0 r1 g0 g1
        have x0 := oS.out.cell (i := 0) rfl
        have x1 := oS.out.cell (i := 1) rfl
        exact bodyPost_ret (v := .tuple #[.int .i64 0, faultV (s.length) (3)]) (by simp [results, Tryz.results99, go_sem, x0, x1, faultV]) rfl (QW.mkEr (k := 0) (c := 3) HQ.out (below_set (below_set HB.out (Nat.le_refl _) _) (Nat.le_refl _) _) (by rw [Nat.sub_zero]))
      | cons c r2 =>
        obtain ⟨hlt2, hc, hd', hlen⟩ := drop_byte hd
        have HD := Lib.hid (And.intro hd hd')
        have hm1 : ((⟨s.toArray⟩ : ByteArray)[m]'hlt2).toNat = c.toNat := by rw [← hc]; rfl
        have hm2 : ((⟨ws.toArray⟩ : ByteArray)[k]'hlt).toNat = ws[k].toNat := rfl
        have HLEN := Lib.hid hlen
        clear hd hd' hc hlen
        generalize ws[k] = d at *
        by_cases he : c = d
        · subst he
          have HQ : Hid (wordR ws r = wordR (ws.drop (k + 1)) r2) := Lib.hid (by rw [HE.out, HT.out]; simp [wordR, byteR])
          go_upto_region 6 with (fail)
          go_region
          go_wp2
          go_roundg (ws.length - (k + 1))
          case measure => have := HG.out; omega
          case rel => exact ⟨k + 1, m + 1, r2, by omega, rfl, by go_num, by have := HM.out; omega, by omega, HD.out.2, HB.out.drew, o.drew, HQ⟩
        · have hne : ¬ (c.toNat : Int) = (d.toNat : Int) := fun e => he (UInt8.toNat_inj.1 (by omega))
          have hneb : ((c.toNat : Int) == (d.toNat : Int)) = false := by rw [beq_eq_false_iff_ne]; exact hne
          have HQ : Hid (wordR ws r = .er (r2.length + 1) 2) := Lib.hid (by rw [HE.out, HT.out]; simp [wordR, byteR, he])
          go_upto_region 6 with (fail)
          go_region
          have r0 := o.cell (i := 0) rfl
          have r1 := o.cell (i := 1) rfl
          have g0 := o.frozen 0
          have g1 := o.frozen 1
          have oS := Lib.hid (((o.set 0 (.int .i64 (m))).set 1 (.int .i64 (2))).drew)
          go_wp2
          clear r0 r1 g0 g1
          have x0 := oS.out.cell (i := 0) rfl
          have x1 := oS.out.cell (i := 1) rfl
          exact bodyPost_ret (v := .tuple #[.int .i64 0, faultV (m) (2)]) (by simp [results, Tryz.results99, go_sem, x0, x1, faultV]) rfl (QW.mkEr (k := r2.length + 1) (c := 2) HQ.out (below_set (below_set HB.out (Nat.le_refl _) _) (Nat.le_refl _) _).drew (by rw [show s.length - (r2.length + 1) = m by have := HLEN.out; omega]))
    · obtain rfl : k = ws.length := by omega
      have HQ : Hid (wordR ws r = .ok r') := Lib.hid (by rw [HE.out, List.drop_length]; rfl)
      have HD := Lib.hid hd
      clear hd
      have r0 := o.cell (i := 0) rfl
      have r1 := o.cell (i := 1) rfl
      have g0 := o.frozen 0
      have g1 := o.frozen 1
      have oS := Lib.hid (((o.set 0 (.int .i64 (0))).set 1 (.int .i64 (0))))
      go_wp2
      clear r0 r1 g0 g1
      have x0 := oS.out.cell (i := 0) rfl
      have x1 := oS.out.cell (i := 1) rfl
      exact bodyPost_ret (v := .tuple #[.int .i64 m, faultV (0) (0)]) (by simp [results, Tryz.results99, go_sem, x0, x1, faultV]) rfl (QW.mkOk HQ.out (below_set (below_set HB.out (Nat.le_refl _) _) (Nat.le_refl _) _) ⟨hms, HD.out⟩ rfl)
end Go.Proofs.YtjpmnlefjmdelaaGreatDoor
namespace Go.Proofs.YtjpmnlefjmdelaaGreatDoor
open Go.RowKit Go.Sort Go.Proofs.LawFrame

/-- what number answers -/
structure QN (s : Str) (w : World) (x : R (Int × Str)) (e : Ending) (w' : World) : Prop where
  below : Below w.heap.size w w'
  ok : ∀ n r', x = .ok (n, r') → ∃ j : Nat, Ps s j r' ∧ e = .returned (.tuple #[.int .i64 n, .int .i64 j, faultV 0 0])
  er : ∀ k c, x = .er k c → e = .returned (.tuple #[.int .i64 0, .int .i64 0, faultV ((s.length - k : Nat) : Int) c])
theorem QN.mkOk {s : Str} {w w' : World} {x : R (Int × Str)} {e : Ending} {n : Int} {r' : Str} {j : Nat} (hx : x = .ok (n, r')) (hb : Below w.heap.size w w') (hp : Ps s j r') (he : e = .returned (.tuple #[.int .i64 n, .int .i64 j, faultV 0 0])) : QN s w x e w' :=
  ⟨hb, fun n r h => (by rw [hx] at h; cases h; exact ⟨j, hp, he⟩), fun k c h => (by rw [hx] at h; cases h)⟩
theorem QN.mkEr {s : Str} {w w' : World} {x : R (Int × Str)} {e : Ending} {k : Nat} {c : Int} (hx : x = .er k c) (hb : Below w.heap.size w w') (he : e = .returned (.tuple #[.int .i64 0, .int .i64 0, faultV ((s.length - k : Nat) : Int) c])) : QN s w x e w' :=
  ⟨hb, fun n r h => (by rw [hx] at h; cases h), fun k' c' h => (by rw [hx] at h; cases h; exact he)⟩
theorem zeroD_not {c : UInt8} {r : Str} (h : ¬ c.toNat = 48) : zeroD (c :: r) = none := by
  cases r with
  | nil => rfl
  | cons d r => simp [zeroD, h]
theorem zeroD_next {c : UInt8} {r : Str} (h : digH r = false) : zeroD (c :: r) = none := by
  cases r with
  | nil => rfl
  | cons d r => simp only [digH] at h; simp [zeroD, h]
set_option maxHeartbeats 8000000 in
set_option maxRecDepth 4000 in
theorem rnumber_any {s : Str} {i : Nat} {c : UInt8} {r : Str} (hl : s.length ≤ 20000) (h : Ps s i (c :: r)) (w : World) :
    Calls Tryz.prog 100 #[sV s, .int .i64 i] w (QN s w (numR (c :: r))) := by
  obtain ⟨hi, hci, hdi, hleni⟩ := drop_byte h.dr
  have hmi : ((⟨s.toArray⟩ : ByteArray)[i]'hi).toNat = c.toNat := by rw [← hci]; rfl
  have HLN := Lib.hid hleni
  have HD1 := Lib.hid (show Ps s (i + 1) r from ⟨by omega, hdi⟩)
  have HP := Lib.hid h
  have hbA := below_alloc w (.cells #[.int .i64 0, .int .i64 0] 75)
  have oN := Own.new w [.int .i64 0, .int .i64 0] 75
  have hbV := Lib.hid hbA
  have oV := Lib.hid oN
  clear hbA oN h hci hdi hleni
  go_enter Tryz.func100, Tryz.ntmps100
  by_cases h45 : c.toNat = 45
  · have e45 : (c.toNat : Int) = 45 := by omega
    have HC := Lib.hid h45
    clear h45
    cases r with
    | nil =>
      have hlen1 : i + 1 = s.length := HD1.out.fin
      have hI : (i : Int) + 1 = (s.length : Int) := by omega
      have HQ : Hid (numR [c] = .er 0 3) := Lib.hid (by simp [numR, minusR, HC.out])
      clear hlen1
      go_upto_region 1 with (fail)
      change Code.wp Tryz.prog _ _ _ (w.alloc (.cells #[.int .i64 0, .int .i64 0] 75))
      generalize w.alloc (.cells #[.int .i64 0, .int .i64 0] 75) = V at *
      have r0 := oV.out.cell (i := 0) rfl
      have r1 := oV.out.cell (i := 1) rfl
      have g0 := oV.out.frozen 0
      have g1 := oV.out.frozen 1
      have oS := Lib.hid (((oV.out.set 0 (.int .i64 (s.length))).set 1 (.int .i64 (3))))
      go_wp2
      clear r0 r1 g0 g1
      have x0 := oS.out.cell (i := 0) rfl
      have x1 := oS.out.cell (i := 1) rfl
      exact bodyPost_ret (v := .tuple #[.int .i64 0, .int .i64 0, faultV (s.length) (3)]) (by simp [results, Tryz.results100, go_sem, x0, x1, faultV]) rfl (QN.mkEr (k := 0) (c := 3) HQ.out (below_set (below_set hbV.out (Nat.le_refl _) _) (Nat.le_refl _) _) (by rw [Nat.sub_zero]))
    | cons d r1 =>
      obtain ⟨hi1, hc1, hd1, hlen1⟩ := drop_byte HD1.out.dr
      obtain ⟨j1, hj1⟩ : ∃ j1 : Nat, j1 = i + 1 := ⟨_, rfl⟩
      have hjI : (i : Int) + 1 = (j1 : Int) := by omega
      have HDD1 := Lib.hid (show Ps s j1 (d :: r1) from hj1 ▸ HD1.out)
      have hlt1 : j1 < s.length := by omega
      have hm1 : ((⟨s.toArray⟩ : ByteArray)[j1]'hlt1).toNat = d.toNat := by subst hj1; rw [← hc1]; rfl
      have HJ1 := Lib.hid hj1
      have HLN1 := Lib.hid hlen1
      clear hc1 hd1 hlen1 hj1
      have CD := fun w => Lib.hid (rdigit_any hl HDD1.out.le HDD1.out.dr w)
      by_cases hok : dig d = true ∧ ¬ d.toNat = 48
      · have e48 : ¬ (d.toNat : Int) = 48 := by omega
        have b48 : ((d.toNat : Int) == 48) = false := by rw [beq_eq_false_iff_ne]; exact e48
        have HOK := Lib.hid hok
        have hdd := hok.1
        have HN : Hid (numR (c :: d :: r1) = numF (-1) ((d :: r1).length + 1) (digitsR (d :: r1))) := Lib.hid (by simp only [numR, minusR]; rw [if_pos HC.out, if_pos HOK.out])
        have HZ : Hid (zeroD (d :: r1) = none) := Lib.hid (zeroD_not hok.2)
        clear hok
        go_upto_region 1 with (fail)
        change Code.wp Tryz.prog _ _ _ (w.alloc (.cells #[.int .i64 0, .int .i64 0] 75))
        generalize w.alloc (.cells #[.int .i64 0, .int .i64 0] 75) = V at *
        have CDV := CD V
        clear CD
        go_wp2_with fail
        refine CDV.out.mono ?_
        rintro e w' ⟨rfl, rfl⟩
        simp only [digH, hdd]
        clear hdd CDV
        go_wp2
        have HD0 := HDD1
        rw [show decide (s.length ≤ j1) = false by simp; omega]

        go_loopg [7, 9] (d :: r1).length (fun g vi vn wr => ∃ (j : Nat) (acc : Int) (r' : Str), g = r'.length ∧ vi = .int .i64 j ∧ vn = .int .i64 acc ∧ 0 ≤ acc ∧ acc ≤ 10000000000000009 ∧ j ≤ s.length ∧ s.drop j = r' ∧ V = wr ∧ Hid (digsR 0 (d :: r1) = digsR acc r'))
        case atStart => exact ⟨j1, 0, d :: r1, rfl, by go_num, rfl, by omega, by omega, HD0.out.le, HD0.out.dr, rfl, Lib.hid rfl⟩
        case round =>
          obtain ⟨j, acc, r', hg, rfl, rfl, ha0, ha1, hj, hd, rfl, HE⟩ := hrel
          have HG := Lib.hid hg
          clear hg
          have CD := Lib.hid (rdigit_any hl hj hd V)
          cases r' with
          | nil =>
            have HD := Lib.hid hd
            clear hd
            go_wp2_with fail
            refine CD.out.mono ?_
            rintro e w' ⟨rfl, rfl⟩
            clear CD
            have HF : Hid (digitsR (d :: r1) = .ok (acc, [])) := Lib.hid (by unfold digitsR; rw [HZ.out]; simp only [HE.out]; rfl)
            simp only [digH]
            by_cases hbig : 1000000000000000 < acc
            · have r0 := oV.out.cell (i := 0) rfl
              have r1 := oV.out.cell (i := 1) rfl
              have g0 := oV.out.frozen 0
              have g1 := oV.out.frozen 1
              have oS := Lib.hid (((oV.out.set 0 (.int .i64 (i))).set 1 (.int .i64 (5))))
              go_wp2
              clear r0 r1 g0 g1
              have x0 := oS.out.cell (i := 0) rfl
              have x1 := oS.out.cell (i := 1) rfl
              exact bodyPost_ret (v := .tuple #[.int .i64 0, .int .i64 0, faultV (i) (5)]) (by simp [results, Tryz.results100, go_sem, x0, x1, faultV]) rfl (QN.mkEr (k := (d :: r1).length + 1) (c := 5) (by rw [HN.out, HF.out]; simp only [numF]; rw [if_pos (by omega)]) (below_set (below_set hbV.out (Nat.le_refl _) _) (Nat.le_refl _) _) (by rw [show s.length - ((d :: r1).length + 1) = i by have := HLN.out; omega]))
            · have r0 := oV.out.cell (i := 0) rfl
              have r1 := oV.out.cell (i := 1) rfl
              have g0 := oV.out.frozen 0
              have g1 := oV.out.frozen 1
              have oS := Lib.hid (((oV.out.set 0 (.int .i64 (0))).set 1 (.int .i64 (0))))
              go_wp2
              clear r0 r1 g0 g1
              have x0 := oS.out.cell (i := 0) rfl
              have x1 := oS.out.cell (i := 1) rfl
              exact bodyPost_ret (v := .tuple #[.int .i64 (-acc), .int .i64 j, faultV (0) (0)]) (by simp [results, Tryz.results100, go_sem, x0, x1, faultV]) rfl (QN.mkOk (n := -1 * acc) (j := j) (by rw [HN.out, HF.out]; simp only [numF]; rw [if_neg (by omega)]) (below_set (below_set hbV.out (Nat.le_refl _) _) (Nat.le_refl _) _) ⟨hj, HD.out⟩ (by rw [show (-1 * acc : Int) = -acc by omega]))
          | cons c2 r2 =>
            obtain ⟨hlt, hc, hd', hlen⟩ := drop_byte hd
            have hm : ((⟨s.toArray⟩ : ByteArray)[j]'hlt).toNat = c2.toNat := by rw [← hc]; rfl
            have HD := Lib.hid (And.intro hd hd')
            clear hd hd' hc hlen
            cases hdg : dig c2
            · have HC := Lib.hid hdg
              go_wp2_with fail
              refine CD.out.mono ?_
              rintro e w' ⟨rfl, rfl⟩
              clear CD
              have HF : Hid (digitsR (d :: r1) = .ok (acc, c2 :: r2)) := Lib.hid (by unfold digitsR; rw [HZ.out]; simp only [HE.out]; simp [digsR, HC.out])
              simp only [digH, hdg]
              clear hdg
              by_cases hbig : 1000000000000000 < acc
              · have r0 := oV.out.cell (i := 0) rfl
                have r1 := oV.out.cell (i := 1) rfl
                have g0 := oV.out.frozen 0
                have g1 := oV.out.frozen 1
                have oS := Lib.hid (((oV.out.set 0 (.int .i64 (i))).set 1 (.int .i64 (5))))
                go_wp2
                clear r0 r1 g0 g1
                have x0 := oS.out.cell (i := 0) rfl
                have x1 := oS.out.cell (i := 1) rfl
                exact bodyPost_ret (v := .tuple #[.int .i64 0, .int .i64 0, faultV (i) (5)]) (by simp [results, Tryz.results100, go_sem, x0, x1, faultV]) rfl (QN.mkEr (k := (d :: r1).length + 1) (c := 5) (by rw [HN.out, HF.out]; simp only [numF]; rw [if_pos (by omega)]) (below_set (below_set hbV.out (Nat.le_refl _) _) (Nat.le_refl _) _) (by rw [show s.length - ((d :: r1).length + 1) = i by have := HLN.out; omega]))
              · have r0 := oV.out.cell (i := 0) rfl
                have r1 := oV.out.cell (i := 1) rfl
                have g0 := oV.out.frozen 0
                have g1 := oV.out.frozen 1
                have oS := Lib.hid (((oV.out.set 0 (.int .i64 (0))).set 1 (.int .i64 (0))))
                go_wp2
                clear r0 r1 g0 g1
                have x0 := oS.out.cell (i := 0) rfl
                have x1 := oS.out.cell (i := 1) rfl
                exact bodyPost_ret (v := .tuple #[.int .i64 (-acc), .int .i64 j, faultV (0) (0)]) (by simp [results, Tryz.results100, go_sem, x0, x1, faultV]) rfl (QN.mkOk (n := -1 * acc) (j := j) (by rw [HN.out, HF.out]; simp only [numF]; rw [if_neg (by omega)]) (below_set (below_set hbV.out (Nat.le_refl _) _) (Nat.le_refl _) _) ⟨hj, HD.out.1⟩ (by rw [show (-1 * acc : Int) = -acc by omega]))
            · have hc48 : 48 ≤ c2.toNat := by simp [dig] at hdg; omega
              have hc57 : c2.toNat ≤ 57 := by simp [dig] at hdg; omega
              have HC := Lib.hid hdg
              go_wp2_with fail
              refine CD.out.mono ?_
              rintro e w' ⟨rfl, rfl⟩
              clear CD
              simp only [digH, hdg]
              clear hdg
              by_cases hle : acc ≤ 1000000000000000
              · have HDD : Hid (digTo acc c2 = acc * 10 + ((c2.toNat : Int) - 48)) := Lib.hid (by unfold digTo; rw [if_pos hle]; omega)
                go_wp2
                go_roundg r2.length
                case measure => have := HG.out; simp at this; omega
                case rel => exact ⟨j + 1, digTo acc c2, r2, rfl, by go_num, by rw [HDD.out], by rw [HDD.out]; omega, by rw [HDD.out]; omega, by omega, HD.out.2, rfl, Lib.hid (by rw [HE.out]; simp [digsR, HC.out])⟩
              · have HDD : Hid (digTo acc c2 = acc) := Lib.hid (by unfold digTo; rw [if_neg hle])
                go_wp2
                go_roundg r2.length
                case measure => have := HG.out; simp at this; omega
                case rel => exact ⟨j + 1, acc, r2, rfl, by go_num, rfl, by omega, by omega, by omega, HD.out.2, rfl, Lib.hid (by rw [HE.out]; simp [digsR, HC.out, HDD.out])⟩
      · have HQ : Hid (numR (c :: d :: r1) = .er (r1.length + 1) 2) := Lib.hid (by simp only [numR, minusR]; rw [if_pos HC.out, if_neg hok])
        go_upto_region 1 with (fail)
        change Code.wp Tryz.prog _ _ _ (w.alloc (.cells #[.int .i64 0, .int .i64 0] 75))
        generalize w.alloc (.cells #[.int .i64 0, .int .i64 0] 75) = V at *
        have CDV := CD V
        clear CD
        cases hdd : dig d
        · go_wp2_with fail
          refine CDV.out.mono ?_
          rintro e w' ⟨rfl, rfl⟩
          simp only [digH, hdd]
          clear hdd CDV hok
          have r0 := oV.out.cell (i := 0) rfl
          have r1 := oV.out.cell (i := 1) rfl
          have g0 := oV.out.frozen 0
          have g1 := oV.out.frozen 1
          have oS := Lib.hid (((oV.out.set 0 (.int .i64 (j1))).set 1 (.int .i64 (2))))
          go_wp2
          clear r0 r1 g0 g1
          have x0 := oS.out.cell (i := 0) rfl
          have x1 := oS.out.cell (i := 1) rfl
          exact bodyPost_ret (v := .tuple #[.int .i64 0, .int .i64 0, faultV (j1) (2)]) (by simp [results, Tryz.results100, go_sem, x0, x1, faultV]) rfl (QN.mkEr (k := r1.length + 1) (c := 2) HQ.out (below_set (below_set hbV.out (Nat.le_refl _) _) (Nat.le_refl _) _) (by rw [show s.length - (r1.length + 1) = j1 by have := HDD1.out.len; simp at this; omega]))
        · have e48 : (d.toNat : Int) = 48 := by
            by_cases h0 : d.toNat = 48
            · omega
            · exact absurd ⟨hdd, h0⟩ hok
          go_wp2_with fail
          refine CDV.out.mono ?_
          rintro e w' ⟨rfl, rfl⟩
          simp only [digH, hdd]
          clear hdd CDV hok
          have r0 := oV.out.cell (i := 0) rfl
          have r1 := oV.out.cell (i := 1) rfl
          have g0 := oV.out.frozen 0
          have g1 := oV.out.frozen 1
          have oS := Lib.hid (((oV.out.set 0 (.int .i64 (j1))).set 1 (.int .i64 (2))))
          go_wp2
          clear r0 r1 g0 g1
          have x0 := oS.out.cell (i := 0) rfl
          have x1 := oS.out.cell (i := 1) rfl
          exact bodyPost_ret (v := .tuple #[.int .i64 0, .int .i64 0, faultV (j1) (2)]) (by simp [results, Tryz.results100, go_sem, x0, x1, faultV]) rfl (QN.mkEr (k := r1.length + 1) (c := 2) HQ.out (below_set (below_set hbV.out (Nat.le_refl _) _) (Nat.le_refl _) _) (by rw [show s.length - (r1.length + 1) = j1 by have := HDD1.out.len; simp at this; omega]))
  · have e45 : ¬ (c.toNat : Int) = 45 := by omega
    have b45 : ((c.toNat : Int) == 45) = false := by rw [beq_eq_false_iff_ne]; exact e45
    have HC := Lib.hid h45
    have HN : Hid (numR (c :: r) = numF 1 (r.length + 1) (digitsR (c :: r))) := Lib.hid (by simp only [numR]; rw [if_neg HC.out])
    have HD0 := HP
    clear h45
    go_upto_region 1 with (fail)
    change Code.wp Tryz.prog _ _ _ (w.alloc (.cells #[.int .i64 0, .int .i64 0] 75))
    generalize w.alloc (.cells #[.int .i64 0, .int .i64 0] 75) = V at *
    by_cases h48 : c.toNat = 48
    · have e48 : (c.toNat : Int) = 48 := by omega
      have CD := Lib.hid (rdigit_any hl HD1.out.le HD1.out.dr V)
      obtain ⟨j1, hj1⟩ : ∃ j1 : Nat, j1 = i + 1 := ⟨_, rfl⟩
      rw [← hj1] at CD
      have hjI : (i : Int) + 1 = (j1 : Int) := by omega
      have HJ1 := Lib.hid hj1
      have H48 := Lib.hid h48
      clear hj1 h48
      cases hdg : digH r
      · have HZ : Hid (zeroD (c :: r) = none) := Lib.hid (zeroD_next hdg)
        rw [hdg] at CD
        clear hdg
        go_wp2_with fail
        refine CD.out.mono ?_
        rintro e w' ⟨rfl, rfl⟩
        clear CD
        go_wp2

        go_loopg [7, 9] (c :: r).length (fun g vi vn wr => ∃ (j : Nat) (acc : Int) (r' : Str), g = r'.length ∧ vi = .int .i64 j ∧ vn = .int .i64 acc ∧ 0 ≤ acc ∧ acc ≤ 10000000000000009 ∧ j ≤ s.length ∧ s.drop j = r' ∧ V = wr ∧ Hid (digsR 0 (c :: r) = digsR acc r'))
        case atStart => exact ⟨i, 0, c :: r, rfl, by go_num, rfl, by omega, by omega, HD0.out.le, HD0.out.dr, rfl, Lib.hid rfl⟩
        case round =>
          obtain ⟨j, acc, r', hg, rfl, rfl, ha0, ha1, hj, hd, rfl, HE⟩ := hrel
          have HG := Lib.hid hg
          clear hg
          have CD := Lib.hid (rdigit_any hl hj hd V)
          cases r' with
          | nil =>
            have HD := Lib.hid hd
            clear hd
            go_wp2_with fail
            refine CD.out.mono ?_
            rintro e w' ⟨rfl, rfl⟩
            clear CD
            have HF : Hid (digitsR (c :: r) = .ok (acc, [])) := Lib.hid (by unfold digitsR; rw [HZ.out]; simp only [HE.out]; rfl)
            simp only [digH]
            by_cases hbig : 1000000000000000 < acc
            · have r0 := oV.out.cell (i := 0) rfl
              have r1 := oV.out.cell (i := 1) rfl
              have g0 := oV.out.frozen 0
              have g1 := oV.out.frozen 1
              have oS := Lib.hid (((oV.out.set 0 (.int .i64 (i))).set 1 (.int .i64 (5))))
              go_wp2
              clear r0 r1 g0 g1
              have x0 := oS.out.cell (i := 0) rfl
              have x1 := oS.out.cell (i := 1) rfl
              exact bodyPost_ret (v := .tuple #[.int .i64 0, .int .i64 0, faultV (i) (5)]) (by simp [results, Tryz.results100, go_sem, x0, x1, faultV]) rfl (QN.mkEr (k := r.length + 1) (c := 5) (by rw [HN.out, HF.out]; simp only [numF]; rw [if_pos (by omega)]) (below_set (below_set hbV.out (Nat.le_refl _) _) (Nat.le_refl _) _) (by rw [show s.length - (r.length + 1) = i by have := HLN.out; omega]))
            · have r0 := oV.out.cell (i := 0) rfl
              have r1 := oV.out.cell (i := 1) rfl
              have g0 := oV.out.frozen 0
              have g1 := oV.out.frozen 1
              have oS := Lib.hid (((oV.out.set 0 (.int .i64 (0))).set 1 (.int .i64 (0))))
              go_wp2
              clear r0 r1 g0 g1
              have x0 := oS.out.cell (i := 0) rfl
              have x1 := oS.out.cell (i := 1) rfl
              exact bodyPost_ret (v := .tuple #[.int .i64 (acc), .int .i64 j, faultV (0) (0)]) (by simp [results, Tryz.results100, go_sem, x0, x1, faultV]) rfl (QN.mkOk (n := 1 * acc) (j := j) (by rw [HN.out, HF.out]; simp only [numF]; rw [if_neg (by omega)]) (below_set (below_set hbV.out (Nat.le_refl _) _) (Nat.le_refl _) _) ⟨hj, HD.out⟩ (by rw [show (1 * acc : Int) = acc by omega]))
          | cons c2 r2 =>
            obtain ⟨hlt, hc, hd', hlen⟩ := drop_byte hd
            have hm : ((⟨s.toArray⟩ : ByteArray)[j]'hlt).toNat = c2.toNat := by rw [← hc]; rfl
            have HD := Lib.hid (And.intro hd hd')
            clear hd hd' hc hlen
            cases hdg : dig c2
            · have HC := Lib.hid hdg
              go_wp2_with fail
              refine CD.out.mono ?_
              rintro e w' ⟨rfl, rfl⟩
              clear CD
              have HF : Hid (digitsR (c :: r) = .ok (acc, c2 :: r2)) := Lib.hid (by unfold digitsR; rw [HZ.out]; simp only [HE.out]; simp [digsR, HC.out])
              simp only [digH, hdg]
              clear hdg
              by_cases hbig : 1000000000000000 < acc
              · have r0 := oV.out.cell (i := 0) rfl
                have r1 := oV.out.cell (i := 1) rfl
                have g0 := oV.out.frozen 0
                have g1 := oV.out.frozen 1
                have oS := Lib.hid (((oV.out.set 0 (.int .i64 (i))).set 1 (.int .i64 (5))))
                go_wp2
                clear r0 r1 g0 g1
                have x0 := oS.out.cell (i := 0) rfl
                have x1 := oS.out.cell (i := 1) rfl
                exact bodyPost_ret (v := .tuple #[.int .i64 0, .int .i64 0, faultV (i) (5)]) (by simp [results, Tryz.results100, go_sem, x0, x1, faultV]) rfl (QN.mkEr (k := r.length + 1) (c := 5) (by rw [HN.out, HF.out]; simp only [numF]; rw [if_pos (by omega)]) (below_set (below_set hbV.out (Nat.le_refl _) _) (Nat.le_refl _) _) (by rw [show s.length - (r.length + 1) = i by have := HLN.out; omega]))
              · have r0 := oV.out.cell (i := 0) rfl
                have r1 := oV.out.cell (i := 1) rfl
                have g0 := oV.out.frozen 0
                have g1 := oV.out.frozen 1
                have oS := Lib.hid (((oV.out.set 0 (.int .i64 (0))).set 1 (.int .i64 (0))))
                go_wp2
                clear r0 r1 g0 g1
                have x0 := oS.out.cell (i := 0) rfl
                have x1 := oS.out.cell (i := 1) rfl
                exact bodyPost_ret (v := .tuple #[.int .i64 (acc), .int .i64 j, faultV (0) (0)]) (by simp [results, Tryz.results100, go_sem, x0, x1, faultV]) rfl (QN.mkOk (n := 1 * acc) (j := j) (by rw [HN.out, HF.out]; simp only [numF]; rw [if_neg (by omega)]) (below_set (below_set hbV.out (Nat.le_refl _) _) (Nat.le_refl _) _) ⟨hj, HD.out.1⟩ (by rw [show (1 * acc : Int) = acc by omega]))
            · have hc48 : 48 ≤ c2.toNat := by simp [dig] at hdg; omega
              have hc57 : c2.toNat ≤ 57 := by simp [dig] at hdg; omega
              have HC := Lib.hid hdg
              go_wp2_with fail
              refine CD.out.mono ?_
              rintro e w' ⟨rfl, rfl⟩
              clear CD
              simp only [digH, hdg]
              clear hdg
              by_cases hle : acc ≤ 1000000000000000
              · have HDD : Hid (digTo acc c2 = acc * 10 + ((c2.toNat : Int) - 48)) := Lib.hid (by unfold digTo; rw [if_pos hle]; omega)
                go_wp2
                go_roundg r2.length
                case measure => have := HG.out; simp at this; omega
                case rel => exact ⟨j + 1, digTo acc c2, r2, rfl, by go_num, by rw [HDD.out], by rw [HDD.out]; omega, by rw [HDD.out]; omega, by omega, HD.out.2, rfl, Lib.hid (by rw [HE.out]; simp [digsR, HC.out])⟩
              · have HDD : Hid (digTo acc c2 = acc) := Lib.hid (by unfold digTo; rw [if_neg hle])
                go_wp2
                go_roundg r2.length
                case measure => have := HG.out; simp at this; omega
                case rel => exact ⟨j + 1, acc, r2, rfl, by go_num, rfl, by omega, by omega, by omega, HD.out.2, rfl, Lib.hid (by rw [HE.out]; simp [digsR, HC.out, HDD.out])⟩
      · have HQ : Hid (numR (c :: r) = .er r.length 2) := Lib.hid (by
          rw [HN.out]
          cases r with
          | nil => cases hdg
          | cons d r => simp only [digH] at hdg; simp [digitsR, zeroD, H48.out, hdg, numF])
        rw [hdg] at CD
        clear hdg
        go_wp2_with fail
        refine CD.out.mono ?_
        rintro e w' ⟨rfl, rfl⟩
        clear CD
        have r0 := oV.out.cell (i := 0) rfl
        have r1 := oV.out.cell (i := 1) rfl
        have g0 := oV.out.frozen 0
        have g1 := oV.out.frozen 1
        have oS := Lib.hid (((oV.out.set 0 (.int .i64 (j1))).set 1 (.int .i64 (2))))
        go_wp2
        clear r0 r1 g0 g1
        have x0 := oS.out.cell (i := 0) rfl
        have x1 := oS.out.cell (i := 1) rfl
        exact bodyPost_ret (v := .tuple #[.int .i64 0, .int .i64 0, faultV (j1) (2)]) (by simp [results, Tryz.results100, go_sem, x0, x1, faultV]) rfl (QN.mkEr (k := r.length) (c := 2) HQ.out (below_set (below_set hbV.out (Nat.le_refl _) _) (Nat.le_refl _) _) (by rw [show s.length - r.length = j1 by have := HD1.out.len; have := HJ1.out; omega]))
    · have e48 : ¬ (c.toNat : Int) = 48 := by omega
      have b48 : ((c.toNat : Int) == 48) = false := by rw [beq_eq_false_iff_ne]; exact e48
      have HZ : Hid (zeroD (c :: r) = none) := Lib.hid (zeroD_not h48)
      clear h48
      go_wp2

      go_loopg [7, 9] (c :: r).length (fun g vi vn wr => ∃ (j : Nat) (acc : Int) (r' : Str), g = r'.length ∧ vi = .int .i64 j ∧ vn = .int .i64 acc ∧ 0 ≤ acc ∧ acc ≤ 10000000000000009 ∧ j ≤ s.length ∧ s.drop j = r' ∧ V = wr ∧ Hid (digsR 0 (c :: r) = digsR acc r'))
      case atStart => exact ⟨i, 0, c :: r, rfl, by go_num, rfl, by omega, by omega, HD0.out.le, HD0.out.dr, rfl, Lib.hid rfl⟩
      case round =>
        obtain ⟨j, acc, r', hg, rfl, rfl, ha0, ha1, hj, hd, rfl, HE⟩ := hrel
        have HG := Lib.hid hg
        clear hg
        have CD := Lib.hid (rdigit_any hl hj hd V)
        cases r' with
        | nil =>
          have HD := Lib.hid hd
          clear hd
          go_wp2_with fail
          refine CD.out.mono ?_
          rintro e w' ⟨rfl, rfl⟩
          clear CD
          have HF : Hid (digitsR (c :: r) = .ok (acc, [])) := Lib.hid (by unfold digitsR; rw [HZ.out]; simp only [HE.out]; rfl)
          simp only [digH]
          by_cases hbig : 1000000000000000 < acc
          · have r0 := oV.out.cell (i := 0) rfl
            have r1 := oV.out.cell (i := 1) rfl
            have g0 := oV.out.frozen 0
            have g1 := oV.out.frozen 1
            have oS := Lib.hid (((oV.out.set 0 (.int .i64 (i))).set 1 (.int .i64 (5))))
            go_wp2
            clear r0 r1 g0 g1
            have x0 := oS.out.cell (i := 0) rfl
            have x1 := oS.out.cell (i := 1) rfl
            exact bodyPost_ret (v := .tuple #[.int .i64 0, .int .i64 0, faultV (i) (5)]) (by simp [results, Tryz.results100, go_sem, x0, x1, faultV]) rfl (QN.mkEr (k := r.length + 1) (c := 5) (by rw [HN.out, HF.out]; simp only [numF]; rw [if_pos (by omega)]) (below_set (below_set hbV.out (Nat.le_refl _) _) (Nat.le_refl _) _) (by rw [show s.length - (r.length + 1) = i by have := HLN.out; omega]))
          · have r0 := oV.out.cell (i := 0) rfl
            have r1 := oV.out.cell (i := 1) rfl
            have g0 := oV.out.frozen 0
            have g1 := oV.out.frozen 1
            have oS := Lib.hid (((oV.out.set 0 (.int .i64 (0))).set 1 (.int .i64 (0))))
            go_wp2
            clear r0 r1 g0 g1
            have x0 := oS.out.cell (i := 0) rfl
            have x1 := oS.out.cell (i := 1) rfl
            exact bodyPost_ret (v := .tuple #[.int .i64 (acc), .int .i64 j, faultV (0) (0)]) (by simp [results, Tryz.results100, go_sem, x0, x1, faultV]) rfl (QN.mkOk (n := 1 * acc) (j := j) (by rw [HN.out, HF.out]; simp only [numF]; rw [if_neg (by omega)]) (below_set (below_set hbV.out (Nat.le_refl _) _) (Nat.le_refl _) _) ⟨hj, HD.out⟩ (by rw [show (1 * acc : Int) = acc by omega]))
        | cons c2 r2 =>
          obtain ⟨hlt, hc, hd', hlen⟩ := drop_byte hd
          have hm : ((⟨s.toArray⟩ : ByteArray)[j]'hlt).toNat = c2.toNat := by rw [← hc]; rfl
          have HD := Lib.hid (And.intro hd hd')
          clear hd hd' hc hlen
          cases hdg : dig c2
          · have HC := Lib.hid hdg
            go_wp2_with fail
            refine CD.out.mono ?_
            rintro e w' ⟨rfl, rfl⟩
            clear CD
            have HF : Hid (digitsR (c :: r) = .ok (acc, c2 :: r2)) := Lib.hid (by unfold digitsR; rw [HZ.out]; simp only [HE.out]; simp [digsR, HC.out])
            simp only [digH, hdg]
            clear hdg
            by_cases hbig : 1000000000000000 < acc
            · have r0 := oV.out.cell (i := 0) rfl
              have r1 := oV.out.cell (i := 1) rfl
              have g0 := oV.out.frozen 0
              have g1 := oV.out.frozen 1
              have oS := Lib.hid (((oV.out.set 0 (.int .i64 (i))).set 1 (.int .i64 (5))))
              go_wp2
              clear r0 r1 g0 g1
              have x0 := oS.out.cell (i := 0) rfl
              have x1 := oS.out.cell (i := 1) rfl
              exact bodyPost_ret (v := .tuple #[.int .i64 0, .int .i64 0, faultV (i) (5)]) (by simp [results, Tryz.results100, go_sem, x0, x1, faultV]) rfl (QN.mkEr (k := r.length + 1) (c := 5) (by rw [HN.out, HF.out]; simp only [numF]; rw [if_pos (by omega)]) (below_set (below_set hbV.out (Nat.le_refl _) _) (Nat.le_refl _) _) (by rw [show s.length - (r.length + 1) = i by have := HLN.out; omega]))
            · have r0 := oV.out.cell (i := 0) rfl
              have r1 := oV.out.cell (i := 1) rfl
              have g0 := oV.out.frozen 0
              have g1 := oV.out.frozen 1
              have oS := Lib.hid (((oV.out.set 0 (.int .i64 (0))).set 1 (.int .i64 (0))))
              go_wp2
              clear r0 r1 g0 g1
              have x0 := oS.out.cell (i := 0) rfl
              have x1 := oS.out.cell (i := 1) rfl
              exact bodyPost_ret (v := .tuple #[.int .i64 (acc), .int .i64 j, faultV (0) (0)]) (by simp [results, Tryz.results100, go_sem, x0, x1, faultV]) rfl (QN.mkOk (n := 1 * acc) (j := j) (by rw [HN.out, HF.out]; simp only [numF]; rw [if_neg (by omega)]) (below_set (below_set hbV.out (Nat.le_refl _) _) (Nat.le_refl _) _) ⟨hj, HD.out.1⟩ (by rw [show (1 * acc : Int) = acc by omega]))
          · have hc48 : 48 ≤ c2.toNat := by simp [dig] at hdg; omega
            have hc57 : c2.toNat ≤ 57 := by simp [dig] at hdg; omega
            have HC := Lib.hid hdg
            go_wp2_with fail
            refine CD.out.mono ?_
            rintro e w' ⟨rfl, rfl⟩
            clear CD
            simp only [digH, hdg]
            clear hdg
            by_cases hle : acc ≤ 1000000000000000
            · have HDD : Hid (digTo acc c2 = acc * 10 + ((c2.toNat : Int) - 48)) := Lib.hid (by unfold digTo; rw [if_pos hle]; omega)
              go_wp2
              go_roundg r2.length
              case measure => have := HG.out; simp at this; omega
              case rel => exact ⟨j + 1, digTo acc c2, r2, rfl, by go_num, by rw [HDD.out], by rw [HDD.out]; omega, by rw [HDD.out]; omega, by omega, HD.out.2, rfl, Lib.hid (by rw [HE.out]; simp [digsR, HC.out])⟩
            · have HDD : Hid (digTo acc c2 = acc) := Lib.hid (by unfold digTo; rw [if_neg hle])
              go_wp2
              go_roundg r2.length
              case measure => have := HG.out; simp at this; omega
              case rel => exact ⟨j + 1, acc, r2, rfl, by go_num, rfl, by omega, by omega, by omega, HD.out.2, rfl, Lib.hid (by rw [HE.out]; simp [digsR, HC.out, HDD.out])⟩
end Go.Proofs.YtjpmnlefjmdelaaGreatDoor
namespace Go.Proofs.YtjpmnlefjmdelaaGreatDoor
open Go.RowKit Go.Sort Go.Proofs.LawFrame

/-- what name and str answer -/
structure QS (s : Str) (w : World) (x : R (Str × Str)) (e : Ending) (w' : World) : Prop where
  below : Below w.heap.size w w'
  ok : ∀ l r', x = .ok (l, r') → ∃ j : Nat, Ps s j r' ∧ e = .returned (.tuple #[sV l, .int .i64 j, faultV 0 0])
  er : ∀ k c, x = .er k c → e = .returned (.tuple #[.string ⟨#[]⟩, .int .i64 0, faultV ((s.length - k : Nat) : Int) c])
theorem QS.mkOk {s : Str} {w w' : World} {x : R (Str × Str)} {e : Ending} {l : Str} {r' : Str} {j : Nat} (hx : x = .ok (l, r')) (hb : Below w.heap.size w w') (hp : Ps s j r') (he : e = .returned (.tuple #[sV l, .int .i64 j, faultV 0 0])) : QS s w x e w' :=
  ⟨hb, fun n r h => (by rw [hx] at h; cases h; exact ⟨j, hp, he⟩), fun k c h => (by rw [hx] at h; cases h)⟩
theorem QS.mkEr {s : Str} {w w' : World} {x : R (Str × Str)} {e : Ending} {k : Nat} {c : Int} (hx : x = .er k c) (hb : Below w.heap.size w w') (he : e = .returned (.tuple #[.string ⟨#[]⟩, .int .i64 0, faultV ((s.length - k : Nat) : Int) c])) : QS s w x e w' :=
  ⟨hb, fun n r h => (by rw [hx] at h; cases h), fun k' c' h => (by rw [hx] at h; cases h; exact he)⟩
def prepS (l : Str) : R (Str × Str) → R (Str × Str)
  | .er a b => .er a b
  | .ok (l', r) => .ok (l ++ l', r)
theorem prepS_nil (x : R (Str × Str)) : prepS [] x = x := by cases x <;> rfl
theorem nameR_step {k : Nat} {c : UInt8} {r : Str} (l : Str) (h1 : ¬ (c.toNat = 34 ∧ ¬ k = 0)) (h2 : nmByte c = true) (h3 : ¬ k = 40) : prepS l (nameR k (c :: r)) = prepS (l ++ [c]) (nameR (k + 1) r) := by
  rw [nameR, if_neg h1, if_neg (by rw [h2]; simp), if_neg h3]
  cases nameR (k + 1) r with
  | er a b => rfl
  | ok q => obtain ⟨l2, r2⟩ := q; simp [prepS]
theorem strR_step {f k : Nat} {c : UInt8} {r : Str} {x : UInt8} {r2 : Str} (l : Str) (h1 : ¬ c.toNat = 34) (h2 : prt c = true) (h3 : ¬ k = 200) (hx : charR (c :: r) = .ok (x, r2)) : prepS l (strR (f + 1) k (c :: r)) = prepS (l ++ [x]) (strR f (k + 1) r2) := by
  rw [strR]
  rw [if_neg h1, if_neg (by rw [h2]; simp), if_neg h3, hx]
  simp only
  cases strR f (k + 1) r2 with
  | er a b => rfl
  | ok q => obtain ⟨l2, r3⟩ := q; simp [prepS]
theorem strR_nil {f k : Nat} (h : 1 ≤ f) : strR f k [] = .er 0 3 := by
  obtain ⟨f, rfl⟩ : ∃ g, f = g + 1 := ⟨f - 1, by omega⟩
  rfl
theorem strR_end {f k : Nat} {c : UInt8} {r : Str} (h : 1 ≤ f) (h1 : c.toNat = 34) : strR f k (c :: r) = .ok ([], r) := by
  obtain ⟨f, rfl⟩ : ∃ g, f = g + 1 := ⟨f - 1, by omega⟩
  rw [strR]; rw [if_pos h1]
theorem strR_bad {f k : Nat} {c : UInt8} {r : Str} (h : 1 ≤ f) (h1 : ¬ c.toNat = 34) (h2 : prt c = false) : strR f k (c :: r) = .er (r.length + 1) 2 := by
  obtain ⟨f, rfl⟩ : ∃ g, f = g + 1 := ⟨f - 1, by omega⟩
  rw [strR]; rw [if_neg h1, if_pos h2]
theorem strR_long {f k : Nat} {c : UInt8} {r : Str} (h : 1 ≤ f) (h1 : ¬ c.toNat = 34) (h2 : prt c = true) (h3 : k = 200) : strR f k (c :: r) = .er (r.length + 1) 4 := by
  obtain ⟨f, rfl⟩ : ∃ g, f = g + 1 := ⟨f - 1, by omega⟩
  rw [strR]; rw [if_neg h1, if_neg (by rw [h2]; simp), if_pos h3]
theorem strR_esc {f k : Nat} {c : UInt8} {r : Str} {a : Nat} {b : Int} (h : 1 ≤ f) (h1 : ¬ c.toNat = 34) (h2 : prt c = true) (h3 : ¬ k = 200) (hx : charR (c :: r) = .er a b) : strR f k (c :: r) = .er a b := by
  obtain ⟨f, rfl⟩ : ∃ g, f = g + 1 := ⟨f - 1, by omega⟩
  rw [strR]; rw [if_neg h1, if_neg (by rw [h2]; simp), if_neg h3, hx]

set_option maxHeartbeats 8000000 in
set_option maxRecDepth 4000 in
theorem rname_any {s : Str} {i : Nat} {q : UInt8} {r : Str} (hl : s.length ≤ 20000) (h : Ps s i (q :: r)) (w : World) :
    Calls Tryz.prog 175 #[sV s, .int .i64 i] w (QS s w (nameR 0 r)) := by
  obtain ⟨i5, hi5, hz5, hs5, hy5⟩ := info_parts info5
  have HD1 := Lib.hid h.next
  have hbA := below_alloc w (.cells #[.int .i64 0, .int .i64 0] 75)
  have oN := Own.new w [.int .i64 0, .int .i64 0] 75
  have hown0 : (w.alloc (.cells #[.int .i64 0, .int .i64 0] 75)).ownsRow (w.heap.size + 1) 5 1 (.slice none 0 0) 0 (bC []) := own_nil _ _ _ _
  have HS := Lib.hid (And.intro hbA (And.intro oN hown0))
  have hi : i < s.length := (drop_byte h.dr).1
  clear hbA oN hown0 h
  go_enter Tryz.func175, Tryz.ntmps175
  go_wp2
  change Code.wp Tryz.prog _ _ _ (w.alloc (.cells #[.int .i64 0, .int .i64 0] 75))
  generalize w.alloc (.cells #[.int .i64 0, .int .i64 0] 75) = V at *
  go_loopg [7, 8] r.length (fun g v7 v8 wr => ∃ (j : Nat) (acc r' : Str), g = r'.length ∧ v8 = .int .i64 j ∧ j ≤ s.length ∧ s.drop j = r' ∧ acc.length ≤ 40 ∧ Below w.heap.size w wr ∧ Own wr w.heap.size [.int .i64 0, .int .i64 0] 75 ∧ wr.ownsRow (w.heap.size + 1) 5 1 v7 acc.length (bC acc) ∧ Hid (nameR 0 r = prepS acc (nameR acc.length r')))
  case atStart => exact ⟨i + 1, [], r, rfl, by go_num, by omega, HD1.out.dr, by simp, HS.out.1, HS.out.2.1, HS.out.2.2, Lib.hid (by rw [prepS_nil]; rfl)⟩
  case round =>
    obtain ⟨j, acc, r', hg, rfl, hj, hd, hal, hb, o, hown, HE⟩ := hrel
    have HG := Lib.hid hg
    have HB := Lib.hid hb
    have hbsz := hb.size
    have hcv := conv_own (l := acc) hown
    clear hg hb HS HD1
    obtain ⟨ao, cap, hu, -, -, -⟩ := (Flat.of_own hown).out
    subst hu
    generalize hN : acc.length = M at *
    have HN := Lib.hid hN
    clear hN
    cases r' with
    | nil =>
      obtain rfl := drop_end hd hj
      have HQ : Hid (nameR 0 r = .er 0 3) := Lib.hid (by rw [HE.out]; rfl)
      clear hd
      have r0 := o.cell (i := 0) rfl
      have r1 := o.cell (i := 1) rfl
      have g0 := o.frozen 0
      have g1 := o.frozen 1
      have oS := Lib.hid (((o.set 0 (.int .i64 (s.length))).set 1 (.int .i64 (3))))
      go_wp2
      clear r0 r1 g0 g1
      have x0 := oS.out.cell (i := 0) rfl
      have x1 := oS.out.cell (i := 1) rfl
      exact bodyPost_ret (v := .tuple #[.string ⟨#[]⟩, .int .i64 0, faultV (s.length) (3)]) (by simp [results, Tryz.results175, go_sem, x0, x1, faultV]) rfl (QS.mkEr (k := 0) (c := 3) HQ.out (below_set (below_set HB.out (Nat.le_refl _) _) (Nat.le_refl _) _) (by rw [Nat.sub_zero]))
    | cons c r2 =>
      obtain ⟨hlt, hc, hd', hlen⟩ := drop_byte hd
      have hm : ((⟨s.toArray⟩ : ByteArray)[j]'hlt).toNat = c.toNat := by rw [← hc]; rfl
      have HD := Lib.hid (And.intro hd hd')
      have HLEN := Lib.hid hlen
      clear hd hd' hc hlen
      have hMz : ¬ M = 0 → decide (0 < (M : Int)) = true := fun h => by simp; omega
      by_cases hq : c.toNat = 34 ∧ ¬ M = 0
      · have e34 : (c.toNat : Int) = 34 := by have := hq.1; omega
        have hM0 : 0 < M := by omega
        have HQ : Hid (nameR 0 r = .ok (acc, r2)) := Lib.hid (by rw [HE.out, nameR, if_pos hq]; simp [prepS])
        clear hq hMz
        have r0 := o.cell (i := 0) rfl
        have r1 := o.cell (i := 1) rfl
        have g0 := o.frozen 0
        have g1 := o.frozen 1
        have oS := Lib.hid (((o.set 0 (.int .i64 (0))).set 1 (.int .i64 (0))))
        go_wp2
        clear r0 r1 g0 g1
        have x0 := oS.out.cell (i := 0) rfl
        have x1 := oS.out.cell (i := 1) rfl
        exact bodyPost_ret (v := .tuple #[sV acc, .int .i64 ((j + 1 : Nat) : Int), faultV (0) (0)]) (by simp [results, Tryz.results175, go_sem, x0, x1, faultV]) rfl (QS.mkOk (j := j + 1) HQ.out (below_set (below_set HB.out (Nat.le_refl _) _) (Nat.le_refl _) _) ⟨by omega, HD.out.2⟩ rfl)
      · have HNQ := Lib.hid hq
        have CN := Lib.hid (rNameByte_any c wr)
        obtain ⟨B, hB⟩ : ∃ B, nmByte c = B := ⟨_, rfl⟩
        rw [hB] at CN
        have HB2 := Lib.hid hB
        clear hB hMz
        have key : (¬ (c.toNat : Int) = 34 ∧ ((c.toNat : Int) == 34) = false) ∨ ((c.toNat : Int) = 34 ∧ M = 0) := by
          by_cases h34 : c.toNat = 34
          · exact Or.inr ⟨by omega, by
              by_cases h0 : M = 0
              · exact h0
              · exact absurd ⟨h34, h0⟩ hq⟩
          · exact Or.inl ⟨by omega, by rw [beq_eq_false_iff_ne]; omega⟩
        clear hq
        rcases key with ⟨k1, k2⟩ | ⟨k1, k2⟩
        · go_wp2_with fail
          refine CN.out.mono ?_
          rintro e w' ⟨rfl, rfl⟩
          clear CN
          cases B with
          | false =>
            have HQ : Hid (nameR 0 r = .er (r2.length + 1) 2) := Lib.hid (by rw [HE.out, nameR, if_neg HNQ.out, if_pos HB2.out]; rfl)
            have r0 := o.cell (i := 0) rfl
            have r1 := o.cell (i := 1) rfl
            have g0 := o.frozen 0
            have g1 := o.frozen 1
            have oS := Lib.hid (((o.set 0 (.int .i64 (j))).set 1 (.int .i64 (2))))
            go_wp2
            clear r0 r1 g0 g1
            have x0 := oS.out.cell (i := 0) rfl
            have x1 := oS.out.cell (i := 1) rfl
            exact bodyPost_ret (v := .tuple #[.string ⟨#[]⟩, .int .i64 0, faultV (j) (2)]) (by simp [results, Tryz.results175, go_sem, x0, x1, faultV]) rfl (QS.mkEr (k := r2.length + 1) (c := 2) HQ.out (below_set (below_set HB.out (Nat.le_refl _) _) (Nat.le_refl _) _) (by rw [show s.length - (r2.length + 1) = j by have := HLEN.out; omega]))
          | true =>
            by_cases h40 : M = 40
            · have h40i : (M : Int) = 40 := by omega
              have HQ : Hid (nameR 0 r = .er (r2.length + 1) 4) := Lib.hid (by rw [HE.out, nameR, if_neg HNQ.out, if_neg (by rw [HB2.out]; simp), if_pos h40]; rfl)
              clear h40
              have r0 := o.cell (i := 0) rfl
              have r1 := o.cell (i := 1) rfl
              have g0 := o.frozen 0
              have g1 := o.frozen 1
              have oS := Lib.hid (((o.set 0 (.int .i64 (j))).set 1 (.int .i64 (4))))
              go_wp2
              clear r0 r1 g0 g1
              have x0 := oS.out.cell (i := 0) rfl
              have x1 := oS.out.cell (i := 1) rfl
              exact bodyPost_ret (v := .tuple #[.string ⟨#[]⟩, .int .i64 0, faultV (j) (4)]) (by simp [results, Tryz.results175, go_sem, x0, x1, faultV]) rfl (QS.mkEr (k := r2.length + 1) (c := 4) HQ.out (below_set (below_set HB.out (Nat.le_refl _) _) (Nat.le_refl _) _) (by rw [show s.length - (r2.length + 1) = j by have := HLEN.out; omega]))
            · have h40i : ¬ (M : Int) = 40 := by omega
              have h40b : ((M : Int) == 40) = false := by rw [beq_eq_false_iff_ne]; exact h40i
              go_upto_region 10 with (fail)
              go_wp2_with (first | (at_builtin; refine wpList_append_own _ rfl (.tmp 41) (.tmp 45) 61 rfl (w.heap.size + 1) 5 i5 (.int .u8 0) 1 1 Tryz.underlying61 hi5 hz5 hs5 hy5 rfl (by decide) _ _ _ rfl (hown.alloc _) ⟨wr.heap.size, 0, none⟩ 1 1 [.int .u8 (c.toNat : Int)] rfl rfl (own_src (Own.new _ _ _)) (fun u hu => by simp at hu; subst hu; rfl) (by unfold maxLen; omega) (by omega) (by simp <;> omega) ?_; intro v2 w2 hown2 hgrow2 hnil2))
              have HBel := Lib.hid (below_grw (HB.out.alloc HB.out.size _) hgrow2 (fun k hk => by have := own_row hown k hk; omega))
              have HOw := Lib.hid (own_kept' (o.alloc _) hgrow2 (fun e => by have := own_row hown _ e; omega))
              go_roundg (r2).length
              case measure => have := HG.out; simp at this; simp; omega
              case rel => exact ⟨j + 1, acc ++ [c], r2, rfl, by go_num, by omega, HD.out.2, by rw [List.length_append, HN.out]; simp; omega, HBel.out, HOw.out, by rw [bC_app, List.length_append, HN.out]; exact hown2, Lib.hid (by rw [HE.out, List.length_append, HN.out]; exact nameR_step acc HNQ.out HB2.out h40)⟩
        · have hBf : B = false := by rw [← HB2.out]; unfold nmByte; simp; omega
          subst hBf
          have HM0 := Lib.hid k2
          have hM1 : ¬ 0 < M := by omega
          clear k2 CN
          have CN : Hid (Calls Tryz.prog 196 #[.int .u8 34] wr fun e w' => e = .returned (.bool false) ∧ wr = w') := Lib.hid (by have := rNameByte_any 34 wr; exact this)
          go_wp2_with fail
          refine CN.out.mono ?_
          rintro e w' ⟨rfl, rfl⟩
          clear CN
          have HQ : Hid (nameR 0 r = .er (r2.length + 1) 2) := Lib.hid (by rw [HE.out, nameR, if_neg HNQ.out, if_pos HB2.out]; rfl)
          have r0 := o.cell (i := 0) rfl
          have r1 := o.cell (i := 1) rfl
          have g0 := o.frozen 0
          have g1 := o.frozen 1
          have oS := Lib.hid (((o.set 0 (.int .i64 (j))).set 1 (.int .i64 (2))))
          go_wp2
          clear r0 r1 g0 g1
          have x0 := oS.out.cell (i := 0) rfl
          have x1 := oS.out.cell (i := 1) rfl
          exact bodyPost_ret (v := .tuple #[.string ⟨#[]⟩, .int .i64 0, faultV (j) (2)]) (by simp [results, Tryz.results175, go_sem, x0, x1, faultV]) rfl (QS.mkEr (k := r2.length + 1) (c := 2) HQ.out (below_set (below_set HB.out (Nat.le_refl _) _) (Nat.le_refl _) _) (by rw [show s.length - (r2.length + 1) = j by have := HLEN.out; omega]))
end Go.Proofs.YtjpmnlefjmdelaaGreatDoor
namespace Go.Proofs.YtjpmnlefjmdelaaGreatDoor
open Go.RowKit Go.Sort Go.Proofs.LawFrame

set_option maxHeartbeats 8000000 in
set_option maxRecDepth 4000 in
theorem rstr_any {s : Str} {i : Nat} {q : UInt8} {r : Str} (hl : s.length ≤ 20000) (h : Ps s i (q :: r)) (w : World) :
    Calls Tryz.prog 98 #[sV s, .int .i64 i] w (QS s w (strR (r.length + 1) 0 r)) := by
  obtain ⟨i5, hi5, hz5, hs5, hy5⟩ := info_parts info5
  have HD1 := Lib.hid h.next
  have hbA := below_alloc w (.cells #[.int .i64 0, .int .i64 0] 75)
  have oN := Own.new w [.int .i64 0, .int .i64 0] 75
  have hown0 : (w.alloc (.cells #[.int .i64 0, .int .i64 0] 75)).ownsRow (w.heap.size + 1) 5 1 (.slice none 0 0) 0 (bC []) := own_nil _ _ _ _
  have HS := Lib.hid (And.intro hbA (And.intro oN hown0))
  have hi : i < s.length := (drop_byte h.dr).1
  clear hbA oN hown0 h
  go_enter Tryz.func98, Tryz.ntmps98
  go_wp2
  change Code.wp Tryz.prog _ _ _ (w.alloc (.cells #[.int .i64 0, .int .i64 0] 75))
  generalize w.alloc (.cells #[.int .i64 0, .int .i64 0] 75) = V at *
  go_loopg [7, 8] r.length (fun g v7 v8 wr => ∃ (j : Nat) (acc r' : Str), g = r'.length ∧ v8 = .int .i64 j ∧ j ≤ s.length ∧ s.drop j = r' ∧ acc.length ≤ 200 ∧ Below w.heap.size w wr ∧ Own wr w.heap.size [.int .i64 0, .int .i64 0] 75 ∧ wr.ownsRow (w.heap.size + 1) 5 1 v7 acc.length (bC acc) ∧ Hid (∃ f, r'.length + 1 ≤ f ∧ strR (r.length + 1) 0 r = prepS acc (strR f acc.length r')))
  case atStart => exact ⟨i + 1, [], r, rfl, by go_num, by omega, HD1.out.dr, by simp, HS.out.1, HS.out.2.1, HS.out.2.2, Lib.hid ⟨r.length + 1, Nat.le_refl _, by rw [prepS_nil]; rfl⟩⟩
  case round =>
    obtain ⟨j, acc, r', hg, rfl, hj, hd, hal, hb, o, hown, HE⟩ := hrel
    have HG := Lib.hid hg
    have HB := Lib.hid hb
    have hbsz := hb.size
    have hcv := conv_own (l := acc) hown
    clear hg hb HS HD1
    obtain ⟨ao, cap, hu, -, -, -⟩ := (Flat.of_own hown).out
    subst hu
    generalize hN : acc.length = M at *
    have HN := Lib.hid hN
    clear hN
    obtain ⟨f, hf, he0⟩ := HE.out
    clear HE
    have HF := Lib.hid hf
    have HE := Lib.hid he0
    clear hf he0
    cases r' with
    | nil =>
      obtain rfl := drop_end hd hj
      have HQ : Hid (strR (r.length + 1) 0 r = .er 0 3) := Lib.hid (by rw [HE.out, strR_nil (by have := HF.out; omega)]; rfl)
      clear hd
      have r0 := o.cell (i := 0) rfl
      have r1 := o.cell (i := 1) rfl
      have g0 := o.frozen 0
      have g1 := o.frozen 1
      have oS := Lib.hid (((o.set 0 (.int .i64 (s.length))).set 1 (.int .i64 (3))))
      go_wp2
      clear r0 r1 g0 g1
      have x0 := oS.out.cell (i := 0) rfl
      have x1 := oS.out.cell (i := 1) rfl
      exact bodyPost_ret (v := .tuple #[.string ⟨#[]⟩, .int .i64 0, faultV (s.length) (3)]) (by simp [results, Tryz.results98, go_sem, x0, x1, faultV]) rfl (QS.mkEr (k := 0) (c := 3) HQ.out (below_set (below_set HB.out (Nat.le_refl _) _) (Nat.le_refl _) _) (by rw [Nat.sub_zero]))
    | cons c r2 =>
      obtain ⟨hlt, hc, hd', hlen⟩ := drop_byte hd
      have hm : ((⟨s.toArray⟩ : ByteArray)[j]'hlt).toNat = c.toNat := by rw [← hc]; rfl
      have HD := Lib.hid (And.intro hd hd')
      have HLEN := Lib.hid hlen
      have hm256 : c.toNat < 256 := c.toNat_lt
      clear hd hd' hc hlen
      by_cases h34 : c.toNat = 34
      · have e34 : (c.toNat : Int) = 34 := by omega
        have HQ : Hid (strR (r.length + 1) 0 r = .ok (acc, r2)) := Lib.hid (by rw [HE.out, strR_end (by have := HF.out; omega) h34]; simp [prepS])
        clear h34
        have r0 := o.cell (i := 0) rfl
        have r1 := o.cell (i := 1) rfl
        have g0 := o.frozen 0
        have g1 := o.frozen 1
        have oS := Lib.hid (((o.set 0 (.int .i64 (0))).set 1 (.int .i64 (0))))
        go_wp2
        clear r0 r1 g0 g1
        have x0 := oS.out.cell (i := 0) rfl
        have x1 := oS.out.cell (i := 1) rfl
        exact bodyPost_ret (v := .tuple #[sV acc, .int .i64 ((j + 1 : Nat) : Int), faultV (0) (0)]) (by simp [results, Tryz.results98, go_sem, x0, x1, faultV]) rfl (QS.mkOk (j := j + 1) HQ.out (below_set (below_set HB.out (Nat.le_refl _) _) (Nat.le_refl _) _) ⟨by omega, HD.out.2⟩ rfl)
      have e34 : ¬ (c.toNat : Int) = 34 := by omega
      have b34 : ((c.toNat : Int) == 34) = false := by rw [beq_eq_false_iff_ne]; exact e34
      have H34 := Lib.hid h34
      clear h34
      by_cases hp : prt c = false
      · have HQ : Hid (strR (r.length + 1) 0 r = .er (r2.length + 1) 2) := Lib.hid (by rw [HE.out, strR_bad (by have := HF.out; omega) H34.out hp]; rfl)
        have hp' : (c.toNat : Int) < 32 ∨ (¬ (c.toNat : Int) < 32 ∧ 126 < (c.toNat : Int)) := by unfold prt at hp; simp at hp; omega
        clear hp
        rcases hp' with p1 | ⟨p1, p2⟩
        · skip
          have r0 := o.cell (i := 0) rfl
          have r1 := o.cell (i := 1) rfl
          have g0 := o.frozen 0
          have g1 := o.frozen 1
          have oS := Lib.hid (((o.set 0 (.int .i64 (j))).set 1 (.int .i64 (2))))
          go_wp2
          clear r0 r1 g0 g1
          have x0 := oS.out.cell (i := 0) rfl
          have x1 := oS.out.cell (i := 1) rfl
          exact bodyPost_ret (v := .tuple #[.string ⟨#[]⟩, .int .i64 0, faultV (j) (2)]) (by simp [results, Tryz.results98, go_sem, x0, x1, faultV]) rfl (QS.mkEr (k := r2.length + 1) (c := 2) HQ.out (below_set (below_set HB.out (Nat.le_refl _) _) (Nat.le_refl _) _) (by rw [show s.length - (r2.length + 1) = j by have := HLEN.out; omega]))
        · skip
          have r0 := o.cell (i := 0) rfl
          have r1 := o.cell (i := 1) rfl
          have g0 := o.frozen 0
          have g1 := o.frozen 1
          have oS := Lib.hid (((o.set 0 (.int .i64 (j))).set 1 (.int .i64 (2))))
          go_wp2
          clear r0 r1 g0 g1
          have x0 := oS.out.cell (i := 0) rfl
          have x1 := oS.out.cell (i := 1) rfl
          exact bodyPost_ret (v := .tuple #[.string ⟨#[]⟩, .int .i64 0, faultV (j) (2)]) (by simp [results, Tryz.results98, go_sem, x0, x1, faultV]) rfl (QS.mkEr (k := r2.length + 1) (c := 2) HQ.out (below_set (below_set HB.out (Nat.le_refl _) _) (Nat.le_refl _) _) (by rw [show s.length - (r2.length + 1) = j by have := HLEN.out; omega]))
      have p1 : ¬ (c.toNat : Int) < 32 := by unfold prt at hp; simp at hp; omega
      have p2 : ¬ 126 < (c.toNat : Int) := by unfold prt at hp; simp at hp; omega
      have HP : Hid (prt c = true) := Lib.hid (by simpa using hp)
      clear hp
      by_cases h200 : M = 200
      · have HQ : Hid (strR (r.length + 1) 0 r = .er (r2.length + 1) 4) := Lib.hid (by rw [HE.out, strR_long (by have := HF.out; omega) H34.out HP.out h200]; rfl)
        have h200i : (M : Int) = 200 := by omega
        clear h200
        have r0 := o.cell (i := 0) rfl
        have r1 := o.cell (i := 1) rfl
        have g0 := o.frozen 0
        have g1 := o.frozen 1
        have oS := Lib.hid (((o.set 0 (.int .i64 (j))).set 1 (.int .i64 (4))))
        go_wp2
        clear r0 r1 g0 g1
        have x0 := oS.out.cell (i := 0) rfl
        have x1 := oS.out.cell (i := 1) rfl
        exact bodyPost_ret (v := .tuple #[.string ⟨#[]⟩, .int .i64 0, faultV (j) (4)]) (by simp [results, Tryz.results98, go_sem, x0, x1, faultV]) rfl (QS.mkEr (k := r2.length + 1) (c := 4) HQ.out (below_set (below_set HB.out (Nat.le_refl _) _) (Nat.le_refl _) _) (by rw [show s.length - (r2.length + 1) = j by have := HLEN.out; omega]))
      have h200i : ¬ (M : Int) = 200 := by omega
      have h200b : ((M : Int) == 200) = false := by rw [beq_eq_false_iff_ne]; exact h200i
      have H200 := Lib.hid h200
      have hMs : M < 200 := by omega
      clear h200
      by_cases h92 : c.toNat = 92
      · have e92 : (c.toNat : Int) = 92 := by omega
        have H92 := Lib.hid h92
        clear h92
        cases r2 with
        | nil =>
          have hfin : j + 1 = s.length := by have := HLEN.out; simp at this; omega
          have hjI : (j : Int) + 1 = (s.length : Int) := by omega
          have HQ : Hid (strR (r.length + 1) 0 r = .er 0 3) := Lib.hid (by rw [HE.out, strR_esc (a := 0) (b := 3) (by have := HF.out; omega) H34.out HP.out H200.out (by simp only [charR]; rw [if_pos H92.out]; rfl)]; rfl)
          clear hfin
          have r0 := o.cell (i := 0) rfl
          have r1 := o.cell (i := 1) rfl
          have g0 := o.frozen 0
          have g1 := o.frozen 1
          have oS := Lib.hid (((o.set 0 (.int .i64 (s.length))).set 1 (.int .i64 (3))))
          go_wp2
          clear r0 r1 g0 g1
          have x0 := oS.out.cell (i := 0) rfl
          have x1 := oS.out.cell (i := 1) rfl
          exact bodyPost_ret (v := .tuple #[.string ⟨#[]⟩, .int .i64 0, faultV (s.length) (3)]) (by simp [results, Tryz.results98, go_sem, x0, x1, faultV]) rfl (QS.mkEr (k := 0) (c := 3) HQ.out (below_set (below_set HB.out (Nat.le_refl _) _) (Nat.le_refl _) _) (by rw [Nat.sub_zero]))
        | cons e0 r3 =>
          obtain ⟨hlt1, hc1, hd1, hlen1⟩ := drop_byte HD.out.2
          obtain ⟨j1, hj1⟩ : ∃ j1 : Nat, j1 = j + 1 := ⟨_, rfl⟩
          have hjI : (j : Int) + 1 = (j1 : Int) := by omega
          have hltj : j1 < s.length := by omega
          have hm1 : ((⟨s.toArray⟩ : ByteArray)[j1]'hltj).toNat = e0.toNat := by subst hj1; rw [← hc1]; rfl
          have HD1 := Lib.hid (show s.drop (j1 + 1) = r3 from by rw [hj1]; exact hd1)
          have HL1 := Lib.hid (show s.length = j1 + (r3.length + 1) by omega)
          clear hc1 hd1 hlen1 hj1
          by_cases he : e0.toNat = 34 ∨ e0.toNat = 92 ∨ e0.toNat = 110
          · obtain ⟨x, hx⟩ : ∃ x, charR (c :: e0 :: r3) = .ok (x, r3) := by
              simp only [charR, escR]
              rw [if_pos H92.out]
              by_cases h1 : e0.toNat = 34 ∨ e0.toNat = 92
              · exact ⟨e0, by rw [if_pos h1]⟩
              · exact ⟨10, by rw [if_neg h1, if_pos (by omega)]⟩
            have HX := Lib.hid hx
            have HXV : Hid ((e0.toNat = 110 → (x.toNat : Int) = 10) ∧ (¬ e0.toNat = 110 → x = e0)) := Lib.hid (by
              simp only [charR, escR] at hx
              rw [if_pos H92.out] at hx
              by_cases h1 : e0.toNat = 34 ∨ e0.toNat = 92
              · rw [if_pos h1] at hx; cases hx; exact ⟨fun h => by omega, fun _ => rfl⟩
              · rw [if_neg h1, if_pos (by omega)] at hx; cases hx; exact ⟨fun _ => rfl, fun h => by omega⟩)
            clear hx
            have HST : Hid (∃ f, r3.length + 1 ≤ f ∧ strR (r.length + 1) 0 r = prepS (acc ++ [x]) (strR f (acc ++ [x]).length r3)) := Lib.hid (by
              obtain ⟨f, rfl⟩ : ∃ g, f = g + 1 := ⟨f - 1, by have := HF.out; omega⟩
              refine ⟨f, by have := HF.out; simp at this; omega, ?_⟩
              rw [HE.out, List.length_append, HN.out]
              exact strR_step acc H34.out HP.out H200.out HX.out)
            by_cases h110 : e0.toNat = 110
            · have q1 : (e0.toNat : Int) = 110 := by omega
              have q2 : (x.toNat : Int) = 10 := HXV.out.1 h110
              have HX10 := Lib.hid q2
              clear he h110 q2
              go_upto_region 19 with (fail)
              go_wp2_with (first | (at_builtin; refine wpList_append_own _ rfl (.tmp 64) (.tmp 66) 61 rfl (w.heap.size + 1) 5 i5 (.int .u8 0) 1 1 Tryz.underlying61 hi5 hz5 hs5 hy5 rfl (by decide) _ _ _ rfl (hown.alloc _) ⟨wr.heap.size, 0, none⟩ 1 1 [.int .u8 (10 : Int)] rfl rfl (own_src (Own.new _ _ _)) (fun u hu => by simp at hu; subst hu; rfl) (by unfold maxLen; omega) (by omega) (by simp <;> omega) ?_; intro v2 w2 hown2 hgrow2 hnil2))
              rw [show (10 : Int) = (x.toNat : Int) from HX10.out.symm] at hown2
              have HBel := Lib.hid (below_grw (HB.out.alloc HB.out.size _) hgrow2 (fun k hk => by have := own_row hown k hk; omega))
              have HOw := Lib.hid (own_kept' (o.alloc _) hgrow2 (fun e => by have := own_row hown _ e; omega))
              go_roundg (r3).length
              case measure => have := HG.out; simp at this; simp; omega
              case rel => exact ⟨j1 + 1, acc ++ [x], r3, rfl, by go_num, by omega, HD1.out, by rw [List.length_append, HN.out]; simp; omega, HBel.out, HOw.out, by rw [bC_app, List.length_append, HN.out]; exact hown2, HST⟩
            · have q0 : ¬ (e0.toNat : Int) = 110 := by omega
              have q0b : ((e0.toNat : Int) == 110) = false := by rw [beq_eq_false_iff_ne]; exact q0
              have hxe := HXV.out.2 h110
              subst hxe
              have hk : ((x.toNat : Int) = 34) ∨ (¬ (x.toNat : Int) = 34 ∧ (x.toNat : Int) = 92) := by omega
              clear he h110
              rcases hk with k1 | ⟨k1, k2⟩
              · have HK1 := Lib.hid k1
                go_upto_region 19 with (fail)
                go_wp2_with (first | (at_builtin; refine wpList_append_own _ rfl (.tmp 64) (.tmp 66) 61 rfl (w.heap.size + 1) 5 i5 (.int .u8 0) 1 1 Tryz.underlying61 hi5 hz5 hs5 hy5 rfl (by decide) _ _ _ rfl (hown.alloc _) ⟨wr.heap.size, 0, none⟩ 1 1 [.int .u8 (34 : Int)] rfl rfl (own_src (Own.new _ _ _)) (fun u hu => by simp at hu; subst hu; rfl) (by unfold maxLen; omega) (by omega) (by simp <;> omega) ?_; intro v2 w2 hown2 hgrow2 hnil2))
                rw [show (34 : Int) = (x.toNat : Int) from HK1.out.symm] at hown2
                have HBel := Lib.hid (below_grw (HB.out.alloc HB.out.size _) hgrow2 (fun k hk => by have := own_row hown k hk; omega))
                have HOw := Lib.hid (own_kept' (o.alloc _) hgrow2 (fun e => by have := own_row hown _ e; omega))
                go_roundg (r3).length
                case measure => have := HG.out; simp at this; simp; omega
                case rel => exact ⟨j1 + 1, acc ++ [x], r3, rfl, by go_num, by omega, HD1.out, by rw [List.length_append, HN.out]; simp; omega, HBel.out, HOw.out, by rw [bC_app, List.length_append, HN.out]; exact hown2, HST⟩
              · have HK2 := Lib.hid k2
                go_upto_region 19 with (fail)
                go_wp2_with (first | (at_builtin; refine wpList_append_own _ rfl (.tmp 64) (.tmp 66) 61 rfl (w.heap.size + 1) 5 i5 (.int .u8 0) 1 1 Tryz.underlying61 hi5 hz5 hs5 hy5 rfl (by decide) _ _ _ rfl (hown.alloc _) ⟨wr.heap.size, 0, none⟩ 1 1 [.int .u8 (92 : Int)] rfl rfl (own_src (Own.new _ _ _)) (fun u hu => by simp at hu; subst hu; rfl) (by unfold maxLen; omega) (by omega) (by simp <;> omega) ?_; intro v2 w2 hown2 hgrow2 hnil2))
                rw [show (92 : Int) = (x.toNat : Int) from HK2.out.symm] at hown2
                have HBel := Lib.hid (below_grw (HB.out.alloc HB.out.size _) hgrow2 (fun k hk => by have := own_row hown k hk; omega))
                have HOw := Lib.hid (own_kept' (o.alloc _) hgrow2 (fun e => by have := own_row hown _ e; omega))
                go_roundg (r3).length
                case measure => have := HG.out; simp at this; simp; omega
                case rel => exact ⟨j1 + 1, acc ++ [x], r3, rfl, by go_num, by omega, HD1.out, by rw [List.length_append, HN.out]; simp; omega, HBel.out, HOw.out, by rw [bC_app, List.length_append, HN.out]; exact hown2, HST⟩
          · have q1 : ¬ (e0.toNat : Int) = 34 := by omega
            have q2 : ¬ (e0.toNat : Int) = 92 := by omega
            have q3 : ¬ (e0.toNat : Int) = 110 := by omega
            have q1b : ((e0.toNat : Int) == 34) = false := by rw [beq_eq_false_iff_ne]; exact q1
            have q2b : ((e0.toNat : Int) == 92) = false := by rw [beq_eq_false_iff_ne]; exact q2
            have q3b : ((e0.toNat : Int) == 110) = false := by rw [beq_eq_false_iff_ne]; exact q3
            have q1n : ((e0.toNat : Int) != 34) = true := by rw [bne_iff_ne]; exact q1
            have q2n : ((e0.toNat : Int) != 92) = true := by rw [bne_iff_ne]; exact q2
            have q3n : ((e0.toNat : Int) != 110) = true := by rw [bne_iff_ne]; exact q3
            have HQ : Hid (strR (r.length + 1) 0 r = .er (r3.length + 1) 2) := Lib.hid (by rw [HE.out, strR_esc (a := r3.length + 1) (b := 2) (by have := HF.out; omega) H34.out HP.out H200.out (by simp only [charR, escR]; rw [if_pos H92.out, if_neg (by omega), if_neg (by omega)])]; rfl)
            clear he
            have r0 := o.cell (i := 0) rfl
            have r1 := o.cell (i := 1) rfl
            have g0 := o.frozen 0
            have g1 := o.frozen 1
            have oS := Lib.hid (((o.set 0 (.int .i64 (j1))).set 1 (.int .i64 (2))))
            go_wp2
            clear r0 r1 g0 g1
            have x0 := oS.out.cell (i := 0) rfl
            have x1 := oS.out.cell (i := 1) rfl
            exact bodyPost_ret (v := .tuple #[.string ⟨#[]⟩, .int .i64 0, faultV (j1) (2)]) (by simp [results, Tryz.results98, go_sem, x0, x1, faultV]) rfl (QS.mkEr (k := r3.length + 1) (c := 2) HQ.out (below_set (below_set HB.out (Nat.le_refl _) _) (Nat.le_refl _) _) (by rw [show s.length - (r3.length + 1) = j1 by have := HL1.out; omega]))
      · have e92 : ¬ (c.toNat : Int) = 92 := by omega
        have e92b : ((c.toNat : Int) == 92) = false := by rw [beq_eq_false_iff_ne]; exact e92
        have HST : Hid (∃ f, r2.length + 1 ≤ f ∧ strR (r.length + 1) 0 r = prepS (acc ++ [c]) (strR f (acc ++ [c]).length r2)) := Lib.hid (by
          obtain ⟨f, rfl⟩ : ∃ g, f = g + 1 := ⟨f - 1, by have := HF.out; omega⟩
          refine ⟨f, by have := HF.out; simp at this; omega, ?_⟩
          rw [HE.out, List.length_append, HN.out]
          exact strR_step acc H34.out HP.out H200.out (by simp only [charR]; rw [if_neg h92]))
        clear h92
        go_upto_region 19 with (fail)
        go_wp2_with (first | (at_builtin; refine wpList_append_own _ rfl (.tmp 64) (.tmp 66) 61 rfl (w.heap.size + 1) 5 i5 (.int .u8 0) 1 1 Tryz.underlying61 hi5 hz5 hs5 hy5 rfl (by decide) _ _ _ rfl (hown.alloc _) ⟨wr.heap.size, 0, none⟩ 1 1 [.int .u8 (c.toNat : Int)] rfl rfl (own_src (Own.new _ _ _)) (fun u hu => by simp at hu; subst hu; rfl) (by unfold maxLen; omega) (by omega) (by simp <;> omega) ?_; intro v2 w2 hown2 hgrow2 hnil2))
        have HBel := Lib.hid (below_grw (HB.out.alloc HB.out.size _) hgrow2 (fun k hk => by have := own_row hown k hk; omega))
        have HOw := Lib.hid (own_kept' (o.alloc _) hgrow2 (fun e => by have := own_row hown _ e; omega))
        go_roundg (r2).length
        case measure => have := HG.out; simp at this; simp; omega
        case rel => exact ⟨j + 1, acc ++ [c], r2, rfl, by go_num, by omega, HD.out.2, by rw [List.length_append, HN.out]; simp; omega, HBel.out, HOw.out, by rw [bC_app, List.length_append, HN.out]; exact hown2, HST⟩
end Go.Proofs.YtjpmnlefjmdelaaGreatDoor
