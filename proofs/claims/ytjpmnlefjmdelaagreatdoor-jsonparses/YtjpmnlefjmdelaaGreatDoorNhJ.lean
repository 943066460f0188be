/- The reference's digits and quoted strings. The reference's quoted strings. -/
import Derived.Test.YtjpmnlefjmdelaaGreatDoorNf
import Derived.Laws.IdiomStrings
namespace Go.Proofs.YtjpmnlefjmdelaaGreatDoor
open Go.RowKit Go.Sort Go.Proofs.LawFrame

theorem dd_small {u : Nat} (h : u < 10) : Lib.decDigits u = [UInt8.ofNat (48 + u)] := by rw [Lib.decDigits, dif_pos h]
theorem dd_big {u : Nat} (h : ¬ u < 10) : Lib.decDigits u = Lib.decDigits (u / 10) ++ [UInt8.ofNat (48 + u % 10)] := by rw [Lib.decDigits, dif_neg h]
theorem dig_nat {d : Nat} (h : d < 10) : (UInt8.ofNat (48 + d)).toNat = 48 + d := by
  rw [UInt8.toNat_ofNat']; omega
theorem dd_len (u : Nat) : ∀ k : Nat, u < 10 ^ (k + 1) → (Lib.decDigits u).length ≤ k + 1 := by
  induction u using Nat.strongRecOn with
  | ind u ih =>
    intro k hk
    by_cases h : u < 10
    · rw [dd_small h]; simp
    · rw [dd_big h]
      cases k with
      | zero => omega
      | succ k =>
        have := ih (u / 10) (by omega) k (by rw [Nat.pow_succ] at hk; omega)
        simp; omega
theorem strs_app (l m : Str) : (⟨l.toArray⟩ : ByteArray) ++ ⟨m.toArray⟩ = ⟨(l ++ m).toArray⟩ := by
  apply ByteArray.ext; rw [ByteArray.data_append]; simp
/-- a digit's byte -/
def digB (d : Nat) : UInt8 := UInt8.ofNat (48 + d)
/-- one byte as a string -/
theorem conv1 (W : World) (d : Nat) (hd : d < 10) (n : Int) (hn : n = 48 + d) :
    (convert 61 9 (.slice (some ⟨W.heap.size, 0, none⟩) 1 1)).run Tryz.prog (W.alloc (.cells #[.int .u8 n] 5)) = .ok (.string ⟨[digB (d)].toArray⟩) (W.alloc (.cells #[.int .u8 n] 5)) := by
  refine run_convert_bytes_back (P := Tryz.prog) _ 61 9 5 ⟨W.heap.size, 0, none⟩ 1 [digB (d)] Tryz.underlying61 Tryz.underlying5 Tryz.underlying9 (fun j hj => ?_)
  have hj0 : j = 0 := by simpa using hj
  subst hj0
  subst hn
  have e : ((⟨W.heap.size, 0, none⟩ : Addr).add 0) = ⟨W.heap.size, 0, none⟩ := by unfold Addr.add; simp
  rw [e]
  show (W.alloc (.cells #[.int .u8 (48 + d)] 5)).cell? ⟨W.heap.size, 0, none⟩ = some (.int .u8 ((digB d).toNat : Int))
  rw [show (digB d).toNat = 48 + d from dig_nat hd]
  simp
/-- what is still to be written -/
def TextInv (u v : Nat) (s : Str) : Prop := Lib.decDigits u = (if v < 10 then [] else Lib.decDigits (v / 10)) ++ s
theorem TextInv.start (u : Nat) : TextInv u u [digB (u % 10)] := by
  unfold TextInv
  by_cases h : u < 10
  · rw [if_pos h, dd_small h, Nat.mod_eq_of_lt h]; rfl
  · rw [if_neg h, dd_big h]; rfl
theorem TextInv.step {u v : Nat} {s : Str} (hv : ¬ v < 10) (h : TextInv u v s) : TextInv u (v / 10) ([digB (v / 10 % 10)] ++ s) := by
  unfold TextInv at h ⊢
  rw [if_neg hv] at h
  rw [h]
  by_cases h2 : v / 10 < 10
  · rw [if_pos h2, dd_small h2, Nat.mod_eq_of_lt h2]; rfl
  · rw [if_neg h2, dd_big h2, List.append_assoc]; rfl
theorem TextInv.fin {u v : Nat} {s : Str} (hv : v < 10) (h : TextInv u v s) : s = Lib.decDigits u := by
  unfold TextInv at h; rw [if_pos hv] at h; exact h.symm
theorem TextInv.len {u v : Nat} {s : Str} (hu : u ≤ 1000000000000000) (h : TextInv u v s) : s.length ≤ 100 := by
  have := dd_len u 15 (by omega)
  rw [h, List.length_append] at this
  omega
set_option maxHeartbeats 4000000 in
set_option maxRecDepth 10000 in
theorem rdigits_any (u : Nat) (w : World) (hu : u ≤ 1000000000000000) :
    Calls Tryz.prog 90 #[.int .i64 u] w fun e w' => e = .returned (sV (Lib.decDigits u)) ∧ Below w.heap.size w w' := by
  have hc := conv1 w (u % 10) (by omega) (48 + (u : Int) % 10) (by omega)
  go_enter Tryz.func90, Tryz.ntmps90
  go_wp2
  clear hc
  go_loopw [0, 3] (fun n s wr => ∃ (v : Nat) (sl : Str), v ≤ u ∧ n = .int .i64 v ∧ s = .string ⟨sl.toArray⟩ ∧ TextInv u v sl ∧ Below w.heap.size w wr) (fun n _ _ => (intOf n).toNat)
  case atStart => exact ⟨u, _, Nat.le_refl _, rfl, rfl, TextInv.start u, (Below.refl _ _).alloc (Nat.le_refl _) _⟩
  case round =>
    obtain ⟨v, sl, hv, rfl, rfl, hi, hb⟩ := hrel
    have hlen := hi.len hu
    by_cases h10 : v < 10
    · go_wp2
      go_ret
      exact ⟨by rw [hi.fin h10]; rfl, hb⟩
    · have hc := conv1 wr (v / 10 % 10) (by omega) (48 + (v : Int) / 10 % 10) (by omega)
      go_wp2
      go_roundw
      case rel => exact ⟨v / 10, [digB (v / 10 % 10)] ++ sl, by omega, by go_num, by rw [← strs_app], hi.step h10, hb.alloc hb.size _⟩
      case measure => simp [intOf]; omega
end Go.Proofs.YtjpmnlefjmdelaaGreatDoor
namespace Go.Proofs.YtjpmnlefjmdelaaGreatDoor
open Go.RowKit Go.Sort Go.Proofs.LawFrame

theorem below_grw {w w' w'' : World} {row : Option Nat} (h : Below w.heap.size w w') (hg : w'.grownBy w'' row) (hr : ∀ k, row = some k → w.heap.size ≤ k) : Below w.heap.size w w'' :=
  ⟨hg.os.trans h.os, hg.tape.trans h.tape, hg.output.trans h.output, Nat.le_trans h.size hg.size, fun k hk => (hg.block k (Nat.lt_of_lt_of_le hk h.size) (fun e => by have := hr k e.symm; omega)).trans (h.block k hk)⟩
theorem bC_app (l m : Str) : bC (l ++ m) = bC l ++ bC m := by simp [bC]

set_option maxHeartbeats 4000000 in
set_option maxRecDepth 4000 in
theorem rquoted_any (x : Str) (w : World) (hx : x.length ≤ 10000) : Calls Tryz.prog 91 #[sV x] w fun e w' => e = .returned (sV (quoteR x)) ∧ Below w.heap.size w w' := by
  obtain ⟨i5, hi5, hz5, hs5, hy5⟩ := info_parts info5
  have hown0 : w.ownsRow w.heap.size 5 1 (.slice none 0 0) 0 (bC []) := own_nil _ _ _ _
  go_enter Tryz.func91, Tryz.ntmps91
  go_wp2_with (first | (at_builtin; refine wpList_append_own _ rfl (.tmp 5) (.tmp 6) 61 rfl w.heap.size 5 i5 (.int .u8 0) 1 1 Tryz.underlying61 hi5 hz5 hs5 hy5 rfl (by decide) _ _ _ rfl (hown0.alloc _) ⟨w.heap.size, 0, none⟩ 1 1 [.int .u8 34] rfl rfl (own_src (Own.new _ _ _)) (fun u hu => by simp at hu; subst hu; rfl) (by unfold maxLen; omega) (by omega) (by simp <;> omega) ?_; intro v1 w1 hown1 hgrow1 hnil1))
  have HS := Lib.hid (And.intro (below_grw ((Below.refl _ w).alloc (Nat.le_refl _) _) hgrow1 (fun k hk => own_row hown0 k hk)) hown1)
  clear hown0 hgrow1 hown1 hnil1
  go_loopg [3, 4] x.length (fun g v i wr => ∃ (k : Nat) (acc : Str), k ≤ x.length ∧ g = x.length - k ∧ i = .int .i64 k ∧ Hid (acc = 34 :: (x.take k).flatMap esc) ∧ Below w.heap.size w wr ∧ wr.ownsRow w.heap.size 5 1 v acc.length (bC acc))
  case atStart => exact ⟨0, [34], Nat.zero_le _, rfl, rfl, Lib.hid (by simp), HS.out.1, HS.out.2⟩
  case round =>
    obtain ⟨k, acc, hk, hg, rfl, HA, hb, hown⟩ := hrel
    have HG := Lib.hid hg
    clear hg HS
    obtain ⟨ao, cap, hu, -, -, -⟩ := (Flat.of_own hown).out
    subst hu
    have hal : acc.length ≤ 20001 := by
      have := escs_len (x.take k)
      rw [List.length_take] at this
      rw [HA.out, List.length_cons]; omega
    generalize hN : acc.length = N at *
    have HN := Lib.hid hN
    clear hN
    have hbsz := hb.size
    by_cases hlt : k < x.length
    · have hm : ((⟨x.toArray⟩ : ByteArray)[k]'hlt).toNat = x[k].toNat := rfl
      have HT : Hid (x.take (k + 1) = x.take k ++ [x[k]]) := Lib.hid (List.take_succ_eq_append_getElem hlt)
      generalize x[k] = c at hm HT
      by_cases h10 : c.toNat = 10
      · have HC := Lib.hid h10
        clear h10
        have e10 : (c.toNat : Int) = 10 := by have := HC.out; omega
        go_wp2_with (first | (at_builtin; refine wpList_append_own _ rfl (.tmp 18) (.tmp 19) 61 rfl w.heap.size 5 i5 (.int .u8 0) 1 1 Tryz.underlying61 hi5 hz5 hs5 hy5 rfl (by decide) _ _ _ rfl (hown.alloc _) ⟨wr.heap.size, 0, none⟩ 2 2 [.int .u8 92, .int .u8 110] rfl rfl (own_src (Own.new _ _ _)) (fun u hu => by simp at hu; rcases hu with hu | hu <;> subst hu <;> rfl) (by unfold maxLen; omega) (by omega) (by simp <;> omega) ?_; intro v2 w2 hown2 hgrow2 hnil2))
        have HBel := Lib.hid (below_grw (hb.alloc hb.size _) hgrow2 (fun k hk => own_row hown k hk))
        go_roundg (x.length - (k + 1))
        case measure => have := HG.out; omega
        case rel => exact ⟨k + 1, acc ++ [92, 110], by omega, rfl, by go_num, Lib.hid (by rw [HA.out, HT.out]; simp [esc, HC.out]), HBel.out, by rw [bC_app, List.length_append, HN.out]; exact hown2⟩
      have e10 : ¬ (c.toNat : Int) = 10 := by omega
      have e10' : ((c.toNat : Int) == 10) = false := by rw [beq_eq_false_iff_ne]; exact e10
      have H10 := Lib.hid h10
      clear h10
      by_cases h34 : c.toNat = 34
      · have HC := Lib.hid h34
        clear h34
        have e34 : (c.toNat : Int) = 34 := by have := HC.out; omega
        go_upto_region 10 with (first | (at_builtin; refine wpList_append_own _ rfl (.tmp 31) (.tmp 32) 61 rfl w.heap.size 5 i5 (.int .u8 0) 1 1 Tryz.underlying61 hi5 hz5 hs5 hy5 rfl (by decide) _ _ _ rfl (hown.alloc _) ⟨wr.heap.size, 0, none⟩ 1 1 [.int .u8 92] rfl rfl (own_src (Own.new _ _ _)) (fun u hu => by simp at hu; subst hu; rfl) (by unfold maxLen; omega) (by omega) (by simp <;> omega) ?_; intro v2 w2 hown2 hgrow2 hnil2))
        have hb2 := below_grw (hb.alloc hb.size _) hgrow2 (fun k hk => own_row hown k hk)
        clear hgrow2 hown hb hnil2
        obtain ⟨ao2, cap2, hu2, -, -, -⟩ := (Flat.of_own hown2).out
        subst hu2
        have hbsz2 := hb2.size
        go_wp2_with (first | (at_builtin; refine wpList_append_own _ rfl (.tmp 34) (.tmp 38) 61 rfl w.heap.size 5 i5 (.int .u8 0) 1 1 Tryz.underlying61 hi5 hz5 hs5 hy5 rfl (by decide) _ _ _ rfl (hown2.alloc _) ⟨w2.heap.size, 0, none⟩ 1 1 [.int .u8 (34 : Int)] rfl rfl (own_src (Own.new _ _ _)) (fun u hu => by simp at hu; subst hu; rfl) (by unfold maxLen; omega) (by omega) (by simp <;> omega) ?_; intro v3 w3 hown3 hgrow3 hnil3))
        have HBel := Lib.hid (below_grw (hb2.alloc hb2.size _) hgrow3 (fun k hk => own_row hown2 k hk))
        go_roundg (x.length - (k + 1))
        case measure => have := HG.out; omega
        case rel => exact ⟨k + 1, acc ++ [92, 34], by omega, rfl, by go_num, Lib.hid (by rw [HA.out, HT.out]; simp [esc, HC.out, UInt8.toNat_inj.1 (show c.toNat = (34 : UInt8).toNat from HC.out)]), HBel.out, by rw [bC_app, List.length_append, HN.out]; exact (by rw [List.append_assoc] at hown3; exact hown3)⟩
      have e34 : ¬ (c.toNat : Int) = 34 := by omega
      have e34' : ((c.toNat : Int) == 34) = false := by rw [beq_eq_false_iff_ne]; exact e34
      have H34 := Lib.hid h34
      clear h34
      by_cases h92 : c.toNat = 92
      · have HC := Lib.hid h92
        clear h92
        have e92 : (c.toNat : Int) = 92 := by have := HC.out; omega
        go_upto_region 10 with (first | (at_builtin; refine wpList_append_own _ rfl (.tmp 31) (.tmp 32) 61 rfl w.heap.size 5 i5 (.int .u8 0) 1 1 Tryz.underlying61 hi5 hz5 hs5 hy5 rfl (by decide) _ _ _ rfl (hown.alloc _) ⟨wr.heap.size, 0, none⟩ 1 1 [.int .u8 92] rfl rfl (own_src (Own.new _ _ _)) (fun u hu => by simp at hu; subst hu; rfl) (by unfold maxLen; omega) (by omega) (by simp <;> omega) ?_; intro v2 w2 hown2 hgrow2 hnil2))
        have hb2 := below_grw (hb.alloc hb.size _) hgrow2 (fun k hk => own_row hown k hk)
        clear hgrow2 hown hb hnil2
        obtain ⟨ao2, cap2, hu2, -, -, -⟩ := (Flat.of_own hown2).out
        subst hu2
        have hbsz2 := hb2.size
        go_wp2_with (first | (at_builtin; refine wpList_append_own _ rfl (.tmp 34) (.tmp 38) 61 rfl w.heap.size 5 i5 (.int .u8 0) 1 1 Tryz.underlying61 hi5 hz5 hs5 hy5 rfl (by decide) _ _ _ rfl (hown2.alloc _) ⟨w2.heap.size, 0, none⟩ 1 1 [.int .u8 (92 : Int)] rfl rfl (own_src (Own.new _ _ _)) (fun u hu => by simp at hu; subst hu; rfl) (by unfold maxLen; omega) (by omega) (by simp <;> omega) ?_; intro v3 w3 hown3 hgrow3 hnil3))
        have HBel := Lib.hid (below_grw (hb2.alloc hb2.size _) hgrow3 (fun k hk => own_row hown2 k hk))
        go_roundg (x.length - (k + 1))
        case measure => have := HG.out; omega
        case rel => exact ⟨k + 1, acc ++ [92, 92], by omega, rfl, by go_num, Lib.hid (by rw [HA.out, HT.out]; simp [esc, HC.out, UInt8.toNat_inj.1 (show c.toNat = (92 : UInt8).toNat from HC.out)]), HBel.out, by rw [bC_app, List.length_append, HN.out]; exact (by rw [List.append_assoc] at hown3; exact hown3)⟩
      have e92 : ¬ (c.toNat : Int) = 92 := by omega
      have e92' : ((c.toNat : Int) == 92) = false := by rw [beq_eq_false_iff_ne]; exact e92
      have H92 := Lib.hid h92
      clear h92
      go_wp2_with (first | (at_builtin; refine wpList_append_own _ rfl (.tmp 34) (.tmp 38) 61 rfl w.heap.size 5 i5 (.int .u8 0) 1 1 Tryz.underlying61 hi5 hz5 hs5 hy5 rfl (by decide) _ _ _ rfl (hown.alloc _) ⟨wr.heap.size, 0, none⟩ 1 1 [.int .u8 (c.toNat : Int)] rfl rfl (own_src (Own.new _ _ _)) (fun u hu => by simp at hu; subst hu; rfl) (by unfold maxLen; omega) (by omega) (by simp <;> omega) ?_; intro v2 w2 hown2 hgrow2 hnil2))
      have HBel := Lib.hid (below_grw (hb.alloc hb.size _) hgrow2 (fun k hk => own_row hown k hk))
      go_roundg (x.length - (k + 1))
      case measure => have := HG.out; omega
      case rel => exact ⟨k + 1, acc ++ [c], by omega, rfl, by go_num, Lib.hid (by rw [HA.out, HT.out]; simp [esc, H34.out, H92.out, H10.out]), HBel.out, by rw [bC_app, List.length_append, HN.out]; exact hown2⟩
    · obtain rfl : k = x.length := by omega
      have HQ : Hid (acc ++ [34] = quoteR x) := Lib.hid (by rw [HA.out, List.take_length]; rfl)
      go_upto_region 12 with (first | (at_builtin; refine wpList_append_own _ rfl (.tmp 40) (.tmp 41) 61 rfl w.heap.size 5 i5 (.int .u8 0) 1 1 Tryz.underlying61 hi5 hz5 hs5 hy5 rfl (by decide) _ _ _ rfl (hown.alloc _) ⟨wr.heap.size, 0, none⟩ 1 1 [.int .u8 34] rfl rfl (own_src (Own.new _ _ _)) (fun u hu => by simp at hu; subst hu; rfl) (by unfold maxLen; omega) (by omega) (by simp <;> omega) ?_; intro v2 w2 hown2 hgrow2 hnil2))
      have HBel := Lib.hid (below_grw (hb.alloc hb.size _) hgrow2 (fun k hk => own_row hown k hk))
      have hcv := conv_own (l := quoteR x) (w := w2) (base := w.heap.size) (v := v2) (by rw [← HQ.out, bC_app, List.length_append, HN.out]; exact hown2)
      obtain ⟨ao2, cap2, hu2, -, -, -⟩ := (Flat.of_own hown2).out
      subst hu2
      clear hown hown2 hgrow2 hnil2
      go_wp2
      go_ret
      exact ⟨rfl, HBel.out⟩
end Go.Proofs.YtjpmnlefjmdelaaGreatDoor
