/- The reference's Print of paths. The reference's Print of paths; the law PathPrints. -/
import Derived.Test.YtjpmnlefjmdelaaGreatDoorYcJ
import Derived.Test.YtjpmnlefjmdelaaGreatDoorXiJ
import Derived.Test.YtjpmnlefjmdelaaGreatDoorXzJ
import Derived.Test.YtjpmnlefjmdelaaGreatDoorYb
set_option linter.unusedSimpArgs false
set_option linter.unusedVariables false
namespace Go.Proofs.YtjpmnlefjmdelaaGreatDoor
open Go.RowKit Go.Sort Go.Proofs.LawFrame

theorem pdd_small {u : Nat} (h : u < 10) : Lib.decDigits u = [UInt8.ofNat (48 + u)] := by rw [Lib.decDigits, dif_pos h]
theorem pdd_big {u : Nat} (h : ¬ u < 10) : Lib.decDigits u = Lib.decDigits (u / 10) ++ [UInt8.ofNat (48 + u % 10)] := by rw [Lib.decDigits, dif_neg h]
theorem dig_ext (k : Nat) (h : k < 10) : (⟨#[48, 49, 50, 51, 52, 53, 54, 55, 56, 57]⟩ : ByteArray).extract k (k + 1) = ⟨[UInt8.ofNat (48 + k)].toArray⟩ := by
  match k, h with
  | 0, _ => rfl
  | 1, _ => rfl
  | 2, _ => rfl
  | 3, _ => rfl
  | 4, _ => rfl
  | 5, _ => rfl
  | 6, _ => rfl
  | 7, _ => rfl
  | 8, _ => rfl
  | 9, _ => rfl
set_option maxHeartbeats 4000000 in
set_option maxRecDepth 4000 in
theorem pdecimal_any (n : Nat) (hn : n ≤ 99) (w : World) : Calls Tryz.prog 70 #[.int .i64 n] w fun e w' => e = .returned (sV (Lib.decDigits n)) ∧ Below w.heap.size w w' := by
  by_cases h10 : n < 10
  · have hx := dig_ext n h10
    have hd := pdd_small h10
    generalize UInt8.ofNat (48 + n) = d at *
    have HD := Lib.hid hd
    clear hd
    go_enter Tryz.func70, Tryz.ntmps70
    go_wp2
    go_ret
    exact ⟨by rw [HD.out]; rfl, Below.refl _ _⟩
  · have hq10 : n / 10 < 10 := by omega
    have hr10 : n % 10 < 10 := by omega
    have hx := dig_ext (n / 10) hq10
    have hy := dig_ext (n % 10) hr10
    have hd : Lib.decDigits n = [UInt8.ofNat (48 + n / 10)] ++ [UInt8.ofNat (48 + n % 10)] := by rw [pdd_big h10, pdd_small hq10]
    have e1 : (n : Int) / 10 = ((n / 10 : Nat) : Int) := by omega
    have e2 : (n : Int) % 10 = ((n % 10 : Nat) : Int) := by omega
    have e3 : (n : Int).tdiv 10 = ((n / 10 : Nat) : Int) := by rw [Int.tdiv_eq_ediv_of_nonneg (by omega), e1]
    have e4 : (n : Int).tmod 10 = ((n % 10 : Nat) : Int) := by rw [Int.tmod_eq_emod_of_nonneg (by omega), e2]
    generalize UInt8.ofNat (48 + n / 10) = d1 at *
    generalize UInt8.ofNat (48 + n % 10) = d2 at *
    generalize n / 10 = q at *
    generalize n % 10 = r at *
    have HD := Lib.hid hd
    clear hd
    go_enter Tryz.func70, Tryz.ntmps70
    go_upto_region 4 with (fail)
    refine wp_region_quiet_below (by kernel_rfl) (by kernel_rfl) ?_
    repeat (first | go_big_quiet_step (fail) | quiet_step (fail))
    refine wpQuiet_nil ?_
    intro _ hw'
    obtain ⟨⟨dq, osq⟩, hw''⟩ := hw'
    subst hw''
    go_wp2
    go_ret
    exact ⟨by rw [HD.out]; exact congrArg Ending.returned (by show Value.string _ = Value.string _; rw [← strs_add]), below_regrown w dq osq⟩
set_option maxHeartbeats 4000000 in
set_option maxRecDepth 4000 in
theorem pquote_any (x : Str) (w : World) (hx : x.length ≤ 10000) : Calls Tryz.prog 71 #[sV x] w fun e w' => e = .returned (sV (quoteR x)) ∧ Below w.heap.size w w' := by
  go_enter Tryz.func71, Tryz.ntmps71
  go_wp2
  go_loopg [3, 4] x.length (fun g v i wr => ∃ (k : Nat) (acc : Str), k ≤ x.length ∧ g = x.length - k ∧ i = .int .i64 k ∧ v = sV acc ∧ acc.length ≤ 20001 ∧ w = wr ∧ Hid (acc = 34 :: (x.take k).flatMap esc))
  case atStart => exact ⟨0, [34], Nat.zero_le _, rfl, rfl, rfl, by simp, rfl, Lib.hid (by simp)⟩
  case round =>
    obtain ⟨k, acc, hk, hg, rfl, rfl, hal, rfl, HA⟩ := hrel
    have HG := Lib.hid hg
    clear hg
    have fin : ∀ (c : UInt8) (u : Str), x.take (k + 1) = x.take k ++ [c] → esc c = u → (acc ++ u) = 34 :: (x.take (k + 1)).flatMap esc ∧ (acc ++ u).length ≤ 20001 := by
      intro c u h1 h2
      have e : (acc ++ u) = 34 :: (x.take (k + 1)).flatMap esc := by rw [HA.out, h1]; simp [h2]
      refine ⟨e, ?_⟩
      rw [e]
      have := escs_len (x.take (k + 1))
      rw [List.length_take] at this
      rw [List.length_cons]; omega
    have FIN := Lib.hid fin
    clear fin
    by_cases hlt : k < x.length
    · have hm : ((⟨x.toArray⟩ : ByteArray)[k]'hlt).toNat = x[k].toNat := rfl
      have hex : (⟨x.toArray⟩ : ByteArray).extract k (k + 1) = ⟨[x[k]].toArray⟩ := by rw [ext_mid k 1, List.drop_eq_getElem_cons hlt]; rfl
      have HT : Hid (x.take (k + 1) = x.take k ++ [x[k]]) := Lib.hid (List.take_succ_eq_append_getElem hlt)
      generalize x[k] = c at hm HT hex
      by_cases h10 : c.toNat = 10
      · have F := Lib.hid (FIN.out c [92, 110] HT.out (by simp [esc, h10]))
        rw [h10] at hm
        clear h10
        go_wp2
        go_roundg (x.length - (k + 1))
        case measure => have := HG.out; omega
        case rel => exact ⟨k + 1, acc ++ [92, 110], by omega, rfl, by go_num, congrArg Value.string (strs_add acc [92, 110]), F.out.2, rfl, Lib.hid F.out.1⟩
      by_cases h34 : c.toNat = 34 ∨ c.toNat = 92
      · have F := Lib.hid (FIN.out c ([92] ++ [c]) HT.out (by
          rcases h34 with h | h
          · have : c = 34 := UInt8.toNat_inj.1 (show c.toNat = (34 : UInt8).toNat from h)
            simp [esc, this]
          · have : c = 92 := UInt8.toNat_inj.1 (show c.toNat = (92 : UInt8).toNat from h)
            simp [esc, this]))
        rcases h34 with h34 | h34
        all_goals
          rw [h34] at hm
          clear h10 h34
          go_wp2
          go_roundg (x.length - (k + 1))
          case measure => have := HG.out; omega
          case rel => exact ⟨k + 1, acc ++ ([92] ++ [c]), by omega, rfl, by go_num, by rw [← List.append_assoc]; exact congrArg Value.string ((congrArg (· ++ (⟨[c].toArray⟩ : ByteArray)) (strs_add acc [92])).trans (strs_add (acc ++ [92]) [c])), F.out.2, rfl, Lib.hid F.out.1⟩
      · have h34' : ¬ c.toNat = 34 := fun h => h34 (Or.inl h)
        have h92' : ¬ c.toNat = 92 := fun h => h34 (Or.inr h)
        have F := Lib.hid (FIN.out c [c] HT.out (by simp [esc, h10, h34', h92']))
        generalize c.toNat = m at *
        have b1 : ((m : Int) == 10) = false := by rw [beq_eq_false_iff_ne]; omega
        have b2 : ((m : Int) == 34) = false := by rw [beq_eq_false_iff_ne]; omega
        have b3 : ((m : Int) == 92) = false := by rw [beq_eq_false_iff_ne]; omega
        clear h34
        go_wp2
        go_roundg (x.length - (k + 1))
        case measure => have := HG.out; omega
        case rel => exact ⟨k + 1, acc ++ [c], by omega, rfl, by go_num, congrArg Value.string (strs_add acc [c]), F.out.2, rfl, Lib.hid F.out.1⟩
    · obtain rfl : k = x.length := by omega
      have HQ : Hid (acc ++ [34] = quoteR x) := Lib.hid (by rw [HA.out, List.take_length]; rfl)
      go_wp2
      go_ret
      exact ⟨by rw [← HQ.out]; exact congrArg Ending.returned (congrArg Value.string (strs_add acc [34])), Below.refl _ _⟩
end Go.Proofs.YtjpmnlefjmdelaaGreatDoor
namespace Go.Proofs.YtjpmnlefjmdelaaGreatDoor
open Go.RowKit Go.Sort Go.Proofs.LawFrame

set_option maxHeartbeats 8000000 in
set_option maxRecDepth 4000 in
theorem pprint_any (v : Value) (l : List S) (w : World) (hv : Stps w v l) (hn : l.length ≤ 100000) (hs : ∀ s ∈ l, s.nm.length ≤ 1000000 ∧ s.vl.length ≤ 1000000) :
    Calls Tryz.prog 32 #[v] w fun e w' => e = .returned (.tuple #[sV (prP l).1, .int .i64 (prP l).2]) ∧ Below w.heap.size w w' := by
  have C := Lib.hid (rvPath_any v l w hv hn hs)
  obtain ⟨ao, cp, rfl, hlc, hlm⟩ := hv.form
  unfold maxLen at hlm
  have HV := Lib.hid hv
  clear hv hs
  go_enter Tryz.func32, Tryz.ntmps32
  go_wp2_with fail
  refine C.out.mono ?_
  rintro e w1 ⟨rfl, hb1⟩
  clear C
  cases hok : pathOk l
  · have HF : Hid (prP l = ([], 1)) := Lib.hid (by unfold prP; rw [hok]; rfl)
    go_wp2
    exact bodyPost_ret (v := .tuple #[.string ⟨#[]⟩, .int .i64 1]) (by simp [results, Tryz.results32, go_sem]) rfl ⟨by rw [HF.out], hb1⟩
  have HF : Hid (prP l = (pathT true l, 0)) := Lib.hid (by unfold prP; rw [hok]; rfl)
  have hok2 := pathOk_all hok
  have hl16 := hok2.1
  have HOK := Lib.hid hok2.2
  have HB1 := Lib.hid hb1
  clear hok hok2 hb1
  go_wp2
  go_loopg [4, 5] l.length (fun g o i wr => ∃ (k : Nat) (acc : Str), k ≤ l.length ∧ g = l.length - k ∧ i = .int .i64 k ∧ o = sV acc ∧ acc.length ≤ 100000 ∧ Below w.heap.size w wr ∧ Hid (acc = pathT true (l.take k)))
  case atStart => exact ⟨0, [], Nat.zero_le _, rfl, rfl, rfl, by simp, HB1.out, Lib.hid rfl⟩
  case round =>
    obtain ⟨k, acc, hk, hg, rfl, rfl, hal, hb, HA⟩ := hrel
    have HG := Lib.hid hg
    clear hg HB1
    by_cases hlt : k < l.length
    case neg =>
      obtain rfl : k = l.length := by omega
      have HQ : Hid (acc = pathT true l) := Lib.hid (by rw [HA.out, List.take_length])
      have HB := Lib.hid hb
      clear hb
      go_wp2
      exact bodyPost_ret (v := .tuple #[sV acc, .int .i64 0]) (by simp [results, Tryz.results32, go_sem]) rfl ⟨by rw [HF.out, HQ.out], HB.out⟩
    have hx := get_some hlt
    generalize l[k] = s at hx
    obtain ⟨b, off, rfl, hbl, q0, q1, q2, q3⟩ := Stps.at HV.out hb hx
    have hsok := HOK.out s (List.mem_of_getElem? hx)
    have hlen := pathT_len (l.take (k + 1)) true (fun x hx => HOK.out x (List.mem_of_mem_take hx))
    rw [List.length_take] at hlen
    have HLEN := Lib.hid (show (pathT true (l.take (k + 1))).length ≤ 100000 by omega)
    have hT : pathT true (l.take (k + 1)) = acc ++ dotT (decide (k = 0)) s := by
      rw [take_snoc hx, pathT_snoc, HA.out, Bool.true_and]
      congr 2
      cases k with
      | zero => simp
      | succ k => cases l with
        | nil => simp at hlt
        | cons a l => rfl
    have HT := Lib.hid hT
    have HA0 : Hid (k = 0 → acc = []) := Lib.hid (fun h => by rw [HA.out, h]; rfl)
    have hst := stpT_len hsok
    have HSOK := Lib.hid (And.intro hsok hst)
    obtain ⟨sk, sn, si, sv⟩ := s
    simp only at q0 q1 q2 q3
    have HB := Lib.hid hb
    clear hx hlen hsok hT hst hb
    by_cases h2 : sk = 2
    · subst h2
      have hix : 0 ≤ si ∧ si ≤ 64 := by have := HSOK.out.1; unfold stepOk at this; simp at this; omega
      obtain ⟨u, rfl⟩ : ∃ u : Nat, si = (u : Int) := ⟨si.toNat, by omega⟩
      have hdl := dd_two (u := u) (by omega)
      have C := Lib.hid (pdecimal_any u (by omega) wr)
      have HT2 : Hid (pathT true (l.take (k + 1)) = acc ++ [91] ++ Lib.decDigits u ++ [93]) := Lib.hid (by rw [HT.out]; simp [dotT, stpT])
      generalize Lib.decDigits u = D at *
      go_wp2_with fail
      refine C.out.mono ?_
      rintro e w2 ⟨rfl, hb2⟩
      have HB2 := Lib.hid (below_all HB.out hb2)
      clear C hb2 q0 q1 q2 q3
      go_wp2
      go_roundg (l.length - (k + 1))
      case measure => have := HG.out; omega
      case rel => exact ⟨k + 1, acc ++ [91] ++ D ++ [93], by omega, rfl, by go_num, by show Value.string _ = Value.string _; rw [← strs_add, ← strs_add, ← strs_add], by rw [← HT2.out]; exact HLEN.out, HB2.out, Lib.hid HT2.out.symm⟩
    by_cases h3 : sk = 3
    · subst h3
      have hvl : sv.length ≤ 10000 := by
        have h := HSOK.out.1
        have : strOk sv = true := by unfold stepOk at h; simp at h; exact h.1.2
        unfold strOk at this; simp only [Bool.and_eq_true, decide_eq_true_eq] at this; omega
      have hnl : sn.length ≤ 40 := by
        have h := HSOK.out.1
        have : nameOk sn = true := by unfold stepOk at h; simp at h; exact h.1.1
        unfold nameOk at this; simp only [Bool.and_eq_true, decide_eq_true_eq] at this; omega
      have hql := quoteR_len' sv
      have HT2 : Hid (pathT true (l.take (k + 1)) = acc ++ [91] ++ sn ++ [61] ++ quoteR sv ++ [93]) := Lib.hid (by rw [HT.out]; simp [dotT, stpT])
      have cQ : ∀ dd os, Calls Tryz.prog 71 #[sV sv] (grow (redrawn wr dd) os) fun e w'' => e = .returned (sV (quoteR sv)) ∧ ∃ p : Regrown, w'' = grow (redrawn wr p.d) p.os := fun dd os => Calls.regrown_of (pquote_any sv _ hvl)
      have hql2 : (quoteR sv).length ≤ 30000 := by omega
      generalize quoteR sv = Q at *
      have z1 := cell_regrown q1
      have z3 := cell_regrown q3
      clear hql
      go_upto_region 10 with (fail)
      refine wp_region_quiet_below (by kernel_rfl) (by kernel_rfl) ?_
      repeat (first | go_big_quiet_step ((first | with_reducible exact cQ _ _)) | quiet_step (first | with_reducible exact cQ _ _))
      refine wpQuiet_nil ?_
      intro _ hw'
      obtain ⟨⟨dq, osq⟩, hw''⟩ := hw'
      subst hw''
      have HB2 := Lib.hid (below_all HB.out (below_regrown wr dq osq))
      clear cQ z1 z3 q0 q1 q2 q3
      generalize grow (redrawn wr dq) osq = W2 at *
      go_wp2
      go_roundg (l.length - (k + 1))
      case measure => have := HG.out; omega
      case rel => exact ⟨k + 1, acc ++ [91] ++ sn ++ [61] ++ Q ++ [93], by omega, rfl, by go_num, by show Value.string _ = Value.string _; rw [← strs_add, ← strs_add, ← strs_add, ← strs_add, ← strs_add], by rw [← HT2.out]; exact HLEN.out, HB2.out, Lib.hid HT2.out.symm⟩
    have h1 : sk = 1 := by
      have h := HSOK.out.1
      by_cases h : sk = 1
      · exact h
      · rename_i hh; unfold stepOk at hh; simp [h, h2, h3] at hh
    subst h1
    have hnl : sn.length ≤ 40 := by
      have h := HSOK.out.1
      have : nameOk sn = true := by unfold stepOk at h; simp at h; exact h.1.1
      unfold nameOk at this; simp only [Bool.and_eq_true, decide_eq_true_eq] at this; omega
    by_cases h0 : 0 < k
    · have HT2 : Hid (pathT true (l.take (k + 1)) = acc ++ [46] ++ sn) := Lib.hid (by rw [HT.out, decide_eq_false (by omega)]; simp [dotT, stpT])
      go_wp2
      go_roundg (l.length - (k + 1))
      case measure => have := HG.out; omega
      case rel => exact ⟨k + 1, acc ++ [46] ++ sn, by omega, rfl, by go_num, by show Value.string _ = Value.string _; rw [← strs_add, ← strs_add], by rw [← HT2.out]; exact HLEN.out, HB.out, Lib.hid HT2.out.symm⟩
    · obtain rfl : k = 0 := by omega
      simp only [Nat.zero_mul, Nat.add_zero] at q0 q1 q2 q3
      have HT2 : Hid (pathT true (l.take (0 + 1)) = sn) := Lib.hid (by rw [HT.out, HA0.out rfl]; simp [dotT, stpT])
      go_wp2
      go_roundg (l.length - (0 + 1))
      case measure => have := HG.out; omega
      case rel => exact ⟨0 + 1, sn, by omega, rfl, by go_num, rfl, by omega, HB.out, Lib.hid HT2.out.symm⟩
set_option maxHeartbeats 8000000 in
set_option maxRecDepth 4000 in
theorem pathPrints_walk (v1 : Value) (p : List S) (w : World) (h1 : Stps w v1 p) :
    Calls Tryz.prog 9 #[v1] w fun e w' => e = .returned (.bool true) ∧ Below w.heap.size w w' := by
  have C1 := Lib.hid (few_any v1 p w h1)
  have HS := Lib.hid h1
  clear h1
  obtain ⟨B1, hB1⟩ : ∃ B, fewOk p = B := ⟨_, rfl⟩
  rw [hB1] at C1
  have HB1 := Lib.hid hB1
  clear hB1
  go_enter Tryz.func9, Tryz.ntmps9
  go_wp2_with fail
  refine C1.out.mono ?_
  rintro e w1 ⟨rfl, hb1⟩
  have HB := Lib.hid hb1
  clear C1 hb1
  cases B1 with
  | false =>
    have CL := Lib.hid (plives_any w1)
    go_wp2_with fail
    refine CL.out.mono ?_
    rintro e w2 ⟨rfl, hb2⟩
    have HB2 := Lib.hid (below_all HB.out hb2)
    clear CL hb2
    go_wp2
    go_ret
    exact ⟨rfl, HB2.out⟩
  | true =>
    have hp := fewOk_iff HB1.out
    have hp0 := hp.1
    have C2 := Lib.hid (printPath_any v1 p w1 (Flat.all HS.out HB.out) (by omega))
    have C3 := Lib.hid (fun w3 (h : Below w.heap.size w w3) => pprint_any v1 p w3 (Flat.all HS.out h) (by omega) (fun s hs => by have := hp.2 s hs; omega))
    generalize prP p = R at *
    obtain ⟨R1, R2⟩ := R
    simp only at C2 C3
    clear hp hp0
    go_wp2_with fail
    refine C2.out.mono ?_
    rintro e w2 ⟨rfl, hb2⟩
    have HB2 := Lib.hid (below_all HB.out hb2)
    clear C2 hb2
    go_wp2_with fail
    refine (C3.out _ HB2.out).mono ?_
    rintro e w3 ⟨rfl, hb3⟩
    have HB3 := Lib.hid (below_all HB2.out hb3)
    clear C3 hb3
    have CL := Lib.hid (plives_any w3)
    go_wp2_with fail
    refine CL.out.mono ?_
    rintro e w4 ⟨rfl, hb4⟩
    have HB4 := Lib.hid (below_all HB3.out hb4)
    clear CL hb4
    go_wp2
    go_ret
    exact ⟨rfl, HB4.out⟩
end Go.Proofs.YtjpmnlefjmdelaaGreatDoor
