/- The contract of Parse. -/
import Derived.Test.YtfohhokdcobhjaaDoorXg
import Derived.Test.YtfohhokdcobhjaaDoorMg
namespace Go.Proofs.YtfohhokdcobhjaaDoor
open Go.RowKit Go.Sort Go.Proofs.LawFrame

set_option maxRecDepth 4000 in
set_option maxHeartbeats 8000000 in
theorem parse_any (text : Str) (w : World) (hl : text.length ≤ 9223372036854775807) :
    Calls Tryd.prog 24 #[sV text] w fun e w' => ∃ sv, e = .returned (.tuple #[sv, .int .i64 (parseE text)]) ∧ Reqs w' sv (parseS text) ∧ Below w.heap.size w w' := by
  by_cases h0 : 20000 < text.length
  · have HP := Lib.hid (parse_long h0)
    go_enter Tryd.func24, Tryd.ntmps24
    go_wp2
    go_ret2
    exact ⟨.slice none 0 0, by rw [HP.out.1]; rfl, by rw [HP.out.2]; exact reqs_nil _, Below.refl _ _⟩
  have CR := Lib.hid (readSelector_any text w (by omega))
  cases hq : readT text with
  | none =>
    have HP := Lib.hid (parse_syn h0 hq)
    rw [hq] at CR
    clear hq
    go_enter Tryd.func24, Tryd.ntmps24
    go_wp2_with fail
    refine CR.out.mono ?_
    rintro e W1 ⟨sv, rfl, hR, b1⟩
    go_wp2
    go_ret2
    exact ⟨.slice none 0 0, by rw [HP.out.1]; rfl, by rw [HP.out.2]; exact reqs_nil _, b1⟩
  | some s =>
    have HB := Lib.hid (readT_bd (by omega) hq)
    have HE := Lib.hid (fun h3 => parse_err h0 hq h3)
    have HM := Lib.hid (fun h3 h4 => parse_many h0 hq h3 h4)
    have HO := Lib.hid (fun h3 h4 => parse_good h0 hq h3 h4)
    rw [hq] at CR
    clear hq
    go_enter Tryd.func24, Tryd.ntmps24
    go_wp2_with fail
    refine CR.out.mono ?_
    rintro e W1 ⟨sv, rfl, hR, b1⟩
    replace hR : Reqs W1 sv s := hR
    obtain ⟨ao, cap, rfl, hlc, hcap⟩ := hR.slice
    unfold maxLen at hcap
    clear CR
    go_wp2
    go_loopg [21] s.length (fun g i wr => ∃ k : Nat, k ≤ s.length ∧ g = s.length - k ∧ i = .int .i64 k ∧ Hid (PreA (fun r => decide (errOf r = 0)) s k) ∧ Below W1.heap.size W1 wr)
    case atStart => exact ⟨0, Nat.zero_le _, rfl, rfl, Lib.hid (PreA.zero _), Below.refl _ _⟩
    case round =>
      obtain ⟨k, hk, hg, rfl, HC, hb⟩ := hrel
      have HG := Lib.hid hg
      clear hg
      by_cases hlt : k < s.length
      · have hx := get_some hlt
        generalize s[k] = x at hx
        have hxb : RBd x := HB.out x (List.mem_of_getElem? hx)
        obtain ⟨b, off, c, rfl, hi, c0, c1, c2⟩ := hR.at hb hx
        have hvs := hi.vals
        have HX := Lib.hid hx
        clear hx hi
        have bA := below_alloc wr (.cells #[sV x.key, .int .i64 x.op, .slice c.ao c.n c.cap] 43)
        have CC := Lib.hid (checkParsed_any c.ao c.n c.cap x _ (hvs.all bA) hxb)
        by_cases he : errOf x = 0
        · rw [he] at CC
          go_wp2_with fail
          refine CC.out.mono ?_
          rintro e W2 ⟨rfl, b2⟩
          have b3 := below_all hb (below_all bA b2)
          go_wp2
          go_roundg (s.length - (k + 1))
          case measure => have := HG.out; omega
          case rel => exact ⟨k + 1, by omega, rfl, by go_num, Lib.hid (HC.out.succ HX.out (decide_eq_true he)), b3⟩
        · have HF := Lib.hid (firstErr_at HC.out HX.out he)
          have HP := Lib.hid (HE.out (by rw [HF.out]; exact he))
          have hne : (errOf x == 0) = false := by simpa using he
          have hne2 : (errOf x != 0) = true := by simpa using he
          go_wp2_with fail
          refine CC.out.mono ?_
          rintro e W2 ⟨rfl, b2⟩
          have b3 := below_all b1 (below_all hb (below_all bA b2))
          go_wp2
          go_ret2
          exact ⟨.slice none 0 0, by rw [HP.out.1, HF.out]; rfl, by rw [HP.out.2]; exact reqs_nil _, b3⟩
      · obtain rfl : k = s.length := by omega
        have HZ := Lib.hid (firstErr_zero HC.out)
        have bF := below_all b1 hb
        have hRf := hR.all hb
        by_cases h16 : 16 < s.length
        · have HP := Lib.hid (HM.out HZ.out h16)
          go_wp2
          go_ret2
          exact ⟨.slice none 0 0, by rw [HP.out.1]; rfl, by rw [HP.out.2]; exact reqs_nil _, bF⟩
        · have HP := Lib.hid (HO.out HZ.out h16)
          go_wp2
          go_ret2
          exact ⟨_, by rw [HP.out.1]; rfl, by rw [HP.out.2]; exact hRf, bF⟩
end Go.Proofs.YtfohhokdcobhjaaDoor
