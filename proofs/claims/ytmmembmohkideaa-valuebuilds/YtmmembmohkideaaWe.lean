/- The contract of validNames. -/
import Derived.Test.YtmmembmohkideaaWd
import Derived.BigRegion
namespace Go.Proofs.Ytmmembmohkideaa
open Go.RowKit Go.Sort Go.Proofs.LawFrame

/-- a bool that says whether P holds; old memory is left alone -/
structure RB (w : World) (P : Prop) (e : Ending) (w' : World) : Prop where
  out : ∃ r : Bool, e = .returned (.bool r) ∧ Below w.heap.size w w' ∧ (r = true ↔ P)

set_option maxHeartbeats 1000000 in
theorem validNames_any (v : Value) (f : List (Str × T)) (w : World) (hf : Flds w v f) (hfl : f.length ≤ 1000) :
    Calls Try.prog 66 #[v] w fun e w' => RB w (NmTo f f.length) e w' := by
  obtain ⟨ao, cap, rfl, hfc, hfm⟩ := hf.form
  unfold maxLen at hfm
  go_enter Try.func66, Try.ntmps66
  go_wp2
  go_loopg [7] f.length (fun g i wr => ∃ k : Nat, k ≤ f.length ∧ g = f.length - k ∧ i = .int .i64 k ∧ Below w.heap.size w wr ∧ Hid (NmTo f k))
  case atStart => exact ⟨0, Nat.zero_le _, rfl, rfl, Below.refl _ _, Lib.hid (NmTo.zero f)⟩
  case round =>
    obtain ⟨k, hk, hg, rfl, hb, HN⟩ := hrel
    have HG := Lib.hid hg
    clear hg
    by_cases hlt : k < f.length
    · have hx := get_some hlt
      generalize f[k] = p at hx
      obtain ⟨b, off, c, rfl, hbl, hI, q, q0, q1, q2, q3, q4⟩ := hf.at hb hx
      clear hI
      have HX := Lib.hid hx
      clear hx
      have hB := hb.alloc hb.size (.cells #[sV p.1, .int .i64 c.k, .int .i64 c.n, sV c.s, .slice c.la c.ln c.lc, .slice c.fa c.fn c.fc] 35)
      have oN : Own (wr.alloc (.cells #[sV p.1, .int .i64 c.k, .int .i64 c.n, sV c.s, .slice c.la c.ln c.lc, .slice c.fa c.fn c.fc] 35)) wr.heap.size [sV p.1, .int .i64 c.k, .int .i64 c.n, sV c.s, .slice c.la c.ln c.lc, .slice c.fa c.fn c.fc] 35 := Own.new _ _ _
      go_wp2_with fail
      clear q q0 q1 q2 q3 q4 hb
      generalize wr.alloc (.cells #[sV p.1, .int .i64 c.k, .int .i64 c.n, sV c.s, .slice c.la c.ln c.lc, .slice c.fa c.fn c.fc] 35) = V at *
      have qn : V.cell? ⟨wr.heap.size, 0, none⟩ = some (sV p.1) := oN.cell rfl
      clear oN
      have HB := Lib.hid hB
      refine (validName_any _ _).mono ?_
      rintro e w' ⟨rfl, rfl⟩
      cases hok : nameOk p.1
      · clear hB
        go_wp2
        go_ret
        exact ⟨false, rfl, HB.out, by simp; exact NmTo.no HX.out hok⟩
      · by_cases hp : 0 < k
        · have hy := get_some (show k - 1 < f.length by omega)
          generalize f[k - 1] = p' at hy
          obtain ⟨b', off', c', he, hbl', hI', q', q0', q1', q2', q3', q4'⟩ := hf.at hB hy
          cases he
          clear hI' q0' q1' q2' q3' q4' hB
          have HY := Lib.hid hy
          clear hy
          cases hyx : Op.bytesLess p'.1 p.1
          · go_wp2
            go_region
            all_goals
              go_wp2
              go_ret
              exact ⟨false, rfl, HB.out.drew, by simp; exact NmTo.no_lt HX.out hp HY.out (less_not.1 hyx)⟩
          · go_wp2
            go_region
            all_goals
              go_wp2
              go_roundg (f.length - (k + 1))
              case measure => have := HG.out; omega
              case rel => exact ⟨k + 1, by omega, rfl, by go_num, HB.out.drew, Lib.hid (HN.out.succ HX.out hok (fun q _ hq => by rw [HY.out] at hq; cases hq; exact less_iff.1 hyx))⟩
        · have hp2 : ¬ (0 : Int) < (k : Int) := by omega
          clear hB
          go_wp2
          go_region
          all_goals
            go_wp2
            go_roundg (f.length - (k + 1))
            case measure => have := HG.out; omega
            case rel => exact ⟨k + 1, by omega, rfl, by go_num, HB.out.drew, Lib.hid (HN.out.succ HX.out hok (fun q h => absurd h hp))⟩
    · obtain rfl : k = f.length := by omega
      go_wp2
      go_ret
      exact ⟨true, rfl, hb, by simp; exact HN.out⟩
end Go.Proofs.Ytmmembmohkideaa
