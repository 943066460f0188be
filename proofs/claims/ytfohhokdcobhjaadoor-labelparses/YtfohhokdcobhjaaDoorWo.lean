/- The contract of the reference's With. -/
import Derived.Test.YtfohhokdcobhjaaDoorWn
import Derived.Test.YtfohhokdcobhjaaDoorMd
namespace Go.Proofs.YtfohhokdcobhjaaDoor
open Go.RowKit Go.Sort Go.Proofs.LawFrame

theorem labs_own {w : World} {base n : Nat} {v : Value} {l : List Lab} (h : w.ownsRow base 45 2 v n (l.flatMap labC)) (hn : n = l.length) : Labs w v l := by
  subst hn; exact Flat.of_own h

set_option maxRecDepth 4000 in
set_option maxHeartbeats 4000000 in
theorem rwith_any (v : Value) (l : List Lab) (key val : Str) (w : World) (hv : Labs w v l) (hl40 : l.length ≤ 1000) :
    Calls Tryd.prog 21 #[v, sV key, sV val] w fun e w' => ∃ rv, e = .returned rv ∧ Labs w' rv (withL l key val) ∧ Below w.heap.size w w' := by
  obtain ⟨ao, cap, rfl, hlc, hcap, -⟩ := hv.out
  unfold maxLen at hcap
  obtain ⟨i45, hi45, hzi45, hsi45, hyi45⟩ := info_parts info45
  go_enter Tryd.func21, Tryd.ntmps21
  go_wp2
  go_loopg [7, 8] l.length (fun g p i wr => ∃ k : Nat, k ≤ l.length ∧ g = l.length - k ∧ i = .int .i64 k ∧ Below w.heap.size w wr ∧ wr.ownsRow w.heap.size 45 2 p (restTo l key k).length ((restTo l key k).flatMap labC))
  case atStart => exact ⟨0, Nat.zero_le _, rfl, rfl, Below.refl _ _, own_nil _ _ _ _⟩
  case round =>
    obtain ⟨k, hk, hg, rfl, hb, hown⟩ := hrel
    have HG := Lib.hid hg
    clear hg
    by_cases hlt : k < l.length
    · have hx := get_some hlt
      generalize l[k] = x at hx
      obtain ⟨x1, x2⟩ := x
      obtain ⟨b, off, rfl, c0, c1⟩ := hv.at hb hx
      simp only at c0 c1
      have hrl := restTo_len l key k
      have HX := Lib.hid hx
      clear hx
      cases he : (x1 == key)
      · have HE := Lib.hid he
        have hsz := hb.size
        have HS := Lib.hid (restTo_yes HX.out HE.out)
        generalize restTo l key k = R at *
        go_wp2_with (first | (at_builtin; refine wpList_append_own _ rfl (.tmp 25) (.tmp 30) 22 rfl w.heap.size 45 i45 (.agg #[.string ⟨#[]⟩, .string ⟨#[]⟩]) 2 32 Tryd.underlying22 hi45 hzi45 hsi45 hyi45 rfl (by decide) _ _ _ rfl (hown.alloc _) ⟨wr.heap.size, 0, none⟩ 1 1 [sV x1, sV x2] rfl rfl (cell_pair_new _ _ _ _) (fun u hu => by simp at hu; rcases hu with rfl | rfl <;> rfl) (by unfold maxLen; omega) (by omega) (by simp; omega) ?_; intro v' w5 hown5 hgrow5 hnil5))
        go_roundg (l.length - (k + 1))
        case measure => have := HG.out; omega
        case rel => exact ⟨k + 1, by omega, rfl, by go_num, below_grown (below_all hb (below_alloc _ _)) hgrow5 (by simp; omega) (own_row hown), by rw [HS.out, flatMap_snoc, List.length_append]; exact hown5⟩
      · have HE := Lib.hid he
        go_wp2
        go_roundg (l.length - (k + 1))
        case measure => have := HG.out; omega
        case rel => exact ⟨k + 1, by omega, rfl, by go_num, hb, by rw [restTo_no HX.out HE.out]; exact hown⟩
    · obtain rfl : k = l.length := by omega
      rw [restTo_all] at hown
      have hrl := restL_len l key
      have HW : Hid (withL l key val = insL (restL l key) key val) := Lib.hid rfl
      have HR := Lib.hid (restL_ne (l := l) (key := key))
      generalize restL l key = R at *
      have hR : Labs wr u7 R := labs_own hown rfl
      obtain ⟨ao2, cap2, rfl, hlc2, hcap2, -⟩ := hR.out
      unfold maxLen at hcap2
      clear hown HG hlt
      generalize wr = W1 at *
      go_wp2
      go_loopg [9, 10, 11] R.length (fun g p d i ws => ∃ k : Nat, k ≤ R.length ∧ g = R.length - k ∧ i = .int .i64 k ∧ d = .bool (dn R key k) ∧ Below W1.heap.size W1 ws ∧ ws.ownsRow W1.heap.size 45 2 p (outTo R key val k).length ((outTo R key val k).flatMap labC))
      case atStart => exact ⟨0, Nat.zero_le _, rfl, rfl, rfl, Below.refl _ _, by rw [outTo_zero]; exact own_nil _ _ _ _⟩
      case round =>
        obtain ⟨k, hk, hg, rfl, rfl, hbs, hown⟩ := hrel
        have HG := Lib.hid hg
        clear hg
        have hol := outTo_len R key val k
        have hsz := hbs.size
        have hsw := hb.size
        by_cases hlt : k < R.length
        · have hx := get_some hlt
          generalize R[k] = x at hx
          obtain ⟨x1, x2⟩ := x
          obtain ⟨b2, off2, rfl, c0, c1⟩ := hR.at hbs hx
          simp only at c0 c1
          have HX := Lib.hid hx
          clear hx
          cases hd : dn R key k
          · have hne : (x1 == key) = false := HR.out _ (List.mem_of_getElem? HX.out)
            cases hgt : Op.bytesLess x1 key
            rotate_left
            · have HS := Lib.hid (outTo_miss (v := val) HX.out hd (gtK_no (x2 := x2) hgt))
              have HD := Lib.hid (show dn R key (k + 1) = false from by rw [dn_succ HX.out, hd]; exact gtK_no hgt)
              generalize outTo R key val k = O at *
              go_wp2_with (first | (at_builtin; refine wpList_append_own _ rfl (.tmp 55) (.tmp 60) 22 rfl W1.heap.size 45 i45 (.agg #[.string ⟨#[]⟩, .string ⟨#[]⟩]) 2 32 Tryd.underlying22 hi45 hzi45 hsi45 hyi45 rfl (by decide) _ _ _ rfl (hown.alloc _) ⟨wr.heap.size, 0, none⟩ 1 1 [sV x1, sV x2] rfl rfl (cell_pair_new _ _ _ _) (fun u hu => by simp at hu; rcases hu with rfl | rfl <;> rfl) (by unfold maxLen; omega) (by omega) (by simp; omega) ?_; intro v' w5 hown5 hgrow5 hnil5))
              go_roundg (R.length - (k + 1))
              case measure => have := HG.out; omega
              case rel => exact ⟨k + 1, by omega, rfl, by go_num, by rw [HD.out], below_grown (below_all hbs (below_alloc _ _)) hgrow5 (by simp; omega) (own_row hown), by rw [HS.out, flatMap_snoc, List.length_append]; exact hown5⟩
            · have HS := Lib.hid (outTo_hit (v := val) HX.out hd (gtK_yes (x2 := x2) hgt hne))
              have HD := Lib.hid (show dn R key (k + 1) = true from by rw [dn_succ HX.out, hd]; exact gtK_yes hgt hne)
              generalize outTo R key val k = O at *
              go_wp2_with (first | (at_builtin; refine wpList_append_own _ rfl (.tmp 49) (.tmp 53) 22 rfl W1.heap.size 45 i45 (.agg #[.string ⟨#[]⟩, .string ⟨#[]⟩]) 2 32 Tryd.underlying22 hi45 hzi45 hsi45 hyi45 rfl (by decide) _ _ _ rfl (hown.alloc _) ⟨wr.heap.size, 0, none⟩ 1 1 [sV key, sV val] rfl rfl (cell_pair_new _ _ _ _) (fun u hu => by simp at hu; rcases hu with rfl | rfl <;> rfl) (by unfold maxLen; omega) (by omega) (by simp; omega) ?_; intro v' w5 hown5 hgrow5 hnil5; have hb5 := below_grown (below_all hbs (below_alloc _ _)) hgrow5 (by simp; omega) (own_row hown); obtain ⟨_, _, he5, d0, d1⟩ := hR.at hb5 HX.out; cases he5; simp only at d0 d1) | (at_builtin; refine wpList_append_own _ rfl (.tmp 55) (.tmp 60) 22 rfl W1.heap.size 45 i45 (.agg #[.string ⟨#[]⟩, .string ⟨#[]⟩]) 2 32 Tryd.underlying22 hi45 hzi45 hsi45 hyi45 rfl (by decide) _ _ _ rfl (hown5.alloc _) ⟨w5.heap.size, 0, none⟩ 1 1 [sV x1, sV x2] rfl rfl (cell_pair_new _ _ _ _) (fun u hu => by simp at hu; rcases hu with rfl | rfl <;> rfl) (by unfold maxLen; omega) (by omega) (by have := hb5.size; simp; omega) ?_; intro v'' w6 hown6 hgrow6 hnil6))
              go_roundg (R.length - (k + 1))
              case measure => have := HG.out; omega
              case rel => exact ⟨k + 1, by omega, rfl, by go_num, by rw [HD.out], below_grown (below_all hb5 (below_alloc _ _)) hgrow6 (by have := hb5.size; simp; omega) (own_row hown5), by rw [HS.out, flatMap_snoc, flatMap_snoc, List.length_append, List.length_append]; exact hown6⟩
          · have HS := Lib.hid (outTo_done (v := val) HX.out hd)
            have HD := Lib.hid (show dn R key (k + 1) = true from by rw [dn_succ HX.out, hd]; rfl)
            generalize outTo R key val k = O at *
            go_wp2_with (first | (at_builtin; refine wpList_append_own _ rfl (.tmp 55) (.tmp 60) 22 rfl W1.heap.size 45 i45 (.agg #[.string ⟨#[]⟩, .string ⟨#[]⟩]) 2 32 Tryd.underlying22 hi45 hzi45 hsi45 hyi45 rfl (by decide) _ _ _ rfl (hown.alloc _) ⟨wr.heap.size, 0, none⟩ 1 1 [sV x1, sV x2] rfl rfl (cell_pair_new _ _ _ _) (fun u hu => by simp at hu; rcases hu with rfl | rfl <;> rfl) (by unfold maxLen; omega) (by omega) (by simp; omega) ?_; intro v' w5 hown5 hgrow5 hnil5))
            go_roundg (R.length - (k + 1))
            case measure => have := HG.out; omega
            case rel => exact ⟨k + 1, by omega, rfl, by go_num, by rw [HD.out], below_grown (below_all hbs (below_alloc _ _)) hgrow5 (by simp; omega) (own_row hown), by rw [HS.out, flatMap_snoc, List.length_append]; exact hown5⟩
        · obtain rfl : k = R.length := by omega
          cases hd : dn R key R.length
          · have HS := Lib.hid (outTo_last (v := val) hd)
            generalize outTo R key val R.length = O at *
            go_wp2_with (first | (at_builtin; refine wpList_append_own _ rfl (.tmp 64) (.tmp 68) 22 rfl W1.heap.size 45 i45 (.agg #[.string ⟨#[]⟩, .string ⟨#[]⟩]) 2 32 Tryd.underlying22 hi45 hzi45 hsi45 hyi45 rfl (by decide) _ _ _ rfl (hown.alloc _) ⟨wr.heap.size, 0, none⟩ 1 1 [sV key, sV val] rfl rfl (cell_pair_new _ _ _ _) (fun u hu => by simp at hu; rcases hu with rfl | rfl <;> rfl) (by unfold maxLen; omega) (by omega) (by simp; omega) ?_; intro v' w5 hown5 hgrow5 hnil5))
            go_ret
            refine ⟨v', rfl, ?_, below_grown (below_all (below_all hb hbs) (below_alloc _ _)) hgrow5 (by simp; omega) (fun k h => Nat.le_trans hsw (own_row hown k h))⟩
            rw [HW.out, ← HS.out]
            exact labs_own (l := O ++ [(key, val)]) (by rw [flatMap_snoc]; exact hown5) (by simp)
          · have HS := Lib.hid (outTo_end (v := val) hd)
            go_wp2
            go_ret
            refine ⟨u9, rfl, ?_, below_all hb hbs⟩
            rw [HW.out, ← HS.out]
            exact labs_own hown rfl
end Go.Proofs.YtfohhokdcobhjaaDoor
