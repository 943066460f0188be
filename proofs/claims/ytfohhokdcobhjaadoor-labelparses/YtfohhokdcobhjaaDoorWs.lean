/- The contract of DeleteFunc with With's closure. -/
import Derived.Test.YtfohhokdcobhjaaDoorWr
namespace Go.Proofs.YtfohhokdcobhjaaDoor
open Go.RowKit Go.Sort Go.Proofs.LawFrame

theorem below_le {B B' : Nat} {a b : World} (h : Below B a b) (hB : B' ≤ B) : Below B' a b := h.mono hB

theorem zc_len (n : Nat) : (Builtin.zeroCells (Value.agg #[.string ⟨#[]⟩, .string ⟨#[]⟩]).cells n).toList.length = n * 2 := by simp [Builtin.zeroCells, Value.cells]
theorem zc_one {n : Nat} : ∀ v ∈ (Builtin.zeroCells (Value.agg #[.string ⟨#[]⟩, .string ⟨#[]⟩]).cells n).toList, v.oneCell' = true := by
  intro v hv
  simp only [Builtin.zeroCells, Value.cells] at hv
  simp at hv
  obtain ⟨a, -, rfl⟩ := hv
  rcases Nat.mod_two_eq_zero_or_one a with h | h <;> simp [h] <;> rfl

set_option maxRecDepth 4000 in
set_option maxHeartbeats 4000000 in
theorem deleteFunc_any (v : Value) (l : List Lab) (key : Str) (kb base : Nat) (w : World) (hown : w.ownsRow base 45 2 v l.length (l.flatMap labC)) (hl : l.length ≤ 1000) (hkb : kb < base) (hbw : base ≤ w.heap.size) (hk : w.cell? ⟨kb, 0, none⟩ = some (sV key)) :
    Calls Tryd.prog 35 #[v, .func (.func 37) #[] #[.pointer (some ⟨kb, 0, none⟩)]] w fun e w' => ∃ dv, e = .returned dv ∧ w'.ownsRow base 45 2 dv (restL l key).length ((restL l key).flatMap labC) ∧ Below base w w' := by
  have hv : Labs w v l := labs_own hown rfl
  have CI := Lib.hid (indexFunc37_any v l key kb w hv (by omega) hk)
  by_cases hm : idxI (eqK key) l = -1
  · have hr := restL_self hm
    rw [hm] at CI
    rw [hr]
    clear hr hm
    go_enter Tryd.func35, Tryd.ntmps35
    go_wp2_with (go_at_call 38; refine CI.out.mono ?_; rintro e w1 ⟨rfl, hb⟩)
    go_ret
    exact ⟨v, rfl, own_below hown hb, hb.mono hbw⟩
  obtain ⟨i, hil, hie, hr0, hr1⟩ := idxI_at hm
  have ST := Lib.hid (DelSt.start hil hr1)
  have hli : (restTo l key (i + 1)).length = i := by rw [hr1, List.length_take]; omega
  have HLI := Lib.hid hli
  clear hm hr0 hr1 hli
  rw [hie] at CI
  clear hie
  obtain ⟨g, cap, rfl, hn, hcap⟩ : ∃ g cap, v = .slice (some ⟨g, 0, none⟩) l.length cap ∧ l.length ≤ cap ∧ cap ≤ maxLen := by
    rcases hown.2 with ⟨-, h⟩ | ⟨g, cap, cur, h, -, -, h1, h2, -⟩
    · omega
    · exact ⟨g, cap, h, h1, h2⟩
  unfold maxLen at hcap
  have hgb := own_row hown g rfl
  clear hv
  go_enter Tryd.func35, Tryd.ntmps35
  go_wp2_with (go_at_call 38; refine CI.out.mono ?_; rintro e w1 ⟨rfl, hb⟩)
  replace hown := own_below hown hb
  replace hb := hb.mono hbw
  go_loopg [5, 6] (l.length - (i + 1)) (fun g' p q wr => ∃ (j : Nat) (C : List Lab), i < j ∧ j ≤ l.length ∧ g' = l.length - j ∧ q = .int .i64 j ∧ p = .int .i64 (restTo l key j).length ∧ Hid (DelSt l key j C) ∧ Below base w wr ∧ wr.ownsRow base 45 2 (.slice (some ⟨g, 0, none⟩) l.length cap) l.length (C.flatMap labC))
  case atStart => exact ⟨i + 1, l, by omega, by omega, rfl, by go_num, by rw [HLI.out], ST, hb, hown⟩
  case round =>
    clear hb hown
    obtain ⟨j, C, hij, hj, hg', rfl, rfl, HS, hb, hown⟩ := hrel
    have HG := Lib.hid hg'
    clear hg'
    have hlt2 := HS.out.lt
    have hCl := HS.out.len
    have hrl := restTo_len l key j
    by_cases hlt : j < l.length
    · have hx := get_some hlt
      generalize l[j] = x at hx
      have HX := Lib.hid hx
      have hCx := HS.out.get hx
      clear hx
      obtain ⟨x1, x2⟩ := x
      obtain ⟨c0, c1, -, -⟩ := own_get hown hCx hCl
      simp only at c0 c1
      have hkr : wr.cell? ⟨kb, 0, none⟩ = some (sV key) := by rw [hb.cell (p := ⟨kb, 0, none⟩) hkb]; exact hk
      have hsz := hb.size
      have hb1 := below_alloc wr (.cells #[sV x1, sV x2] 45)
      have hkr1 : (wr.alloc (.cells #[sV x1, sV x2] 45)).cell? ⟨kb, 0, none⟩ = some (sV key) := by rw [hb1.cell (p := ⟨kb, 0, none⟩) (show kb < wr.heap.size by omega)]; exact hkr
      have CC := Lib.hid (clo37_any x1 x2 key kb (wr.alloc (.cells #[sV x1, sV x2] 45)) (by simp; omega) hkr1)
      have oc := Own.new wr [sV x1, sV x2] 45
      have ho1 := own_below hown hb1
      clear hkr hkr1
      cases he : (x1 == key)
      · have hE : eqK key (x1, x2) = false := he
        rw [hE] at CC
        have HE := Lib.hid he
        clear he hE
        have hri : (restTo l key j).length < C.length := by omega
        have hy := get_some hri
        generalize C[(restTo l key j).length] = y at hy
        have ST2 := Lib.hid (HS.out.keep hlt HX.out HE.out)
        have HR := Lib.hid (restTo_yes HX.out HE.out)
        generalize hK : (restTo l key j).length = K at *
        go_wp2_with (go_at_call 37; refine CC.out.mono ?_; rintro e w2 ⟨rfl, hb2⟩; have oc2 := oc.all hb2; have e0 := oc2.cell (i := 0) rfl; have e1 := oc2.cell (i := 1) rfl; have ho2 := own_below ho1 hb2; obtain ⟨f0, f1, f2, f3⟩ := own_get ho2 hy hCl)
        go_roundg (l.length - (j + 1))
        case measure => have := HG.out; omega
        case rel =>
          refine ⟨j + 1, C.set K (x1, x2), by omega, by omega, rfl, by go_num, by rw [HR.out, List.length_append, hK]; rfl, ST2, ?_, own_set ho2 (by omega) (x1, x2)⟩
          exact below_set (below_set (below_next hb (by omega) (below_all hb1 hb2)) hgb _) hgb _
      · have hE : eqK key (x1, x2) = true := he
        rw [hE] at CC
        have HE := Lib.hid he
        clear he hE
        have HR := Lib.hid (restTo_no HX.out HE.out)
        have ST2 := Lib.hid (HS.out.skip HX.out HE.out)
        generalize hK : (restTo l key j).length = K at *
        go_wp2_with (go_at_call 37; refine CC.out.mono ?_; rintro e w2 ⟨rfl, hb2⟩)
        go_roundg (l.length - (j + 1))
        case measure => have := HG.out; omega
        case rel => exact ⟨j + 1, C, by omega, by omega, rfl, by go_num, by rw [HR.out, hK], ST2, below_next hb (by omega) (below_all hb1 hb2), own_below ho1 hb2⟩
    · obtain rfl : j = l.length := by omega
      have hhd := HS.out.head
      rw [restTo_all] at hhd hlt2 hrl
      rw [restTo_all]
      have HH := Lib.hid hhd
      clear hhd HS
      generalize hK : (restL l key).length = K at *
      obtain ⟨cur, oc, -, -, -, hcl, hct, -⟩ := own_cur hown
      have hci : ¬ cap = K := by omega
      have hzl := zc_len (l.length - K)
      have hcr := fun ty c => run_clear_rowk (P := Tryd.prog) wr 22 45 ty (.agg #[.string ⟨#[]⟩, .string ⟨#[]⟩]) Tryd.underlying22 zero45 g (K * 2) (l.length - K) c (by omega) cur.toArray 45 oc (by rw [hzl]; simp only [List.size_toArray]; omega) zc_one
      generalize (Builtin.zeroCells (Value.agg #[.string ⟨#[]⟩, .string ⟨#[]⟩]).cells (l.length - K)).toList = Z at *
      go_wp2_with (refine wpList_clear_run _ rfl (.tmp 38) 22 rfl _ rfl (hcr _ _) ?_)
      go_ret
      refine ⟨_, rfl, own_mk (Own.setRow oc _) hgb (by omega) (by unfold maxLen; omega) ?_ ?_, below_setRow hb hgb _⟩
      · simp only [List.length_append, List.length_take, List.length_drop, hcl, hzl]; omega
      · rw [List.take_append_of_le_length (by rw [List.length_take, hcl]; omega), List.take_take, Nat.min_self, ← HH.out, ← flat_take, ← hct, List.take_take, Nat.min_eq_left (by omega)]
end Go.Proofs.YtfohhokdcobhjaaDoor
