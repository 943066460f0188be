/- The contract of copyFields at fields whose values are leaves. -/
import Derived.Test.YtmmembmohkideaaWp
namespace Go.Proofs.Ytmmembmohkideaa
open Go.RowKit Go.Sort Go.Proofs.LawFrame

/-- a field without list and fields -/
def FC.bare (c : FC) : FC := ⟨c.x, ⟨c.v.k, c.v.n, c.v.s, none, 0, 0, none, 0, 0⟩⟩

set_option maxHeartbeats 2000000 in
theorem copyFields_leaf (ao : Option Addr) (cap : Nat) (cs : List FC) (w : World) (hv : Flat w (.slice ao cs.length cap) cs.length (cs.flatMap FC.cells)) (hleaf : ∀ c ∈ cs, c.v.ln = 0 ∧ c.v.fn = 0) (hn : cs.length ≤ 1000) (hp : 0 < cs.length) :
    Calls Try.prog 51 #[.slice ao cs.length cap] w fun e w' => ∃ b, e = .returned (.slice (some ⟨b, 0, none⟩) cs.length cs.length) ∧ w.heap.size ≤ b ∧ Own w' b ((cs.map FC.bare).flatMap FC.cells) 35 ∧ Below w.heap.size w w' := by
  obtain ⟨ao', cap', he, hlc, hlm, hr⟩ := hv.out
  cases he
  obtain ⟨b, off, rfl, hbl, hcell⟩ := hr hp
  unfold maxLen at hlm
  have hz : ((cs.length : Int) == 0) = false := by rw [beq_eq_false_iff_ne]; omega
  obtain ⟨i0, hi0, hz0, hs0, hb0⟩ := info_parts info35
  have hmk : ∀ w : World, (Instr.makeSlice 23 (.int .i64 (cs.length : Int)) (.int .i64 (cs.length : Int))).run Try.prog w = .ok (.slice (some ⟨w.heap.size, 0, none⟩) cs.length cs.length) (w.alloc (.cells ((List.replicate cs.length FC0).flatMap FC.cells).toArray 35)) := fun w => by
    have := run_make (P := Try.prog) w 23 35 i0 _ Try.underlying23 hi0 hz0 .i64 .i64 (cs.length : Int) (cs.length : Int) (by omega) (Int.le_refl _) (by rw [hb0]; omega) (by omega)
    rw [this, hs0]
    have e := made_row FC.cells (m := 6) (fun _ => rfl) FC0 (Value.cells (.agg #[.string ⟨#[]⟩, .int .i64 0, .int .i64 0, .string ⟨#[]⟩, .slice none 0 0, .slice none 0 0])) rfl cs.length
    simp only [Int.toNat_natCast]
    rw [← e]
  go_enter Try.func51, Try.ntmps51
  go_wp2
  have o0 : Own (w.alloc (.cells ((List.replicate cs.length FC0).flatMap FC.cells).toArray 35)) w.heap.size ((List.replicate cs.length FC0).flatMap FC.cells) 35 := Own.new _ _ _
  have hw0 : Below w.heap.size w (w.alloc (.cells ((List.replicate cs.length FC0).flatMap FC.cells).toArray 35)) := (Below.refl _ _).alloc (Nat.le_refl _) _
  generalize w.alloc (.cells ((List.replicate cs.length FC0).flatMap FC.cells).toArray 35) = W at *
  have R0 := Lib.hid (And.intro hw0 o0)
  clear hw0 o0 hmk
  go_loopg [14] cs.length (fun g i wr => ∃ (k : Nat) (ds : List FC), k ≤ cs.length ∧ g = cs.length - k ∧ i = .int .i64 k ∧ ds.length = cs.length ∧ Below w.heap.size w wr ∧ Own wr w.heap.size (ds.flatMap FC.cells) 35 ∧ Hid (ds.take k = (cs.map FC.bare).take k))
  case atStart =>
    obtain ⟨hw0, o0⟩ := R0.out
    exact ⟨0, List.replicate cs.length FC0, Nat.zero_le _, rfl, rfl, by simp, hw0, o0, Lib.hid (by simp)⟩
  case round =>
    obtain ⟨k, ds, hk, hg, rfl, hds, hb, o0, HA⟩ := hrel
    have HG := Lib.hid hg
    clear hg R0
    by_cases hlt : k < cs.length
    · have hx := List.getElem?_eq_getElem hlt
      generalize cs[k] = c at hx
      have hc : ∀ j x, c.cells[j]? = some x → wr.cell? ⟨b, off + k * 6 + j, none⟩ = some x := fun j x hxj => by
        have hj : j < 6 := (List.getElem?_eq_some_iff.1 hxj).1
        rw [hb.cell (p := ⟨b, off + k * 6 + j, none⟩) hbl, Nat.add_assoc]
        exact hcell (k * 6 + j) x (by rw [flat_get FC.cells (m := 6) (fun _ => rfl) cs k j c hx hj]; exact hxj)
      have q : wr.cell? ⟨b, off + k * 6, none⟩ = some (sV c.x) := hc 0 _ rfl
      have q0 : wr.cell? ⟨b, off + k * 6 + 1, none⟩ = some (.int .i64 c.v.k) := hc 1 _ rfl
      have q1 : wr.cell? ⟨b, off + k * 6 + 2, none⟩ = some (.int .i64 c.v.n) := hc 2 _ rfl
      have q2 : wr.cell? ⟨b, off + k * 6 + 3, none⟩ = some (sV c.v.s) := hc 3 _ rfl
      have q3 : wr.cell? ⟨b, off + k * 6 + 4, none⟩ = some (.slice c.v.la c.v.ln c.v.lc) := hc 4 _ rfl
      have q4 : wr.cell? ⟨b, off + k * 6 + 5, none⟩ = some (.slice c.v.fa c.v.fn c.v.fc) := hc 5 _ rfl
      obtain ⟨hln, hfn⟩ := hleaf c (List.mem_of_getElem? hx)
      rw [hln] at q3
      rw [hfn] at q4
      have HX := Lib.hid hx
      clear hc hx hln hfn
      have hbb := hb.alloc hb.size (.cells #[sV c.x, .int .i64 c.v.k, .int .i64 c.v.n, sV c.v.s, .slice c.v.la 0 c.v.lc, .slice c.v.fa 0 c.v.fc] 35)
      have oo := o0.alloc (.cells #[sV c.x, .int .i64 c.v.k, .int .i64 c.v.n, sV c.v.s, .slice c.v.la 0 c.v.lc, .slice c.v.fa 0 c.v.fc] 35)
      have oN : Own (wr.alloc (.cells #[sV c.x, .int .i64 c.v.k, .int .i64 c.v.n, sV c.v.s, .slice c.v.la 0 c.v.lc, .slice c.v.fa 0 c.v.fc] 35)) wr.heap.size [sV c.x, .int .i64 c.v.k, .int .i64 c.v.n, sV c.v.s, .slice c.v.la 0 c.v.lc, .slice c.v.fa 0 c.v.fc] 35 := Own.new _ _ _
      go_wp2
      clear q q0 q1 q2 q3 q4 hb o0
      have hwl := oN.lt
      change Code.wp Try.prog _ _ _ (wr.alloc (.cells #[sV c.x, .int .i64 c.v.k, .int .i64 c.v.n, sV c.v.s, .slice c.v.la 0 c.v.lc, .slice c.v.fa 0 c.v.fc] 35))
      generalize wr.alloc (.cells #[sV c.x, .int .i64 c.v.k, .int .i64 c.v.n, sV c.v.s, .slice c.v.la 0 c.v.lc, .slice c.v.fa 0 c.v.fc] 35) = V at *
      have z0 := cell_regrown (oN.cell (i := 0) rfl)
      have z1 := cell_regrown (oN.cell (i := 1) rfl)
      have z2 := cell_regrown (oN.cell (i := 2) rfl)
      have z3 := cell_regrown (oN.cell (i := 3) rfl)
      have z4 := cell_regrown (oN.cell (i := 4) rfl)
      have z5 := cell_regrown (oN.cell (i := 5) rfl)
      have cC : ∀ dd os, Calls Try.prog 54 #[.agg #[.int .i64 c.v.k, .int .i64 c.v.n, sV c.v.s, .slice c.v.la 0 c.v.lc, .slice c.v.fa 0 c.v.fc]] (grow (redrawn V dd) os) fun e w'' => e = .returned (.agg #[.int .i64 c.v.k, .int .i64 c.v.n, sV c.v.s, .slice none 0 0, .slice none 0 0]) ∧ ∃ p : Regrown, w'' = grow (redrawn V p.d) p.os := fun dd os => Calls.regrown_of (copyValue_leaf _ _ _ _ _ _ _ _)
      refine wp_region_tail_below 9 (by kernel_rfl) (by kernel_rfl) ?_
      simp only [List.take_succ_cons, List.take_zero, List.drop_succ_cons, List.drop_zero]
      repeat (first | go_big_quiet_step ((with_reducible exact cC _ _)) | quiet_step (with_reducible exact cC _ _))
      refine wpQuiet_nil ?_
      intro _ hw'
      obtain ⟨⟨dq, osq⟩, hw''⟩ := hw'
      subst hw''
      have hbe := below_all hbb (below_regrown V dq osq)
      have o2 := oo.all (below_regrown V dq osq)
      clear z0 z1 z2 z3 z4 z5 cC oN hbb oo
      generalize grow (redrawn V dq) osq = U at *
      obtain ⟨y0, e0⟩ : ∃ z, U.cell? ⟨w.heap.size, k * 6, none⟩ = some z := ⟨_, o2.cell (List.getElem?_eq_getElem (by rw [flat_length FC.cells (m := 6) (fun _ => rfl), hds]; omega))⟩
      have f0 := o2.frozen (k * 6)
      obtain ⟨y1, e1⟩ : ∃ z, U.cell? ⟨w.heap.size, k * 6 + 1, none⟩ = some z := ⟨_, o2.cell (List.getElem?_eq_getElem (by rw [flat_length FC.cells (m := 6) (fun _ => rfl), hds]; omega))⟩
      have f1 := o2.frozen (k * 6 + 1)
      obtain ⟨y2, e2⟩ : ∃ z, U.cell? ⟨w.heap.size, k * 6 + 2, none⟩ = some z := ⟨_, o2.cell (List.getElem?_eq_getElem (by rw [flat_length FC.cells (m := 6) (fun _ => rfl), hds]; omega))⟩
      have f2 := o2.frozen (k * 6 + 2)
      obtain ⟨y3, e3⟩ : ∃ z, U.cell? ⟨w.heap.size, k * 6 + 3, none⟩ = some z := ⟨_, o2.cell (List.getElem?_eq_getElem (by rw [flat_length FC.cells (m := 6) (fun _ => rfl), hds]; omega))⟩
      have f3 := o2.frozen (k * 6 + 3)
      obtain ⟨y4, e4⟩ : ∃ z, U.cell? ⟨w.heap.size, k * 6 + 4, none⟩ = some z := ⟨_, o2.cell (List.getElem?_eq_getElem (by rw [flat_length FC.cells (m := 6) (fun _ => rfl), hds]; omega))⟩
      have f4 := o2.frozen (k * 6 + 4)
      obtain ⟨y5, e5⟩ : ∃ z, U.cell? ⟨w.heap.size, k * 6 + 5, none⟩ = some z := ⟨_, o2.cell (List.getElem?_eq_getElem (by rw [flat_length FC.cells (m := 6) (fun _ => rfl), hds]; omega))⟩
      have f5 := o2.frozen (k * 6 + 5)
      have HO := Lib.hid (And.intro hbe o2)
      clear hbe o2
      go_wp2
      have os := Own.setF HO.out.2 (k := k) (by omega) c.bare
      go_roundg (cs.length - (k + 1))
      case measure => have := HG.out; omega
      case rel =>
        refine ⟨k + 1, ds.set k c.bare, by omega, rfl, by go_num, by rw [List.length_set]; exact hds, ?_, os, Lib.hid ?_⟩
        · exact below_set (below_set (below_set (below_set (below_set (below_set HO.out.1 (Nat.le_refl _) _) (Nat.le_refl _) _) (Nat.le_refl _) _) (Nat.le_refl _) _) (Nat.le_refl _) _) (Nat.le_refl _) _
        · rw [take_snoc (c := c.bare) (by rw [List.getElem?_set_self (by omega)]), take_snoc (l := cs.map FC.bare) (c := c.bare) (by rw [List.getElem?_map, HX.out]; rfl), List.take_set_of_le (Nat.le_refl _), HA.out]
    · obtain rfl : k = cs.length := by omega
      have HD : Hid (ds = cs.map FC.bare) := Lib.hid (by have := HA.out; rw [← hds, List.take_length, hds, List.take_of_length_le (by simp)] at this; exact this)
      go_wp2
      go_ret
      exact ⟨w.heap.size, rfl, Nat.le_refl _, by rw [← HD.out]; exact o0, hb⟩
end Go.Proofs.Ytmmembmohkideaa
