/- Contracts of the stable sort at few fields, and of the copies of leaves. The contract of copyFields at fields whose values are leaves. The contract of Map at few fields whose values are leaves. -/
import Derived.Test.YtinenbgdkchghaaWmJ
set_option linter.unusedSimpArgs false
set_option linter.unusedVariables false
namespace Go.Proofs.Ytinenbgdkchghaa
open Go.RowKit Go.Sort Go.Proofs.LawFrame

set_option maxHeartbeats 400000 in
theorem copyList_empty (ao : Option Addr) (cap : Nat) (w : World) : Calls Try.prog 47 #[.slice ao 0 cap] w fun e w' => e = .returned (.slice none 0 0) ∧ w = w' := by
  go_enter Try.func47, Try.ntmps47
  go_wp2
  go_ret
  exact ⟨rfl, rfl⟩
set_option maxHeartbeats 400000 in
theorem copyFields_empty (ao : Option Addr) (cap : Nat) (w : World) : Calls Try.prog 59 #[.slice ao 0 cap] w fun e w' => e = .returned (.slice none 0 0) ∧ w = w' := by
  go_enter Try.func59, Try.ntmps59
  go_wp2
  go_ret
  exact ⟨rfl, rfl⟩
set_option maxHeartbeats 1000000 in
theorem copyValue_leaf (k n : Int) (s : Str) (la fa : Option Addr) (lc fc : Nat) (w : World) :
    Calls Try.prog 53 #[.agg #[.int .i64 k, .int .i64 n, sV s, .slice la 0 lc, .slice fa 0 fc]] w fun e w' => e = .returned (.agg #[.int .i64 k, .int .i64 n, sV s, .slice none 0 0, .slice none 0 0]) ∧ Below w.heap.size w w' := by
  go_enter Try.func53, Try.ntmps53
  go_wp2_with fail
  refine (copyList_empty _ _ _).mono ?_
  rintro e w' ⟨rfl, rfl⟩
  go_wp2_with fail
  refine (copyFields_empty _ _ _).mono ?_
  rintro e w' ⟨rfl, rfl⟩
  go_wp2
  have hb : Below w.heap.size w ((w.alloc (.cells #[.int .i64 k, .int .i64 n, sV s, .slice none 0 0, .slice none 0 0] 25)).alloc (.cells #[.int .i64 k, .int .i64 n, sV s, .slice none 0 0, .slice none 0 0] 25)) := ((Below.refl _ _).alloc (Nat.le_refl _) _).alloc (by simp) _
  have oR : Own ((w.alloc (.cells #[.int .i64 k, .int .i64 n, sV s, .slice none 0 0, .slice none 0 0] 25)).alloc (.cells #[.int .i64 k, .int .i64 n, sV s, .slice none 0 0, .slice none 0 0] 25)) (w.heap.size + 1) [.int .i64 k, .int .i64 n, sV s, .slice none 0 0, .slice none 0 0] 25 := Own.new_at (by rw [size_alloc]) _ _
  change bodyPost Try.prog Try.f53 _ _ _ ((w.alloc (.cells #[.int .i64 k, .int .i64 n, sV s, .slice none 0 0, .slice none 0 0] 25)).alloc (.cells #[.int .i64 k, .int .i64 n, sV s, .slice none 0 0, .slice none 0 0] 25))
  generalize (w.alloc (.cells #[.int .i64 k, .int .i64 n, sV s, .slice none 0 0, .slice none 0 0] 25)).alloc (.cells #[.int .i64 k, .int .i64 n, sV s, .slice none 0 0, .slice none 0 0] 25) = U at *
  have c0 : U.cell? ⟨w.heap.size + 1, 0, none⟩ = some (.int .i64 k) := oR.cell rfl
  have c1 : U.cell? ⟨w.heap.size + 1, 1, none⟩ = some (.int .i64 n) := oR.cell rfl
  have c2 : U.cell? ⟨w.heap.size + 1, 2, none⟩ = some (sV s) := oR.cell rfl
  have c3 : U.cell? ⟨w.heap.size + 1, 3, none⟩ = some (.slice none 0 0) := oR.cell rfl
  have c4 : U.cell? ⟨w.heap.size + 1, 4, none⟩ = some (.slice none 0 0) := oR.cell rfl
  exact bodyPost_ret (v := .agg #[.int .i64 k, .int .i64 n, sV s, .slice none 0 0, .slice none 0 0]) (by simp [results, Try.results53, go_sem, c0, c1, c2, c3, c4]) rfl ⟨rfl, hb⟩
end Go.Proofs.Ytinenbgdkchghaa
namespace Go.Proofs.Ytinenbgdkchghaa
open Go.RowKit Go.Sort Go.Proofs.LawFrame

/-- a field without list and fields -/
def FC.bare (c : FC) : FC := ⟨c.x, ⟨c.v.k, c.v.n, c.v.s, none, 0, 0, none, 0, 0⟩⟩

set_option maxHeartbeats 2000000 in
theorem copyFields_leaf (ao : Option Addr) (cap : Nat) (cs : List FC) (w : World) (hv : Flat w (.slice ao cs.length cap) cs.length (cs.flatMap FC.cells)) (hleaf : ∀ c ∈ cs, c.v.ln = 0 ∧ c.v.fn = 0) (hn : cs.length ≤ 1000) (hp : 0 < cs.length) :
    Calls Try.prog 59 #[.slice ao cs.length cap] w fun e w' => ∃ b, e = .returned (.slice (some ⟨b, 0, none⟩) cs.length cs.length) ∧ w.heap.size ≤ b ∧ Own w' b ((cs.map FC.bare).flatMap FC.cells) 33 ∧ Below w.heap.size w w' := by
  obtain ⟨ao', cap', he, hlc, hlm, hr⟩ := hv.out
  cases he
  obtain ⟨b, off, rfl, hbl, hcell⟩ := hr hp
  unfold maxLen at hlm
  have hz : ((cs.length : Int) == 0) = false := by rw [beq_eq_false_iff_ne]; omega
  obtain ⟨i0, hi0, hz0, hs0, hb0⟩ := info_parts info35
  have hmk : ∀ w : World, (Instr.makeSlice 23 (.int .i64 (cs.length : Int)) (.int .i64 (cs.length : Int))).run Try.prog w = .ok (.slice (some ⟨w.heap.size, 0, none⟩) cs.length cs.length) (w.alloc (.cells ((List.replicate cs.length FC0).flatMap FC.cells).toArray 33)) := fun w => by
    have := run_make (P := Try.prog) w 23 33 i0 _ Try.underlying23 hi0 hz0 .i64 .i64 (cs.length : Int) (cs.length : Int) (by omega) (Int.le_refl _) (by rw [hb0]; omega) (by omega)
    rw [this, hs0]
    have e := made_row FC.cells (m := 6) (fun _ => rfl) FC0 (Value.cells (.agg #[.string ⟨#[]⟩, .int .i64 0, .int .i64 0, .string ⟨#[]⟩, .slice none 0 0, .slice none 0 0])) rfl cs.length
    simp only [Int.toNat_natCast]
    rw [← e]
  go_enter Try.func59, Try.ntmps59
  go_wp2
  have o0 : Own (w.alloc (.cells ((List.replicate cs.length FC0).flatMap FC.cells).toArray 33)) w.heap.size ((List.replicate cs.length FC0).flatMap FC.cells) 33 := Own.new _ _ _
  have hw0 : Below w.heap.size w (w.alloc (.cells ((List.replicate cs.length FC0).flatMap FC.cells).toArray 33)) := (Below.refl _ _).alloc (Nat.le_refl _) _
  generalize w.alloc (.cells ((List.replicate cs.length FC0).flatMap FC.cells).toArray 33) = W at *
  have R0 := Lib.hid (And.intro hw0 o0)
  clear hw0 o0 hmk
  go_loopg [14] cs.length (fun g i wr => ∃ (k : Nat) (ds : List FC), k ≤ cs.length ∧ g = cs.length - k ∧ i = .int .i64 k ∧ ds.length = cs.length ∧ Below w.heap.size w wr ∧ Own wr w.heap.size (ds.flatMap FC.cells) 33 ∧ Hid (ds.take k = (cs.map FC.bare).take k))
  case atStart =>
    obtain ⟨hw0, o0⟩ := R0.out
    exact ⟨0, List.replicate cs.length FC0, Nat.zero_le _, rfl, rfl, by simp, hw0, o0, Lib.hid (by simp)⟩
  case round =>
    obtain ⟨k, ds, hk, hg, rfl, hds, hb, o0, HA⟩ := hrel
    have HG := Lib.hid hg
    clear hg R0
    by_cases hlt : k < cs.length
    · have hx := List.getElem?_eq_getElem hlt
      generalize cs[k] = c at hx
      have hc : ∀ j x, c.cells[j]? = some x → wr.cell? ⟨b, off + k * 6 + j, none⟩ = some x := fun j x hxj => by
        have hj : j < 6 := (List.getElem?_eq_some_iff.1 hxj).1
        rw [hb.cell (p := ⟨b, off + k * 6 + j, none⟩) hbl, Nat.add_assoc]
        exact hcell (k * 6 + j) x (by rw [flat_get FC.cells (m := 6) (fun _ => rfl) cs k j c hx hj]; exact hxj)
      have q : wr.cell? ⟨b, off + k * 6, none⟩ = some (sV c.x) := hc 0 _ rfl
      have q0 : wr.cell? ⟨b, off + k * 6 + 1, none⟩ = some (.int .i64 c.v.k) := hc 1 _ rfl
      have q1 : wr.cell? ⟨b, off + k * 6 + 2, none⟩ = some (.int .i64 c.v.n) := hc 2 _ rfl
      have q2 : wr.cell? ⟨b, off + k * 6 + 3, none⟩ = some (sV c.v.s) := hc 3 _ rfl
      have q3 : wr.cell? ⟨b, off + k * 6 + 4, none⟩ = some (.slice c.v.la c.v.ln c.v.lc) := hc 4 _ rfl
      have q4 : wr.cell? ⟨b, off + k * 6 + 5, none⟩ = some (.slice c.v.fa c.v.fn c.v.fc) := hc 5 _ rfl
      obtain ⟨hln, hfn⟩ := hleaf c (List.mem_of_getElem? hx)
      rw [hln] at q3
      rw [hfn] at q4
      have HX := Lib.hid hx
      clear hc hx hln hfn
      have hbb := hb.alloc hb.size (.cells #[sV c.x, .int .i64 c.v.k, .int .i64 c.v.n, sV c.v.s, .slice c.v.la 0 c.v.lc, .slice c.v.fa 0 c.v.fc] 33)
      have oo := o0.alloc (.cells #[sV c.x, .int .i64 c.v.k, .int .i64 c.v.n, sV c.v.s, .slice c.v.la 0 c.v.lc, .slice c.v.fa 0 c.v.fc] 33)
      have oN : Own (wr.alloc (.cells #[sV c.x, .int .i64 c.v.k, .int .i64 c.v.n, sV c.v.s, .slice c.v.la 0 c.v.lc, .slice c.v.fa 0 c.v.fc] 33)) wr.heap.size [sV c.x, .int .i64 c.v.k, .int .i64 c.v.n, sV c.v.s, .slice c.v.la 0 c.v.lc, .slice c.v.fa 0 c.v.fc] 33 := Own.new _ _ _
      go_wp2
      clear q q0 q1 q2 q3 q4 hb o0
      have hwl := oN.lt
      change Code.wp Try.prog _ _ _ (wr.alloc (.cells #[sV c.x, .int .i64 c.v.k, .int .i64 c.v.n, sV c.v.s, .slice c.v.la 0 c.v.lc, .slice c.v.fa 0 c.v.fc] 33))
      generalize wr.alloc (.cells #[sV c.x, .int .i64 c.v.k, .int .i64 c.v.n, sV c.v.s, .slice c.v.la 0 c.v.lc, .slice c.v.fa 0 c.v.fc] 33) = V at *
      have z0 := cell_regrown (oN.cell (i := 0) rfl)
      have z1 := cell_regrown (oN.cell (i := 1) rfl)
      have z2 := cell_regrown (oN.cell (i := 2) rfl)
      have z3 := cell_regrown (oN.cell (i := 3) rfl)
      have z4 := cell_regrown (oN.cell (i := 4) rfl)
      have z5 := cell_regrown (oN.cell (i := 5) rfl)
      have cC : ∀ dd os, Calls Try.prog 53 #[.agg #[.int .i64 c.v.k, .int .i64 c.v.n, sV c.v.s, .slice c.v.la 0 c.v.lc, .slice c.v.fa 0 c.v.fc]] (grow (redrawn V dd) os) fun e w'' => e = .returned (.agg #[.int .i64 c.v.k, .int .i64 c.v.n, sV c.v.s, .slice none 0 0, .slice none 0 0]) ∧ ∃ p : Regrown, w'' = grow (redrawn V p.d) p.os := fun dd os => Calls.regrown_of (copyValue_leaf _ _ _ _ _ _ _ _)
      refine wp_region_tail_below 9 (by kernel_rfl) (by kernel_rfl) ?_
      simp only [List.take_succ_cons, List.take_zero, List.drop_succ_cons, List.drop_zero]
      repeat (first | go_big_quiet_step ((with_reducible exact cC _ _)) | quiet_step (with_reducible exact cC _ _))
      refine wpQuiet_nil ?_
      intro _ hw'
      obtain ⟨⟨dq, osq⟩, hw''⟩ := hw'
      subst hw''
      have hbe := below_all hbb (below_regrown V dq osq)
      have o2 := oo.all (below_regrown V dq osq)
      clear z0 z1 z2 z3 z4 z5 cC oN hbb oo
      generalize grow (redrawn V dq) osq = U at *
      obtain ⟨y0, e0⟩ : ∃ z, U.cell? ⟨w.heap.size, k * 6, none⟩ = some z := ⟨_, o2.cell (List.getElem?_eq_getElem (by rw [flat_length FC.cells (m := 6) (fun _ => rfl), hds]; omega))⟩
      have f0 := o2.frozen (k * 6)
      obtain ⟨y1, e1⟩ : ∃ z, U.cell? ⟨w.heap.size, k * 6 + 1, none⟩ = some z := ⟨_, o2.cell (List.getElem?_eq_getElem (by rw [flat_length FC.cells (m := 6) (fun _ => rfl), hds]; omega))⟩
      have f1 := o2.frozen (k * 6 + 1)
      obtain ⟨y2, e2⟩ : ∃ z, U.cell? ⟨w.heap.size, k * 6 + 2, none⟩ = some z := ⟨_, o2.cell (List.getElem?_eq_getElem (by rw [flat_length FC.cells (m := 6) (fun _ => rfl), hds]; omega))⟩
      have f2 := o2.frozen (k * 6 + 2)
      obtain ⟨y3, e3⟩ : ∃ z, U.cell? ⟨w.heap.size, k * 6 + 3, none⟩ = some z := ⟨_, o2.cell (List.getElem?_eq_getElem (by rw [flat_length FC.cells (m := 6) (fun _ => rfl), hds]; omega))⟩
      have f3 := o2.frozen (k * 6 + 3)
      obtain ⟨y4, e4⟩ : ∃ z, U.cell? ⟨w.heap.size, k * 6 + 4, none⟩ = some z := ⟨_, o2.cell (List.getElem?_eq_getElem (by rw [flat_length FC.cells (m := 6) (fun _ => rfl), hds]; omega))⟩
      have f4 := o2.frozen (k * 6 + 4)
      obtain ⟨y5, e5⟩ : ∃ z, U.cell? ⟨w.heap.size, k * 6 + 5, none⟩ = some z := ⟨_, o2.cell (List.getElem?_eq_getElem (by rw [flat_length FC.cells (m := 6) (fun _ => rfl), hds]; omega))⟩
      have f5 := o2.frozen (k * 6 + 5)
      have HO := Lib.hid (And.intro hbe o2)
      clear hbe o2
      go_wp2
      have os := Own.setF HO.out.2 (k := k) (by omega) c.bare
      go_roundg (cs.length - (k + 1))
      case measure => have := HG.out; omega
      case rel =>
        refine ⟨k + 1, ds.set k c.bare, by omega, rfl, by go_num, by rw [List.length_set]; exact hds, ?_, os, Lib.hid ?_⟩
        · exact below_set (below_set (below_set (below_set (below_set (below_set HO.out.1 (Nat.le_refl _) _) (Nat.le_refl _) _) (Nat.le_refl _) _) (Nat.le_refl _) _) (Nat.le_refl _) _) (Nat.le_refl _) _
        · rw [take_snoc (c := c.bare) (by rw [List.getElem?_set_self (by omega)]), take_snoc (l := cs.map FC.bare) (c := c.bare) (by rw [List.getElem?_map, HX.out]; rfl), List.take_set_of_le (Nat.le_refl _), HA.out]
    · obtain rfl : k = cs.length := by omega
      have HD : Hid (ds = cs.map FC.bare) := Lib.hid (by have := HA.out; rw [← hds, List.take_length, hds, List.take_of_length_le (by simp)] at this; exact this)
      go_wp2
      go_ret
      exact ⟨w.heap.size, rfl, Nat.le_refl _, by rw [← HD.out]; exact o0, hb⟩
end Go.Proofs.Ytinenbgdkchghaa
namespace Go.Proofs.Ytinenbgdkchghaa
open Go.RowKit Go.Sort Go.Proofs.LawFrame

def keepB (l : List FC) (k : Nat) : Bool := decide (k + 1 = l.length) || !((l.getD (k + 1) FC0).x == (l.getD k FC0).x)
def keepTo (l : List FC) : Nat → List FC
  | 0 => []
  | k + 1 => if keepB l k then keepTo l k ++ [l.getD k FC0] else keepTo l k
theorem keepTo_mem {l : List FC} : ∀ {k : Nat}, k ≤ l.length → ∀ c ∈ keepTo l k, c ∈ l := by
  intro k
  induction k with
  | zero => intro _ c h; simp [keepTo] at h
  | succ k ih =>
    intro hk c h
    rw [keepTo] at h
    split at h
    · rw [List.mem_append] at h
      rcases h with h | h
      · exact ih (by omega) c h
      · rw [List.mem_singleton] at h; subst h
        rw [List.getD_eq_getElem?_getD, List.getElem?_eq_getElem (by omega)]
        exact List.getElem_mem _
    · exact ih (by omega) c h
theorem keepTo_len (l : List FC) (k : Nat) : (keepTo l k).length ≤ k := by
  induction k with
  | zero => simp [keepTo]
  | succ k ih =>
    rw [keepTo]; split
    · rw [List.length_append]; simp; exact ih
    · omega
theorem Own.but {w w' : World} {b b' : Nat} {cs : List Value} {t : TypeId} (h : Own w b' cs t) (hb : But b w w') (hne : b' ≠ b) : Own w' b' cs t := by
  show w'.heap[b']? = _
  rw [hb.block b' h.lt hne]; exact h
theorem flatMap_snoc (l : List FC) (c : FC) : (l ++ [c]).flatMap FC.cells = l.flatMap FC.cells ++ FC.cells c := by simp
theorem cell_six_new (w : World) (c : FC) (t : TypeId) : ∀ j u, (FC.cells c)[j]? = some u → (w.alloc (.cells #[sV c.x, .int .i64 c.v.k, .int .i64 c.v.n, sV c.v.s, .slice c.v.la c.v.ln c.v.lc, .slice c.v.fa c.v.fn c.v.fc] t)).cell? ((⟨w.heap.size, 0, none⟩ : Addr).add j) = some u := by
  intro j u h
  have o := Own.new w (FC.cells c) t
  have := o.cell h
  rw [Addr.add_lit, Nat.zero_add]
  exact this
theorem six_one (c : FC) : ∀ v ∈ FC.cells c, v.oneCell' = true := by
  intro v hv; simp at hv; rcases hv with rfl | rfl | rfl | rfl | rfl | rfl <;> rfl

end Go.Proofs.Ytinenbgdkchghaa
