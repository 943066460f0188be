/- Contracts of the stable sort at few fields, and of the copies of leaves. The contract of copyFields at fields whose values are leaves. The contract of Map at few fields whose values are leaves. -/
import Derived.Test.YtjpmnlefjmdelaaGreatDoorWmJ
set_option linter.unusedSimpArgs false
set_option linter.unusedVariables false
namespace Go.Proofs.YtjpmnlefjmdelaaGreatDoor
open Go.RowKit Go.Sort Go.Proofs.LawFrame

set_option maxHeartbeats 2000000 in
theorem stable_small (b cap : Nat) (rest : List Value) (l0 : List FC) (w : World) (ho : Own w b (l0.flatMap FC.cells ++ rest) 58) (hn : l0.length < 20) (hcap : l0.length ≤ cap) (hcm : cap ≤ maxLen) :
    Calls Tryz.prog 200 #[.slice (some ⟨b, 0, none⟩) l0.length cap, .int .i64 (l0.length : Int), .func (.func 183) #[] #[]] w fun en w' => en = .returned (.tuple #[]) ∧ But b w w' ∧ Own w' b ((isort 0 1 (l0.length - 1) l0).flatMap FC.cells ++ rest) 58 ∧ (isort 0 1 (l0.length - 1) l0).length = l0.length := by
  have C := Lib.hid (insertion_any b cap 0 l0.length rest l0 w ho (by omega) (by omega) (Nat.le_refl _) hcap hcm)
  generalize hN : l0.length = n at *
  clear ho
  go_enter Tryz.func200, Tryz.ntmps200
  go_wp2
  refine wp_loop_rounds 1 ?_
  rw [rounds_succ]
  go_wp2_with fail
  refine C.out.mono ?_
  rintro e w1 ⟨rfl, h1, h2, h3⟩
  have HH := Lib.hid (And.intro h1 (And.intro h2 h3))
  clear h1 h2 h3
  go_wp2
  refine wp_loop_rounds 1 ?_
  rw [rounds_succ]
  go_wp2
  go_end0
  exact ⟨rfl, HH.out⟩

set_option maxHeartbeats 400000 in
theorem sort_small (b cap : Nat) (rest : List Value) (l0 : List FC) (w : World) (ho : Own w b (l0.flatMap FC.cells ++ rest) 58) (hn : l0.length < 20) (hcap : l0.length ≤ cap) (hcm : cap ≤ maxLen) :
    Calls Tryz.prog 182 #[.slice (some ⟨b, 0, none⟩) l0.length cap, .func (.func 183) #[] #[]] w fun en w' => en = .returned (.tuple #[]) ∧ But b w w' ∧ Own w' b ((isort 0 1 (l0.length - 1) l0).flatMap FC.cells ++ rest) 58 ∧ (isort 0 1 (l0.length - 1) l0).length = l0.length := by
  have C := Lib.hid (stable_small b cap rest l0 w ho hn hcap hcm)
  clear ho
  go_enter Tryz.func182, Tryz.ntmps182
  go_wp2_with fail
  refine C.out.mono ?_
  rintro e w1 ⟨rfl, h1⟩
  have HH := Lib.hid h1
  clear h1
  go_wp2
  go_end0
  exact ⟨rfl, HH.out⟩

set_option maxHeartbeats 400000 in
theorem copyList_empty (ao : Option Addr) (cap : Nat) (w : World) : Calls Tryz.prog 154 #[.slice ao 0 cap] w fun e w' => e = .returned (.slice none 0 0) ∧ w = w' := by
  go_enter Tryz.func154, Tryz.ntmps154
  go_wp2
  go_ret
  exact ⟨rfl, rfl⟩
set_option maxHeartbeats 400000 in
theorem copyFields_empty (ao : Option Addr) (cap : Nat) (w : World) : Calls Tryz.prog 185 #[.slice ao 0 cap] w fun e w' => e = .returned (.slice none 0 0) ∧ w = w' := by
  go_enter Tryz.func185, Tryz.ntmps185
  go_wp2
  go_ret
  exact ⟨rfl, rfl⟩
set_option maxHeartbeats 1000000 in
theorem copyValue_leaf (k n : Int) (s : Str) (la fa : Option Addr) (lc fc : Nat) (w : World) :
    Calls Tryz.prog 180 #[.agg #[.int .i64 k, .int .i64 n, sV s, .slice la 0 lc, .slice fa 0 fc]] w fun e w' => e = .returned (.agg #[.int .i64 k, .int .i64 n, sV s, .slice none 0 0, .slice none 0 0]) ∧ Below w.heap.size w w' := by
  go_enter Tryz.func180, Tryz.ntmps180
  go_wp2_with fail
  refine (copyList_empty _ _ _).mono ?_
  rintro e w' ⟨rfl, rfl⟩
  go_wp2_with fail
  refine (copyFields_empty _ _ _).mono ?_
  rintro e w' ⟨rfl, rfl⟩
  go_wp2
  have hb : Below w.heap.size w ((w.alloc (.cells #[.int .i64 k, .int .i64 n, sV s, .slice none 0 0, .slice none 0 0] 25)).alloc (.cells #[.int .i64 k, .int .i64 n, sV s, .slice none 0 0, .slice none 0 0] 25)) := ((Below.refl _ _).alloc (Nat.le_refl _) _).alloc (by simp) _
  have oR : Own ((w.alloc (.cells #[.int .i64 k, .int .i64 n, sV s, .slice none 0 0, .slice none 0 0] 25)).alloc (.cells #[.int .i64 k, .int .i64 n, sV s, .slice none 0 0, .slice none 0 0] 25)) (w.heap.size + 1) [.int .i64 k, .int .i64 n, sV s, .slice none 0 0, .slice none 0 0] 25 := Own.new_at (by rw [size_alloc]) _ _
  change bodyPost Tryz.prog Tryz.f180 _ _ _ ((w.alloc (.cells #[.int .i64 k, .int .i64 n, sV s, .slice none 0 0, .slice none 0 0] 25)).alloc (.cells #[.int .i64 k, .int .i64 n, sV s, .slice none 0 0, .slice none 0 0] 25))
  generalize (w.alloc (.cells #[.int .i64 k, .int .i64 n, sV s, .slice none 0 0, .slice none 0 0] 25)).alloc (.cells #[.int .i64 k, .int .i64 n, sV s, .slice none 0 0, .slice none 0 0] 25) = U at *
  have c0 : U.cell? ⟨w.heap.size + 1, 0, none⟩ = some (.int .i64 k) := oR.cell rfl
  have c1 : U.cell? ⟨w.heap.size + 1, 1, none⟩ = some (.int .i64 n) := oR.cell rfl
  have c2 : U.cell? ⟨w.heap.size + 1, 2, none⟩ = some (sV s) := oR.cell rfl
  have c3 : U.cell? ⟨w.heap.size + 1, 3, none⟩ = some (.slice none 0 0) := oR.cell rfl
  have c4 : U.cell? ⟨w.heap.size + 1, 4, none⟩ = some (.slice none 0 0) := oR.cell rfl
  exact bodyPost_ret (v := .agg #[.int .i64 k, .int .i64 n, sV s, .slice none 0 0, .slice none 0 0]) (by simp [results, Tryz.results180, go_sem, c0, c1, c2, c3, c4]) rfl ⟨rfl, hb⟩
end Go.Proofs.YtjpmnlefjmdelaaGreatDoor
namespace Go.Proofs.YtjpmnlefjmdelaaGreatDoor
open Go.RowKit Go.Sort Go.Proofs.LawFrame

/-- a field without list and fields -/
def FC.bare (c : FC) : FC := ⟨c.x, ⟨c.v.k, c.v.n, c.v.s, none, 0, 0, none, 0, 0⟩⟩

set_option maxHeartbeats 2000000 in
theorem copyFields_leaf (ao : Option Addr) (cap : Nat) (cs : List FC) (w : World) (hv : Flat w (.slice ao cs.length cap) cs.length (cs.flatMap FC.cells)) (hleaf : ∀ c ∈ cs, c.v.ln = 0 ∧ c.v.fn = 0) (hn : cs.length ≤ 1000) (hp : 0 < cs.length) :
    Calls Tryz.prog 185 #[.slice ao cs.length cap] w fun e w' => ∃ b, e = .returned (.slice (some ⟨b, 0, none⟩) cs.length cs.length) ∧ w.heap.size ≤ b ∧ Own w' b ((cs.map FC.bare).flatMap FC.cells) 58 ∧ Below w.heap.size w w' := by
  obtain ⟨ao', cap', he, hlc, hlm, hr⟩ := hv.out
  cases he
  obtain ⟨b, off, rfl, hbl, hcell⟩ := hr hp
  unfold maxLen at hlm
  have hz : ((cs.length : Int) == 0) = false := by rw [beq_eq_false_iff_ne]; omega
  obtain ⟨i0, hi0, hz0, hs0, hb0⟩ := info_parts info35
  have hmk : ∀ w : World, (Instr.makeSlice 23 (.int .i64 (cs.length : Int)) (.int .i64 (cs.length : Int))).run Tryz.prog w = .ok (.slice (some ⟨w.heap.size, 0, none⟩) cs.length cs.length) (w.alloc (.cells ((List.replicate cs.length FC0).flatMap FC.cells).toArray 58)) := fun w => by
    have := run_make (P := Tryz.prog) w 23 58 i0 _ Tryz.underlying23 hi0 hz0 .i64 .i64 (cs.length : Int) (cs.length : Int) (by omega) (Int.le_refl _) (by rw [hb0]; omega) (by omega)
    rw [this, hs0]
    have e := made_row FC.cells (m := 6) (fun _ => rfl) FC0 (Value.cells (.agg #[.string ⟨#[]⟩, .int .i64 0, .int .i64 0, .string ⟨#[]⟩, .slice none 0 0, .slice none 0 0])) rfl cs.length
    simp only [Int.toNat_natCast]
    rw [← e]
  go_enter Tryz.func185, Tryz.ntmps185
  go_wp2
  have o0 : Own (w.alloc (.cells ((List.replicate cs.length FC0).flatMap FC.cells).toArray 58)) w.heap.size ((List.replicate cs.length FC0).flatMap FC.cells) 58 := Own.new _ _ _
  have hw0 : Below w.heap.size w (w.alloc (.cells ((List.replicate cs.length FC0).flatMap FC.cells).toArray 58)) := (Below.refl _ _).alloc (Nat.le_refl _) _
  generalize w.alloc (.cells ((List.replicate cs.length FC0).flatMap FC.cells).toArray 58) = W at *
  have R0 := Lib.hid (And.intro hw0 o0)
  clear hw0 o0 hmk
  go_loopg [14] cs.length (fun g i wr => ∃ (k : Nat) (ds : List FC), k ≤ cs.length ∧ g = cs.length - k ∧ i = .int .i64 k ∧ ds.length = cs.length ∧ Below w.heap.size w wr ∧ Own wr w.heap.size (ds.flatMap FC.cells) 58 ∧ Hid (ds.take k = (cs.map FC.bare).take k))
  case atStart =>
    obtain ⟨hw0, o0⟩ := R0.out
    exact ⟨0, List.replicate cs.length FC0, Nat.zero_le _, rfl, rfl, by simp, hw0, o0, Lib.hid (by simp)⟩
  case round =>
    obtain ⟨k, ds, hk, hg, rfl, hds, hb, o0, HA⟩ := hrel
    have HG := Lib.hid hg
    clear hg R0
    by_cases hlt : k < cs.length
    · have hx := List.getElem?_eq_getElem hlt
      generalize cs[k] = c at hx
      have hc : ∀ j x, c.cells[j]? = some x → wr.cell? ⟨b, off + k * 6 + j, none⟩ = some x := fun j x hxj => by
        have hj : j < 6 := (List.getElem?_eq_some_iff.1 hxj).1
        rw [hb.cell (p := ⟨b, off + k * 6 + j, none⟩) hbl, Nat.add_assoc]
        exact hcell (k * 6 + j) x (by rw [flat_get FC.cells (m := 6) (fun _ => rfl) cs k j c hx hj]; exact hxj)
      have q : wr.cell? ⟨b, off + k * 6, none⟩ = some (sV c.x) := hc 0 _ rfl
      have q0 : wr.cell? ⟨b, off + k * 6 + 1, none⟩ = some (.int .i64 c.v.k) := hc 1 _ rfl
      have q1 : wr.cell? ⟨b, off + k * 6 + 2, none⟩ = some (.int .i64 c.v.n) := hc 2 _ rfl
      have q2 : wr.cell? ⟨b, off + k * 6 + 3, none⟩ = some (sV c.v.s) := hc 3 _ rfl
      have q3 : wr.cell? ⟨b, off + k * 6 + 4, none⟩ = some (.slice c.v.la c.v.ln c.v.lc) := hc 4 _ rfl
      have q4 : wr.cell? ⟨b, off + k * 6 + 5, none⟩ = some (.slice c.v.fa c.v.fn c.v.fc) := hc 5 _ rfl
      obtain ⟨hln, hfn⟩ := hleaf c (List.mem_of_getElem? hx)
      rw [hln] at q3
      rw [hfn] at q4
      have HX := Lib.hid hx
      clear hc hx hln hfn
      have hbb := hb.alloc hb.size (.cells #[sV c.x, .int .i64 c.v.k, .int .i64 c.v.n, sV c.v.s, .slice c.v.la 0 c.v.lc, .slice c.v.fa 0 c.v.fc] 58)
      have oo := o0.alloc (.cells #[sV c.x, .int .i64 c.v.k, .int .i64 c.v.n, sV c.v.s, .slice c.v.la 0 c.v.lc, .slice c.v.fa 0 c.v.fc] 58)
      have oN : Own (wr.alloc (.cells #[sV c.x, .int .i64 c.v.k, .int .i64 c.v.n, sV c.v.s, .slice c.v.la 0 c.v.lc, .slice c.v.fa 0 c.v.fc] 58)) wr.heap.size [sV c.x, .int .i64 c.v.k, .int .i64 c.v.n, sV c.v.s, .slice c.v.la 0 c.v.lc, .slice c.v.fa 0 c.v.fc] 58 := Own.new _ _ _
      go_wp2
      clear q q0 q1 q2 q3 q4 hb o0
      have hwl := oN.lt
      change Code.wp Tryz.prog _ _ _ (wr.alloc (.cells #[sV c.x, .int .i64 c.v.k, .int .i64 c.v.n, sV c.v.s, .slice c.v.la 0 c.v.lc, .slice c.v.fa 0 c.v.fc] 58))
      generalize wr.alloc (.cells #[sV c.x, .int .i64 c.v.k, .int .i64 c.v.n, sV c.v.s, .slice c.v.la 0 c.v.lc, .slice c.v.fa 0 c.v.fc] 58) = V at *
      have z0 := cell_regrown (oN.cell (i := 0) rfl)
      have z1 := cell_regrown (oN.cell (i := 1) rfl)
      have z2 := cell_regrown (oN.cell (i := 2) rfl)
      have z3 := cell_regrown (oN.cell (i := 3) rfl)
      have z4 := cell_regrown (oN.cell (i := 4) rfl)
      have z5 := cell_regrown (oN.cell (i := 5) rfl)
      have cC : ∀ dd os, Calls Tryz.prog 180 #[.agg #[.int .i64 c.v.k, .int .i64 c.v.n, sV c.v.s, .slice c.v.la 0 c.v.lc, .slice c.v.fa 0 c.v.fc]] (grow (redrawn V dd) os) fun e w'' => e = .returned (.agg #[.int .i64 c.v.k, .int .i64 c.v.n, sV c.v.s, .slice none 0 0, .slice none 0 0]) ∧ ∃ p : Regrown, w'' = grow (redrawn V p.d) p.os := fun dd os => Calls.regrown_of (copyValue_leaf _ _ _ _ _ _ _ _)
      refine wp_region_tail_below 9 (by kernel_rfl) (by kernel_rfl) ?_
      simp only [List.take_succ_cons, List.take_zero, List.drop_succ_cons, List.drop_zero]
      repeat (first | go_big_quiet_step ((with_reducible exact cC _ _)) | quiet_step (with_reducible exact cC _ _))
      refine wpQuiet_nil ?_
      intro _ hw'
      obtain ⟨⟨dq, osq⟩, hw''⟩ := hw'
      subst hw''
      have hbe := below_all hbb (below_regrown V dq osq)
      have o2 := oo.all (below_regrown V dq osq)
      clear z0 z1 z2 z3 z4 z5 cC oN hbb oo
      generalize grow (redrawn V dq) osq = U at *
      obtain ⟨y0, e0⟩ : ∃ z, U.cell? ⟨w.heap.size, k * 6, none⟩ = some z := ⟨_, o2.cell (List.getElem?_eq_getElem (by rw [flat_length FC.cells (m := 6) (fun _ => rfl), hds]; omega))⟩
      have f0 := o2.frozen (k * 6)
      obtain ⟨y1, e1⟩ : ∃ z, U.cell? ⟨w.heap.size, k * 6 + 1, none⟩ = some z := ⟨_, o2.cell (List.getElem?_eq_getElem (by rw [flat_length FC.cells (m := 6) (fun _ => rfl), hds]; omega))⟩
      have f1 := o2.frozen (k * 6 + 1)
      obtain ⟨y2, e2⟩ : ∃ z, U.cell? ⟨w.heap.size, k * 6 + 2, none⟩ = some z := ⟨_, o2.cell (List.getElem?_eq_getElem (by rw [flat_length FC.cells (m := 6) (fun _ => rfl), hds]; omega))⟩
      have f2 := o2.frozen (k * 6 + 2)
      obtain ⟨y3, e3⟩ : ∃ z, U.cell? ⟨w.heap.size, k * 6 + 3, none⟩ = some z := ⟨_, o2.cell (List.getElem?_eq_getElem (by rw [flat_length FC.cells (m := 6) (fun _ => rfl), hds]; omega))⟩
      have f3 := o2.frozen (k * 6 + 3)
      obtain ⟨y4, e4⟩ : ∃ z, U.cell? ⟨w.heap.size, k * 6 + 4, none⟩ = some z := ⟨_, o2.cell (List.getElem?_eq_getElem (by rw [flat_length FC.cells (m := 6) (fun _ => rfl), hds]; omega))⟩
      have f4 := o2.frozen (k * 6 + 4)
      obtain ⟨y5, e5⟩ : ∃ z, U.cell? ⟨w.heap.size, k * 6 + 5, none⟩ = some z := ⟨_, o2.cell (List.getElem?_eq_getElem (by rw [flat_length FC.cells (m := 6) (fun _ => rfl), hds]; omega))⟩
      have f5 := o2.frozen (k * 6 + 5)
      have HO := Lib.hid (And.intro hbe o2)
      clear hbe o2
      go_wp2
      have os := Own.setF HO.out.2 (k := k) (by omega) c.bare
      go_roundg (cs.length - (k + 1))
      case measure => have := HG.out; omega
      case rel =>
        refine ⟨k + 1, ds.set k c.bare, by omega, rfl, by go_num, by rw [List.length_set]; exact hds, ?_, os, Lib.hid ?_⟩
        · exact below_set (below_set (below_set (below_set (below_set (below_set HO.out.1 (Nat.le_refl _) _) (Nat.le_refl _) _) (Nat.le_refl _) _) (Nat.le_refl _) _) (Nat.le_refl _) _) (Nat.le_refl _) _
        · rw [take_snoc (c := c.bare) (by rw [List.getElem?_set_self (by omega)]), take_snoc (l := cs.map FC.bare) (c := c.bare) (by rw [List.getElem?_map, HX.out]; rfl), List.take_set_of_le (Nat.le_refl _), HA.out]
    · obtain rfl : k = cs.length := by omega
      have HD : Hid (ds = cs.map FC.bare) := Lib.hid (by have := HA.out; rw [← hds, List.take_length, hds, List.take_of_length_le (by simp)] at this; exact this)
      go_wp2
      go_ret
      exact ⟨w.heap.size, rfl, Nat.le_refl _, by rw [← HD.out]; exact o0, hb⟩
end Go.Proofs.YtjpmnlefjmdelaaGreatDoor
namespace Go.Proofs.YtjpmnlefjmdelaaGreatDoor
open Go.RowKit Go.Sort Go.Proofs.LawFrame

def keepB (l : List FC) (k : Nat) : Bool := decide (k + 1 = l.length) || !((l.getD (k + 1) FC0).x == (l.getD k FC0).x)
def keepTo (l : List FC) : Nat → List FC
  | 0 => []
  | k + 1 => if keepB l k then keepTo l k ++ [l.getD k FC0] else keepTo l k
theorem keepTo_mem {l : List FC} : ∀ {k : Nat}, k ≤ l.length → ∀ c ∈ keepTo l k, c ∈ l := by
  intro k
  induction k with
  | zero => intro _ c h; simp [keepTo] at h
  | succ k ih =>
    intro hk c h
    rw [keepTo] at h
    split at h
    · rw [List.mem_append] at h
      rcases h with h | h
      · exact ih (by omega) c h
      · rw [List.mem_singleton] at h; subst h
        rw [List.getD_eq_getElem?_getD, List.getElem?_eq_getElem (by omega)]
        exact List.getElem_mem _
    · exact ih (by omega) c h
theorem keepTo_len (l : List FC) (k : Nat) : (keepTo l k).length ≤ k := by
  induction k with
  | zero => simp [keepTo]
  | succ k ih =>
    rw [keepTo]; split
    · rw [List.length_append]; simp; exact ih
    · omega
theorem Own.but {w w' : World} {b b' : Nat} {cs : List Value} {t : TypeId} (h : Own w b' cs t) (hb : But b w w') (hne : b' ≠ b) : Own w' b' cs t := by
  show w'.heap[b']? = _
  rw [hb.block b' h.lt hne]; exact h
theorem flatMap_snoc (l : List FC) (c : FC) : (l ++ [c]).flatMap FC.cells = l.flatMap FC.cells ++ FC.cells c := by simp
theorem cell_six_new (w : World) (c : FC) (t : TypeId) : ∀ j u, (FC.cells c)[j]? = some u → (w.alloc (.cells #[sV c.x, .int .i64 c.v.k, .int .i64 c.v.n, sV c.v.s, .slice c.v.la c.v.ln c.v.lc, .slice c.v.fa c.v.fn c.v.fc] t)).cell? ((⟨w.heap.size, 0, none⟩ : Addr).add j) = some u := by
  intro j u h
  have o := Own.new w (FC.cells c) t
  have := o.cell h
  rw [Addr.add_lit, Nat.zero_add]
  exact this
theorem six_one (c : FC) : ∀ v ∈ FC.cells c, v.oneCell' = true := by
  intro v hv; simp at hv; rcases hv with rfl | rfl | rfl | rfl | rfl | rfl <;> rfl

set_option maxHeartbeats 4000000 in
set_option maxRecDepth 4000 in
theorem map_leaf (v : Value) (cs : List FC) (w : World) (hv : Flat w v cs.length (cs.flatMap FC.cells)) (hn : cs.length < 20) (hp : 0 < cs.length)
    (L K : List FC) (hL : L = isort 0 1 (cs.length - 1) cs) (hK : K = keepTo L cs.length) (hKp : 0 < K.length) (hleaf : ∀ c ∈ L, c.v.ln = 0 ∧ c.v.fn = 0) :
    Calls Tryz.prog 157 #[v] w fun e w' => ∃ b, e = .returned (.agg #[.int .i64 5, .int .i64 0, .string ⟨#[]⟩, .slice none 0 0, .slice (some ⟨b, 0, none⟩) K.length K.length]) ∧ w.heap.size ≤ b ∧ Own w' b ((K.map FC.bare).flatMap FC.cells) 58 ∧ Below w.heap.size w w' := by
  have HKK := Lib.hid hK
  have HLL := Lib.hid hL
  clear hK hL
  obtain ⟨i35, hi35, hzi35, hsi35, hyi35⟩ := info_parts info35
  have hw0 : Below w.heap.size w (w.alloc (.cells #[.int .i64 0, .int .i64 0, .string ⟨#[]⟩, .slice none 0 0, .slice none 0 0] 25)) := (Below.refl _ _).alloc (Nat.le_refl _) _
  have oR : Own (w.alloc (.cells #[.int .i64 0, .int .i64 0, .string ⟨#[]⟩, .slice none 0 0, .slice none 0 0] 25)) w.heap.size [.int .i64 0, .int .i64 0, .string ⟨#[]⟩, .slice none 0 0, .slice none 0 0] 25 := Own.new _ _ _
  have C := Lib.hid (clone_any v cs _ (hv.all hw0) (by omega))
  have HV := Lib.hid hv
  obtain ⟨ao, cap0, rfl, -⟩ := hv.out
  clear hv
  go_enter Tryz.func157, Tryz.ntmps157
  go_wp2_with fail
  generalize w.alloc (.cells #[.int .i64 0, .int .i64 0, .string ⟨#[]⟩, .slice none 0 0, .slice none 0 0] 25) = W0 at *
  refine C.out.mono ?_
  rintro e w1 ⟨cv, rfl, hown, hb1⟩
  rcases hown.2 with ⟨-, h0⟩ | ⟨g, cap, cur, rfl, hgb, hg, h1, h2, h3, h4⟩
  · exact absurd h0 (by omega)
  have o1 : Own w1 g (cs.flatMap FC.cells ++ cur.toList.drop (cs.length * 6)) 58 := by
    show w1.heap[g]? = _
    rw [hg, ← h4, List.take_append_drop]
  have hbw1 := below_all hw0 hb1
  have oR1 := oR.all hb1
  have hltR := oR.lt
  have S := Lib.hid (sort_small g cap _ cs w1 o1 hn h1 h2)
  have hg1 := hb1.size
  clear hown hg h3 h4 o1 hb1 hw0 oR C
  go_wp2_with fail
  refine S.out.mono ?_
  rintro e w2 ⟨rfl, hbt, o2, hl2⟩
  rw [← HLL.out] at o2 hl2
  have hbw2 := hbt.below hbw1 (by omega) hbw1.size
  have oR2 := Own.but oR1 hbt (by omega)
  have hg2 := o2.lt
  clear hbt hbw1 oR1 S HV hgb hg1 hltR
  unfold maxLen at h2
  go_wp2
  have R0 := Lib.hid (And.intro hbw2 (And.intro o2 oR2))
  clear hbw2 o2 oR2
  go_loopg [4, 13] cs.length (fun gg kv i wr => ∃ k : Nat, k ≤ cs.length ∧ gg = cs.length - k ∧ i = .int .i64 k ∧ Below w2.heap.size w2 wr ∧ wr.ownsRow w2.heap.size 58 6 kv (keepTo L k).length ((keepTo L k).flatMap FC.cells))
  case atStart => exact ⟨0, Nat.zero_le _, rfl, rfl, Below.refl _ _, own_nil _ _ _ _⟩
  case round =>
    obtain ⟨k, hk, hg, rfl, hb, hown⟩ := hrel
    have HG := Lib.hid hg
    clear hg
    by_cases hlt : k < cs.length
    · have hx : L[k]? = some (L.getD k FC0) := by rw [List.getD_eq_getElem?_getD, List.getElem?_eq_getElem (by omega)]; rfl
      have HKB : Hid (keepB L k = (decide (k + 1 = cs.length) || !((L.getD (k + 1) FC0).x == (L.getD k FC0).x))) := Lib.hid (by unfold keepB; rw [hl2])
      have HKT : Hid (keepTo L (k + 1) = if keepB L k then keepTo L k ++ [L.getD k FC0] else keepTo L k) := Lib.hid rfl
      have hkl := keepTo_len L k
      generalize hRR : keepTo L k = R at *
      have hy : k + 1 < cs.length → L[k + 1]? = some (L.getD (k + 1) FC0) := fun h => by rw [List.getD_eq_getElem?_getD, List.getElem?_eq_getElem (by omega)]; rfl
      generalize L.getD k FC0 = c at *
      generalize L.getD (k + 1) FC0 = d at *
      clear hRR
      obtain ⟨q, q0, q1, q2, q3, q4⟩ := Own.fieldAt (R0.out.2.1.all hb) hx
      have hbb := hb.alloc hb.size (.cells #[sV c.x, .int .i64 c.v.k, .int .i64 c.v.n, sV c.v.s, .slice c.v.la c.v.ln c.v.lc, .slice c.v.fa c.v.fn c.v.fc] 58)
      have oN : Own (wr.alloc (.cells #[sV c.x, .int .i64 c.v.k, .int .i64 c.v.n, sV c.v.s, .slice c.v.la c.v.ln c.v.lc, .slice c.v.fa c.v.fn c.v.fc] 58)) wr.heap.size (FC.cells c) 58 := Own.new _ _ _
      have hownA := hown.alloc (.cells #[sV c.x, .int .i64 c.v.k, .int .i64 c.v.n, sV c.v.s, .slice c.v.la c.v.ln c.v.lc, .slice c.v.fa c.v.fn c.v.fc] 58)
      have hwr := hb.size
      go_wp2
      clear q q0 q1 q2 q3 q4
      change Code.wp Tryz.prog _ _ _ (wr.alloc (.cells #[sV c.x, .int .i64 c.v.k, .int .i64 c.v.n, sV c.v.s, .slice c.v.la c.v.ln c.v.lc, .slice c.v.fa c.v.fn c.v.fc] 58))
      have hVs : w2.heap.size < (wr.alloc (.cells #[sV c.x, .int .i64 c.v.k, .int .i64 c.v.n, sV c.v.s, .slice c.v.la c.v.ln c.v.lc, .slice c.v.fa c.v.fn c.v.fc] 58)).heap.size := by rw [size_alloc]; omega
      generalize wr.alloc (.cells #[sV c.x, .int .i64 c.v.k, .int .i64 c.v.n, sV c.v.s, .slice c.v.la c.v.ln c.v.lc, .slice c.v.fa c.v.fn c.v.fc] 58) = V at *
      have z0 := cell_regrown (oN.cell (i := 0) rfl)
      by_cases hlast : k + 1 = cs.length
      · have hl1 : ((k : Int) + 1 == (cs.length : Int)) = true := by rw [beq_iff_eq]; omega
        have HB : Hid (keepTo L (k + 1) = R ++ [c]) := Lib.hid (by rw [HKT.out, HKB.out, decide_eq_true hlast]; rfl)
        refine wp_region_quiet_below (by kernel_rfl) (by kernel_rfl) ?_
        repeat (first | go_big_quiet_step (fail) | quiet_step (fail))
        refine wpQuiet_nil ?_
        intro _ hw'
        obtain ⟨⟨dq, osq⟩, hw''⟩ := hw'
        subst hw''
        have hbU := hbb.trans ((below_regrown V dq osq).mono (by omega))
        have hownU := own_below hownA (below_regrown V dq osq)
        have oU := oN.all (below_regrown V dq osq)
        have hUs := (below_regrown V dq osq).size
        clear z0 hownA hbb oN
        generalize grow (redrawn V dq) osq = U at *
        have u0 := oU.cell (i := 0) rfl
        have u1 := oU.cell (i := 1) rfl
        have u2 := oU.cell (i := 2) rfl
        have u3 := oU.cell (i := 3) rfl
        have u4 := oU.cell (i := 4) rfl
        have u5' := oU.cell (i := 5) rfl
        clear oU
        go_wp2_with (first | (at_builtin; refine wpList_append_own _ rfl (.tmp 34) (.tmp 36) 23 rfl w2.heap.size 58 i35 (.agg #[.string ⟨#[]⟩, .int .i64 0, .int .i64 0, .string ⟨#[]⟩, .slice none 0 0, .slice none 0 0]) 6 96 Tryz.underlying23 hi35 hzi35 hsi35 hyi35 rfl (by decide) _ _ _ rfl (hownU.alloc _) ⟨U.heap.size, 0, none⟩ 1 1 (FC.cells c) rfl rfl (cell_six_new _ _ _) (six_one c) (by unfold maxLen; omega) (by omega) (by simp; omega) ?_; intro v' w5 hown5 hgrow5 hnil5))
        go_roundg (cs.length - (k + 1))
        case measure => have := HG.out; omega
        case rel => exact ⟨k + 1, by omega, rfl, by go_num, below_grown (hbU.trans ((below_alloc U _).mono (by omega))) hgrow5 (by rw [size_alloc]; omega) (own_row hownU), by rw [HB.out, flatMap_snoc, List.length_append]; exact hown5⟩
      · have hl1 : ((k : Int) + 1 == (cs.length : Int)) = false := by rw [beq_eq_false_iff_ne]; omega
        have y0 := cell_regrown (Own.fieldAt (R0.out.2.1.all hbb) (hy (by omega))).1
        cases hq : (d.x == c.x)
        · have HB : Hid (keepTo L (k + 1) = R ++ [c]) := Lib.hid (by rw [HKT.out, HKB.out, hq]; simp)
          refine wp_region_quiet_below (by kernel_rfl) (by kernel_rfl) ?_
          repeat (first | go_big_quiet_step (fail) | quiet_step (fail))
          refine wpQuiet_nil ?_
          intro _ hw'
          obtain ⟨⟨dq, osq⟩, hw''⟩ := hw'
          subst hw''
          clear y0
          have hbU := hbb.trans ((below_regrown V dq osq).mono (by omega))
          have hownU := own_below hownA (below_regrown V dq osq)
          have oU := oN.all (below_regrown V dq osq)
          have hUs := (below_regrown V dq osq).size
          clear z0 hownA hbb oN
          generalize grow (redrawn V dq) osq = U at *
          have u0 := oU.cell (i := 0) rfl
          have u1 := oU.cell (i := 1) rfl
          have u2 := oU.cell (i := 2) rfl
          have u3 := oU.cell (i := 3) rfl
          have u4 := oU.cell (i := 4) rfl
          have u5' := oU.cell (i := 5) rfl
          clear oU
          go_wp2_with (first | (at_builtin; refine wpList_append_own _ rfl (.tmp 34) (.tmp 36) 23 rfl w2.heap.size 58 i35 (.agg #[.string ⟨#[]⟩, .int .i64 0, .int .i64 0, .string ⟨#[]⟩, .slice none 0 0, .slice none 0 0]) 6 96 Tryz.underlying23 hi35 hzi35 hsi35 hyi35 rfl (by decide) _ _ _ rfl (hownU.alloc _) ⟨U.heap.size, 0, none⟩ 1 1 (FC.cells c) rfl rfl (cell_six_new _ _ _) (six_one c) (by unfold maxLen; omega) (by omega) (by simp; omega) ?_; intro v' w5 hown5 hgrow5 hnil5))
          go_roundg (cs.length - (k + 1))
          case measure => have := HG.out; omega
          case rel => exact ⟨k + 1, by omega, rfl, by go_num, below_grown (hbU.trans ((below_alloc U _).mono (by omega))) hgrow5 (by rw [size_alloc]; omega) (own_row hownU), by rw [HB.out, flatMap_snoc, List.length_append]; exact hown5⟩
        · have HB : Hid (keepTo L (k + 1) = R) := Lib.hid (by rw [HKT.out, HKB.out, hq, decide_eq_false hlast]; rfl)
          refine wp_region_quiet_below (by kernel_rfl) (by kernel_rfl) ?_
          repeat (first | go_big_quiet_step (fail) | quiet_step (fail))
          refine wpQuiet_nil ?_
          intro _ hw'
          obtain ⟨⟨dq, osq⟩, hw''⟩ := hw'
          subst hw''
          have hbU := hbb.trans ((below_regrown V dq osq).mono (by omega))
          have hownU := own_below hownA (below_regrown V dq osq)
          clear y0 z0 hownA hbb
          go_wp2
          go_roundg (cs.length - (k + 1))
          case measure => have := HG.out; omega
          case rel => exact ⟨k + 1, by omega, rfl, by go_num, hbU, by rw [HB.out]; exact hownU⟩
    · obtain rfl : k = cs.length := by omega
      rw [← HKK.out] at hown
      have hF := Flat.of_own hown
      obtain ⟨ao2, cap2, hu, hlc2, hcap2, -⟩ := hF.out
      subst hu
      have hKl : K.length ≤ 1000 := by rw [HKK.out]; have := keepTo_len L cs.length; omega
      have CC := Lib.hid (copyFields_leaf ao2 cap2 K wr hF (fun c hc => hleaf c (by rw [HKK.out] at hc; exact keepTo_mem (by omega) c hc)) hKl hKp)
      have hbz := hb.size
      obtain ⟨hbw2, o2, oR2⟩ := R0.out
      have hbF := below_next hbw2 hbw2.size hb
      have oRF := oR2.all hb
      have hRlt := oR2.lt
      clear R0 hF hown hbw2 o2 oR2 HG hb
      generalize wr = W3 at *
      go_wp2_with fail
      refine CC.out.mono ?_
      rintro e w4 ⟨b4, rfl, hb4, o4, hbw4⟩
      have oR4 := oRF.all hbw4
      have hbE := below_all hbF hbw4
      have hw3 := hbF.size
      have r0 : w4.cell? ⟨w.heap.size, 0, none⟩ = some (.int .i64 0) := oR4.cell rfl
      have r1 : w4.cell? ⟨w.heap.size, 1, none⟩ = some (.int .i64 0) := oR4.cell rfl
      have r2 : w4.cell? ⟨w.heap.size, 2, none⟩ = some (.string ⟨#[]⟩) := oR4.cell rfl
      have r3 : w4.cell? ⟨w.heap.size, 3, none⟩ = some (.slice none 0 0) := oR4.cell rfl
      have r4 : w4.cell? ⟨w.heap.size, 4, none⟩ = some (.slice none 0 0) := oR4.cell rfl
      have f0 := oR4.frozen 0
      have f1 := oR4.frozen 1
      have f2 := oR4.frozen 2
      have f3 := oR4.frozen 3
      have f4 := oR4.frozen 4
      have HO := Lib.hid (And.intro hbE (And.intro oR4 o4))
      clear hbE oR4 o4 oRF hbF hbw4 CC
      go_wp2
      obtain ⟨hbE, oR4, o4⟩ := HO.out
      have oS := ((((oR4.set 0 (.int .i64 5)).set 1 (.int .i64 0)).set 2 (.string ⟨#[]⟩)).set 3 (.slice none 0 0)).set 4 (.slice (some ⟨b4, 0, none⟩) K.length K.length)
      have hbS := below_set (below_set (below_set (below_set (below_set hbE (Nat.le_refl w.heap.size) (i := 0) (.int .i64 5)) (Nat.le_refl _) (i := 1) (.int .i64 0)) (Nat.le_refl _) (i := 2) (.string ⟨#[]⟩)) (Nat.le_refl _) (i := 3) (.slice none 0 0)) (Nat.le_refl _) (i := 4) (.slice (some ⟨b4, 0, none⟩) K.length K.length)
      have o5 := ((((o4.set_ne (b' := w.heap.size) (by omega) 0 (.int .i64 5)).set_ne (b' := w.heap.size) (by omega) 1 (.int .i64 0)).set_ne (b' := w.heap.size) (by omega) 2 (.string ⟨#[]⟩)).set_ne (b' := w.heap.size) (by omega) 3 (.slice none 0 0)).set_ne (b' := w.heap.size) (by omega) 4 (.slice (some ⟨b4, 0, none⟩) K.length K.length)
      clear r0 r1 r2 r3 r4 f0 f1 f2 f3 f4 hbE oR4 o4 HO
      generalize ((((w4.setCell ⟨w.heap.size, 0, none⟩ (.int .i64 5)).setCell ⟨w.heap.size, 1, none⟩ (.int .i64 0)).setCell ⟨w.heap.size, 2, none⟩ (.string ⟨#[]⟩)).setCell ⟨w.heap.size, 3, none⟩ (.slice none 0 0)).setCell ⟨w.heap.size, 4, none⟩ (.slice (some ⟨b4, 0, none⟩) K.length K.length) = U at *
      have c0 : U.cell? ⟨w.heap.size, 0, none⟩ = some (.int .i64 5) := oS.cell rfl
      have c1 : U.cell? ⟨w.heap.size, 1, none⟩ = some (.int .i64 0) := oS.cell rfl
      have c2 : U.cell? ⟨w.heap.size, 2, none⟩ = some (.string ⟨#[]⟩) := oS.cell rfl
      have c3 : U.cell? ⟨w.heap.size, 3, none⟩ = some (.slice none 0 0) := oS.cell rfl
      have c4 : U.cell? ⟨w.heap.size, 4, none⟩ = some (.slice (some ⟨b4, 0, none⟩) K.length K.length) := oS.cell rfl
      exact bodyPost_ret (v := .agg #[.int .i64 5, .int .i64 0, .string ⟨#[]⟩, .slice none 0 0, .slice (some ⟨b4, 0, none⟩) K.length K.length]) (by simp [results, Tryz.results157, go_sem, c0, c1, c2, c3, c4]) rfl ⟨b4, rfl, by omega, o5, hbS⟩
end Go.Proofs.YtjpmnlefjmdelaaGreatDoor
