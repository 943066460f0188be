/- The walk of ValueBuilds. -/
import Derived.Test.YtmmembmohkideaaFa
import Derived.Test.YtmmembmohkideaaEc
import Derived.Test.YtmmembmohkideaaEh
import Derived.Test.YtmmembmohkideaaDb
import Derived.Test.YtmmembmohkideaaMv
import Derived.BigRegion
namespace Go.Proofs.Ytmmembmohkideaa
open Go.RowKit Go.Sort Go.Proofs.LawFrame

/-- a list's row, which can be written -/
structure RowL (lo hi : Nat) (la : Option Addr) (n : Nat) (w : World) : Prop where
  out : 0 < n → ∃ (g : Nat) (xs : List Value), la = some ⟨g, 0, none⟩ ∧ lo ≤ g ∧ g < hi ∧ Own w g xs 25 ∧ ∀ k, k < n → ∃ z : Int, xs[k * 5 + 1]? = some (.int .i64 z)
structure RowM (q lo hi : Nat) (fa : Option Addr) (n : Nat) (w : World) : Prop where
  out : 0 < n → ∃ (g : Nat) (xs : List Value), fa = some ⟨g, 0, none⟩ ∧ lo ≤ g ∧ g < hi ∧ Own w g xs 35 ∧ ∀ k, k < n → ∃ z : Str, (q ≤ k → z.length ≤ 1000) ∧ xs[k * 6]? = some (sV z)
theorem RowL.all {lo hi : Nat} {la : Option Addr} {n : Nat} {w w' : World} (h : RowL lo hi la n w) (hb : Below w.heap.size w w') : RowL lo hi la n w' :=
  ⟨fun hn => by obtain ⟨g, xs, h1, h2, h3, h4, h5⟩ := h.out hn; exact ⟨g, xs, h1, h2, h3, h4.all hb, h5⟩⟩
theorem RowM.all {q lo hi : Nat} {la : Option Addr} {n : Nat} {w w' : World} (h : RowM q lo hi la n w) (hb : Below w.heap.size w w') : RowM q lo hi la n w' :=
  ⟨fun hn => by obtain ⟨g, xs, h1, h2, h3, h4, h5⟩ := h.out hn; exact ⟨g, xs, h1, h2, h3, h4.all hb, h5⟩⟩
theorem RowM.set {q lo hi : Nat} {la : Option Addr} {n : Nat} {w : World} (h : RowM q lo hi la n w) {b : Nat} (hb : b < lo) (i : Nat) (v : Value) : RowM q lo hi la n (w.setCell ⟨b, i, none⟩ v) :=
  ⟨fun hn => by obtain ⟨g, xs, h1, h2, h3, h4, h5⟩ := h.out hn; exact ⟨g, xs, h1, h2, h3, h4.set_ne (by omega) _ _, h5⟩⟩
theorem NewL.row {w w' : World} {la : Option Addr} {n cap : Nat} {l : List T} (h : NewL w w' (.slice la n cap) l) : RowL w.heap.size w'.heap.size la n w' := by
  refine ⟨fun hn => ?_⟩
  rcases h.out with ⟨-, h⟩ | ⟨b, cs, h1, h2, h3, h4, h5, h6⟩
  · simp at h; omega
  · simp only [Value.slice.injEq] at h1
    obtain ⟨rfl, rfl, -⟩ := h1
    refine ⟨b, _, rfl, h3, h5.lt, h5, fun k hk => ?_⟩
    have hc : cs[k]? = some cs[k] := List.getElem?_eq_getElem (by omega)
    exact ⟨_, (flat_get VC.cells (m := 5) (fun _ => rfl) cs k 1 _ hc (by omega)).trans rfl⟩
theorem NewF.row {w w' : World} {la : Option Addr} {n cap : Nat} {l : List (Str × T)} (h : NewF w w' (.slice la n cap) l) (hq : ∀ p ∈ l, p.1.length ≤ 1000) : RowM 0 w.heap.size w'.heap.size la n w' := by
  refine ⟨fun hn => ?_⟩
  rcases h.out with ⟨-, h⟩ | ⟨b, cs, h1, h2, h3, h4, h5, h6, -⟩
  · simp at h; omega
  · simp only [Value.slice.injEq] at h1
    obtain ⟨rfl, rfl, -⟩ := h1
    refine ⟨b, _, rfl, h3, h5.lt, h5, fun k hk => ?_⟩
    have hc : cs[k]? = some cs[k] := List.getElem?_eq_getElem (by omega)
    have hp : l[k]? = some l[k] := List.getElem?_eq_getElem (by omega)
    exact ⟨_, fun _ => by rw [h6 k _ _ hc hp]; exact hq _ (List.getElem_mem _), (flat_get FC.cells (m := 6) (fun _ => rfl) cs k 0 _ hc (by omega)).trans rfl⟩
theorem keepsL {xs : List Value} {n k : Nat} (h : ∀ k, k < n → ∃ z : Int, xs[k * 5 + 1]? = some (.int .i64 z)) (y : Int) : ∀ k', k' < n → ∃ z : Int, (xs.set (k * 5 + 1) (.int .i64 y))[k' * 5 + 1]? = some (.int .i64 z) := fun k' hk' => by
  obtain ⟨z', hz'⟩ := h k' hk'
  have hlt := (List.getElem?_eq_some_iff.1 hz').1
  by_cases e : k * 5 + 1 = k' * 5 + 1
  · rw [← e, List.getElem?_set_self (by omega)]
    exact ⟨y, rfl⟩
  · rw [List.getElem?_set_ne e]
    exact ⟨z', hz'⟩
theorem keepsM {xs : List Value} {n k : Nat} (h : ∀ j, j < n → ∃ z : Str, (k ≤ j → z.length ≤ 1000) ∧ xs[j * 6]? = some (sV z)) (b : ByteArray) : ∀ j, j < n → ∃ z : Str, (k + 1 ≤ j → z.length ≤ 1000) ∧ (xs.set (k * 6) (.string b))[j * 6]? = some (sV z) := fun k' hk' => by
  obtain ⟨z', hn', hz'⟩ := h k' hk'
  have hlt := (List.getElem?_eq_some_iff.1 hz').1
  by_cases e : k * 6 = k' * 6
  · rw [← e, List.getElem?_set_self (by omega)]
    obtain ⟨y, rfl⟩ : ∃ x : Str, b = ⟨x.toArray⟩ := ⟨b.data.toList, by cases b; simp⟩
    exact ⟨y, fun h => by omega, rfl⟩
  · rw [List.getElem?_set_ne e]
    exact ⟨z', fun h => hn' (by omega), hz'⟩
theorem niceF_mem {f : List (Str × T)} (h : niceF f) : ∀ p ∈ f, p.1.length ≤ 1000 := by
  induction f with
  | nil => intro p hp; cases hp
  | cons q r ih =>
    obtain ⟨x, t⟩ := q
    simp only [niceF] at h
    intro p hp
    rcases List.mem_cons.1 hp with rfl | hp
    · exact h.1
    · exact ih h.2.2 p hp
theorem is_leaf (w : World) (k n : Int) (s : Str) : Is w ⟨k, n, s, none, 0, 0, none, 0, 0⟩ (.mk k n s [] []) :=
  Is.of (c := ⟨k, n, s, none, 0, 0, none, 0, 0⟩) ⟨[], rfl, Flat.nil _ _ _ (Nat.zero_le _) _, fun i x t h => by simp at h⟩ ⟨[], rfl, Flat.nil _ _ _ (Nat.zero_le _) _, fun i x t h => by simp at h, fun i x t h => by simp at h⟩

def GV (l : List T) (f : List (Str × T)) (i : Nat) (u : Value) (w : World) : Prop :=
  if i = 2 then ∃ c' : VC, u = c'.val ∧ Is w c' (.mk 4 0 [] l [])
  else if i = 8 then ∃ (c' : VC) (M : List (Str × T)), u = c'.val ∧ Is w c' (.mk 5 0 [] [] M) ∧ MapOf f M else True
theorem GV.up {l : List T} {f : List (Str × T)} {i : Nat} {u : Value} {w w' : World} (h : GV l f i u w) (hb : Below w.heap.size w w') : GV l f i u w' := by
  unfold GV at *
  split
  · rename_i e; rw [if_pos e] at h; obtain ⟨c', a1, a2⟩ := h; exact ⟨c', a1, a2.all hb⟩
  · rename_i e
    rw [if_neg e] at h
    split
    · rename_i e'; rw [if_pos e'] at h; obtain ⟨c', M, a1, a2, a3⟩ := h; exact ⟨c', M, a1, a2.all hb, a3⟩
    · trivial
def GS (i : Nat) (u : Value) : Prop := if i = 2 ∨ i = 8 then ∃ c' : VC, u = c'.val else u = .bool true

set_option maxHeartbeats 16000000 in
set_option maxRecDepth 4000 in
theorem builds_walk (v1 v2 : Value) (l : List T) (f : List (Str × T)) (n : Int) (s : Str) (bb : Bool) (w : World) (hL : Vals w v1 l) (hF : Flds w v2 f) :
    Calls Try.prog 6 #[v1, v2, .int .i64 n, sV s, .bool bb] w fun e w' => e = .returned (.bool true) ∧ Below w.heap.size w w' := by
  obtain ⟨la0, lc0, rfl, hlc0, hlm0⟩ := hL.form
  obtain ⟨fa0, fc0, rfl, hfc0, hfm0⟩ := hF.form
  unfold maxLen at hlm0 hfm0
  have hB : Below w.heap.size w w := Below.refl _ _
  have HL0 := Lib.hid (And.intro hL hF)
  go_enter Try.func6, Try.ntmps6
  by_cases h40 : 40 < l.length
  · clear hL hF
    go_wp2_with fail
    refine (awake_any _).mono ?_
    rintro e wz ⟨rfl, hbz⟩
    go_wp2
    go_ret
    exact ⟨rfl, below_all hB hbz⟩
  by_cases h41 : 40 < f.length
  · clear hL hF
    go_wp2_with fail
    refine (awake_any _).mono ?_
    rintro e wz ⟨rfl, hbz⟩
    go_wp2
    go_ret
    exact ⟨rfl, below_all hB hbz⟩
  have iC : Is w ⟨0, 0, [], la0, l.length, lc0, fa0, f.length, fc0⟩ (.mk 0 0 [] l f) := Is.of (c := ⟨0, 0, [], la0, l.length, lc0, fa0, f.length, fc0⟩) hL hF
  have C := Lib.hid (small_any (.mk 0 0 [] l f) ⟨0, 0, [], la0, l.length, lc0, fa0, f.length, fc0⟩ w iC)
  clear iC
  have HS := Lib.hid (And.intro hB (And.intro hL (hF)))
  clear hB hL hF
  go_wp2_with fail
  obtain ⟨hB, hL, hF⟩ := HS.out
  clear HS
  refine C.out.mono ?_
  rintro e w1 ⟨r1, rfl, hb1, hr1⟩
  replace hB := below_all hB hb1
  replace hL := hL.all hb1
  replace hF := hF.all hb1
  clear hb1 C
  have hs01 := hB.size
  cases r1 with
  | false =>
    clear hL hF hr1
    go_wp2_with fail
    refine (awake_any _).mono ?_
    rintro e wz ⟨rfl, hbz⟩
    go_wp2
    go_ret
    exact ⟨rfl, below_all hB hbz⟩
  | true =>
  obtain ⟨hz1, hnice⟩ := hr1 rfl
  clear hr1
  simp only [T.nice] at hnice
  have HNI := Lib.hid (niceF_mem hnice.2.2)
  clear hnice
  have hsl : ∀ t ∈ l, t.size ≤ 1000 := fun p hp => Int.le_trans (size_in_l (k := 0) (n := 0) (s := []) (f := f) hp) (by omega)
  have hsf : ∀ p ∈ f, p.2.size ≤ 1000 := fun p hp => Int.le_trans (size_in_f (k := 0) (n := 0) (s := []) (l := l) hp) (by omega)
  clear hz1
  have HSL := Lib.hid (And.intro hsl hsf)
  clear hsl hsf
  have C := Lib.hid (list_new _ l w1 hL (by omega) HSL.out.1)
  have HS := Lib.hid (And.intro hB (And.intro hL (hF)))
  clear hB hL hF
  go_wp2_with fail
  obtain ⟨hB, hL, hF⟩ := HS.out
  clear HS
  refine C.out.mono ?_
  rintro e w2 ⟨c1, rfl, hb2, i1', hN1⟩
  have hs11 := hb2.size
  have i1 := i1'.is
  have rL := hN1.row
  have hln1 := Lib.hid (i1.vals.slice).1
  clear C i1' hN1
  replace hB := below_all hB hb2
  replace hL := hL.all hb2
  replace hF := hF.all hb2
  clear hb2
  have C := Lib.hid (map_new _ f w2 hF (by omega) HSL.out.2)
  have HS := Lib.hid (And.intro hB (And.intro hL (And.intro hF (And.intro i1 (rL)))))
  clear hB hL hF i1 rL
  go_wp2_with fail
  obtain ⟨hB, hL, hF, i1, rL⟩ := HS.out
  clear HS
  refine C.out.mono ?_
  rintro e w3 ⟨c2, M, rfl, hb3, i2', hM, hN2⟩
  have i2 := i2'.is
  have rM := hN2.row (fun p hp => HNI.out p (hM.mem hp))
  have hfn2 := Lib.hid (i2.flds.slice).1
  have hs12 := hb3.size
  have HM := Lib.hid hM
  have hMl : M.length ≤ 1000 := by have := hM.size.2; omega
  clear C i2' hN2 hM
  replace hB := below_all hB hb3
  replace hL := hL.all hb3
  replace hF := hF.all hb3
  replace i1 := i1.all hb3
  replace rL := rL.all hb3
  clear hb3
  have oL := (Own.new w3 [.int .i64 c1.k, .int .i64 c1.n, sV c1.s, .slice c1.la c1.ln c1.lc, .slice c1.fa c1.fn c1.fc] 25).alloc (.cells #[.int .i64 c2.k, .int .i64 c2.n, sV c2.s, .slice c2.la c2.ln c2.lc, .slice c2.fa c2.fn c2.fc] 25)
  have oM : Own ((w3.alloc (.cells #[.int .i64 c1.k, .int .i64 c1.n, sV c1.s, .slice c1.la c1.ln c1.lc, .slice c1.fa c1.fn c1.fc] 25)).alloc (.cells #[.int .i64 c2.k, .int .i64 c2.n, sV c2.s, .slice c2.la c2.ln c2.lc, .slice c2.fa c2.fn c2.fc] 25)) (w3.heap.size + 1) [.int .i64 c2.k, .int .i64 c2.n, sV c2.s, .slice c2.la c2.ln c2.lc, .slice c2.fa c2.fn c2.fc] 25 := Own.new_at (by rw [size_alloc]) _ _
  have hbN : Below w3.heap.size w3 ((w3.alloc (.cells #[.int .i64 c1.k, .int .i64 c1.n, sV c1.s, .slice c1.la c1.ln c1.lc, .slice c1.fa c1.fn c1.fc] 25)).alloc (.cells #[.int .i64 c2.k, .int .i64 c2.n, sV c2.s, .slice c2.la c2.ln c2.lc, .slice c2.fa c2.fn c2.fc] 25)) := ((Below.refl _ _).alloc (Nat.le_refl _) _).alloc (by simp) _
  have hs3 := hB.size
  replace hB := below_all hB hbN
  replace hL := hL.all hbN
  replace hF := hF.all hbN
  replace i1 := i1.all hbN
  replace rL := rL.all hbN
  replace i2 := i2.all hbN
  replace rM := rM.all hbN
  clear hbN
  have HS := Lib.hid (And.intro hB (And.intro hL (And.intro hF (And.intro i1 (And.intro rL (And.intro i2 (And.intro rM (And.intro oL (oM)))))))))
  clear hB hL hF i1 rL i2 rM oL oM
  go_upto_region 4 with (fail)
  change Code.wp Try.prog _ _ _ ((w3.alloc (.cells #[.int .i64 c1.k, .int .i64 c1.n, sV c1.s, .slice c1.la c1.ln c1.lc, .slice c1.fa c1.fn c1.fc] 25)).alloc (.cells #[.int .i64 c2.k, .int .i64 c2.n, sV c2.s, .slice c2.la c2.ln c2.lc, .slice c2.fa c2.fn c2.fc] 25))
  generalize ((w3.alloc (.cells #[.int .i64 c1.k, .int .i64 c1.n, sV c1.s, .slice c1.la c1.ln c1.lc, .slice c1.fa c1.fn c1.fc] 25)).alloc (.cells #[.int .i64 c2.k, .int .i64 c2.n, sV c2.s, .slice c2.la c2.ln c2.lc, .slice c2.fa c2.fn c2.fc] 25)) = V4 at *
  obtain ⟨hB, hL, hF, i1, rL, i2, rM, oL, oM⟩ := HS.out
  clear HS
  have p0 := cell_regrown (oL.cell (i := 0) rfl)
  have p1 := cell_regrown (oL.cell (i := 1) rfl)
  have p2 := cell_regrown (oL.cell (i := 2) rfl)
  have p3 := cell_regrown (oL.cell (i := 3) rfl)
  have p4 := cell_regrown (oL.cell (i := 4) rfl)
  have q0 := cell_regrown (oM.cell (i := 0) rfl)
  have q1 := cell_regrown (oM.cell (i := 1) rfl)
  have q2 := cell_regrown (oM.cell (i := 2) rfl)
  have q3 := cell_regrown (oM.cell (i := 3) rfl)
  have q4 := cell_regrown (oM.cell (i := 4) rfl)
  have HS := Lib.hid (And.intro hB (And.intro hL (And.intro hF (And.intro i1 (And.intro rL (And.intro i2 (And.intro rM (And.intro oL (oM)))))))))
  clear hB hL hF i1 rL i2 rM oL oM
  refine Dep.wp_region_multi 11 (fun i => i == 2 || i == 3 || i == 8 || i == 9)
    (fun i _ u w' => GV l f i u w') GS (fun i => if i = 3 then [2] else if i = 9 then [8] else []) (by kernel_rfl) (by kernel_rfl) (by kernel_rfl)
    (fun i xs u w1 w2 h hb => GV.up h hb)
    (fun i => by
      unfold GS; split
      · exact ⟨VC0.val, VC0, rfl⟩
      · exact ⟨_, rfl⟩) ?_
  simp only [List.take_succ_cons, List.take_zero, List.drop_succ_cons, List.drop_zero]
  refine Dep.wpM_stretch 2 rfl rfl rfl rfl ?_
  simp only [List.take_succ_cons, List.take_zero, List.drop_succ_cons, List.drop_zero]
  repeat (first | go_big_quiet_step (fail) | quiet_step (fail))
  refine wpQuiet_nil ?_
  refine Dep.wpM_dem rfl rfl rfl ?_ ?_
  · rintro _ ⟨pp, rfl⟩ hd
    go_simp
    simp only [demUpon]
    obtain ⟨hB, hL, hF, i1, rL, i2, rM, oL, oM⟩ := HS.out
    clear HS
    refine ⟨trivial, (rlist_any _ l _ (hL.all (below_regrown V4 pp.d pp.os)) (by omega) HSL.out.1).mono ?_⟩
    rintro e wA ⟨c', rfl, hbA, hN⟩
    exact ⟨_, rfl, ⟨c', rfl⟩, hbA, c', rfl, hN.is⟩
  · rintro u hu
    obtain ⟨d1, rfl⟩ : ∃ c' : VC, u = c'.val := hu
    try clear hu
    refine Dep.wpM_dem rfl rfl rfl ?_ ?_
    · rintro _ ⟨pp, rfl⟩ hd
      go_simp
      simp only [demUpon]
      obtain ⟨hB, hL, hF, i1, rL, i2, rM, oL, oM⟩ := HS.out
      clear HS
      obtain ⟨e1, he1, hI1⟩ := (show GV l f 2 d1.val (grow (redrawn V4 pp.d) pp.os) from hd 2 (by decide))
      obtain rfl := VC.val_inj he1
      refine ⟨trivial, (eqv_true rfl (i1.all (below_regrown V4 pp.d pp.os)) hI1).mono ?_⟩
      rintro e wA ⟨rfl, hbA⟩
      exact ⟨_, rfl, rfl, hbA, trivial⟩
    · rintro u hu
      obtain rfl : u = .bool true := hu
      try clear hu
      refine Dep.wpM_stretch 4 rfl rfl rfl rfl ?_
      simp only [List.take_succ_cons, List.take_zero, List.drop_succ_cons, List.drop_zero]
      repeat (first | go_big_quiet_step (fail) | quiet_step (fail))
      refine wpQuiet_nil ?_
      refine Dep.wpM_dem rfl rfl rfl ?_ ?_
      · rintro _ ⟨pp, rfl⟩ hd
        go_simp
        simp only [demUpon]
        obtain ⟨hB, hL, hF, i1, rL, i2, rM, oL, oM⟩ := HS.out
        clear HS
        refine ⟨trivial, (rmap_any _ f _ (hF.all (below_regrown V4 pp.d pp.os)) (by omega) HSL.out.2).mono ?_⟩
        rintro e wA ⟨c', M', rfl, hbA, hN, hM1⟩
        exact ⟨_, rfl, ⟨c', rfl⟩, hbA, c', M', rfl, hN.is, hM1⟩
      · rintro u hu
        obtain ⟨d2, rfl⟩ : ∃ c' : VC, u = c'.val := hu
        try clear hu
        refine Dep.wpM_dem rfl rfl rfl ?_ ?_
        · rintro _ ⟨pp, rfl⟩ hd
          go_simp
          simp only [demUpon]
          obtain ⟨hB, hL, hF, i1, rL, i2, rM, oL, oM⟩ := HS.out
          clear HS
          obtain ⟨e1, M', he1, hI1, hM1⟩ := (show GV l f 8 d2.val (grow (redrawn V4 pp.d) pp.os) from hd 8 (by decide))
          obtain rfl := VC.val_inj he1
          refine ⟨trivial, (eqv_true (by rw [HM.out.unique hM1]) (i2.all (below_regrown V4 pp.d pp.os)) hI1).mono ?_⟩
          rintro e wA ⟨rfl, hbA⟩
          exact ⟨_, rfl, rfl, hbA, trivial⟩
        · rintro u hu
          obtain rfl : u = .bool true := hu
          try clear hu
          refine Dep.wpM_stretch 1 rfl rfl rfl rfl ?_
          simp only [List.take_succ_cons, List.take_zero, List.drop_succ_cons, List.drop_zero]
          repeat (first | go_big_quiet_step (fail) | quiet_step (fail))
          refine wpQuiet_nil ?_
          refine Dep.wpM_end ?_
          rintro U hbU -
          clear p0 p1 p2 p3 p4 q0 q1 q2 q3 q4
          obtain ⟨hB, hL, hF, i1, rL, i2, rM, oL, oM⟩ := HS.out
          clear HS
          replace hB := below_all hB hbU
          replace hL := hL.all hbU
          replace hF := hF.all hbU
          replace i1 := i1.all hbU
          replace rL := rL.all hbU
          replace i2 := i2.all hbU
          replace rM := rM.all hbU
          replace oL := oL.all hbU
          replace oM := oM.all hbU
          clear hbU i1 i2
          obtain ⟨k1, n1, s1, la1, ln1, lc1, fa1, fn1, fc1⟩ := c1
          obtain ⟨k2, n2, s2, la2, ln2, lc2, fa2, fn2, fc2⟩ := c2
          have e1 := hln1.out
          have e2 := hfn2.out
          clear hln1 hfn2
          simp only at e1 e2
          subst e1 e2
          simp only at rL rM oL oM
          have HS := Lib.hid (And.intro hB (And.intro hL (And.intro hF (And.intro rL (And.intro rM (And.intro oL (oM)))))))
          clear hB hL hF rL rM oL oM
          go_wp2
          go_loopg [13] l.length (fun g i wr => ∃ k : Nat, k ≤ l.length ∧ g = l.length - k ∧ i = .int .i64 k ∧ Below w.heap.size w wr ∧ RowL w1.heap.size w2.heap.size la1 l.length wr ∧ RowM 0 w2.heap.size w3.heap.size fa2 M.length wr ∧ Own wr w3.heap.size [.int .i64 k1, .int .i64 n1, sV s1, .slice la1 l.length lc1, .slice fa1 fn1 fc1] 25 ∧ Own wr (w3.heap.size + 1) [.int .i64 k2, .int .i64 n2, sV s2, .slice la2 ln2 lc2, .slice fa2 M.length fc2] 25)
          case atStart => exact ⟨0, Nat.zero_le _, rfl, rfl, HS.out.1, HS.out.2.2.2⟩
          case round =>
            clear HS
            obtain ⟨k, hk, hg, rfl, hB, rL, rM, oL, oM⟩ := hrel
            have HG := Lib.hid hg
            clear hg
            by_cases hlt : k < l.length
            · obtain ⟨g, xs, rfl, hg1, hg2, oG, hxs⟩ := rL.out (by omega)
              obtain ⟨z, hz⟩ := hxs k hlt
              have p3 := oL.cell (i := 3) rfl
              have x1 := oG.cell hz
              have x2 := oG.frozen (k * 5 + 1)
              have HS := Lib.hid (And.intro hB (And.intro rM (And.intro oL (And.intro oM (And.intro oG hxs)))))
              clear hB rL rM oL oM oG hxs hz
              go_upto_region 9 with (fail)
              go_region
              obtain ⟨hB, rM, oL, oM, oG, hxs⟩ := HS.out
              go_wp2
              go_roundg (l.length - (k + 1))
              case measure => have := HG.out; omega
              case rel => exact ⟨k + 1, by omega, rfl, by go_num, (below_set hB (by omega) _).drew, ⟨fun _ => ⟨g, _, rfl, hg1, hg2, (oG.set _ _).drew, keepsL hxs _⟩⟩, (rM.set hg2 _ _).all ((Below.refl _ _).drew), (oL.set_ne (by omega) _ _).drew, (oM.set_ne (by omega) _ _).drew⟩
            · obtain rfl : k = l.length := by omega
              have p3 := oL.cell (i := 3) rfl
              have HS := Lib.hid (And.intro hB (And.intro rM oM))
              clear HG rL hlt hk hB rM oM oL
              go_wp2
              clear p3
              generalize wr = W1 at *
              go_loopg [14] M.length (fun g i wr => ∃ k : Nat, k ≤ M.length ∧ g = M.length - k ∧ i = .int .i64 k ∧ Below w.heap.size w wr ∧ RowM k w2.heap.size w3.heap.size fa2 M.length wr ∧ Own wr (w3.heap.size + 1) [.int .i64 k2, .int .i64 n2, sV s2, .slice la2 ln2 lc2, .slice fa2 M.length fc2] 25)
              case atStart => exact ⟨0, Nat.zero_le _, rfl, rfl, HS.out⟩
              case round =>
                clear HS
                obtain ⟨k, hk, hg, rfl, hB, rM, oM⟩ := hrel
                have HG := Lib.hid hg
                clear hg
                by_cases hlt : k < M.length
                · obtain ⟨g, xs, rfl, hg1, hg2, oG, hxs⟩ := rM.out (by omega)
                  obtain ⟨z, hzn, hz⟩ := hxs k hlt
                  have hzl := hzn (Nat.le_refl _)
                  clear hzn
                  have p4 := oM.cell (i := 4) rfl
                  have x1 := oG.cell hz
                  have x2 := oG.frozen (k * 6)
                  have HS := Lib.hid (And.intro hB (And.intro oM (And.intro oG hxs)))
                  clear hB rM oM oG hxs hz
                  go_upto_region 13 with (fail)
                  go_region
                  obtain ⟨hB, oM, oG, hxs⟩ := HS.out
                  go_wp2
                  go_roundg (M.length - (k + 1))
                  case measure => have := HG.out; omega
                  case rel => exact ⟨k + 1, by omega, rfl, by go_num, (below_set hB (by omega) _).drew, ⟨fun _ => ⟨g, _, rfl, hg1, hg2, (oG.set _ _).drew, keepsM hxs _⟩⟩, (oM.set_ne (by omega) _ _).drew⟩
                · obtain rfl : k = M.length := by omega
                  have p4 := oM.cell (i := 4) rfl
                  clear HG rM hlt hk oM
                  have hL := HL0.out.1.all hB
                  have hF := HL0.out.2.all hB
                  generalize wr = W2 at *
                  have C := Lib.hid (list_any _ l W2 hL (by omega) HSL.out.1)
                  have HS := Lib.hid (And.intro hB (And.intro hL (hF)))
                  clear hB hL hF
                  go_wp2_with fail
                  clear p4
                  obtain ⟨hB, hL, hF⟩ := HS.out
                  clear HS
                  refine C.out.mono ?_
                  rintro e u1 ⟨c3, rfl, hbu, i3'⟩
                  have i3 := i3'.is
                  clear C i3'
                  replace hB := below_all hB hbu
                  replace hL := hL.all hbu
                  replace hF := hF.all hbu
                  clear hbu
                  have C := Lib.hid (rlist_any _ l u1 hL (by omega) HSL.out.1)
                  have HS := Lib.hid (And.intro hB (And.intro hL (And.intro hF (i3))))
                  clear hB hL hF i3
                  go_wp2_with fail
                  obtain ⟨hB, hL, hF, i3⟩ := HS.out
                  clear HS
                  refine C.out.mono ?_
                  rintro e u2 ⟨c4, rfl, hbu, i4'⟩
                  have i4 := i4'.is
                  clear C i4'
                  replace hB := below_all hB hbu
                  replace hL := hL.all hbu
                  replace hF := hF.all hbu
                  replace i3 := i3.all hbu
                  clear hbu
                  have C := Lib.hid (eqv_true rfl i3 i4)
                  have HS := Lib.hid (And.intro hB (And.intro hL (And.intro hF (And.intro i3 (i4)))))
                  clear hB hL hF i3 i4
                  go_wp2_with fail
                  obtain ⟨hB, hL, hF, i3, i4⟩ := HS.out
                  clear HS
                  refine C.out.mono ?_
                  rintro e u3 ⟨rfl, hbu⟩
                  clear C i3 i4
                  replace hB := below_all hB hbu
                  replace hL := hL.all hbu
                  replace hF := hF.all hbu
                  clear hbu
                  have C := Lib.hid (map_any _ f u3 hF (by omega) HSL.out.2)
                  have HS := Lib.hid (And.intro hB (And.intro hL (hF)))
                  clear hB hL hF
                  go_wp2_with fail
                  obtain ⟨hB, hL, hF⟩ := HS.out
                  clear HS
                  refine C.out.mono ?_
                  rintro e u4 ⟨c5, M5, rfl, hbu, i5', hM5⟩
                  have i5 := i5'.is
                  clear C i5'
                  replace hB := below_all hB hbu
                  replace hL := hL.all hbu
                  replace hF := hF.all hbu
                  clear hbu
                  have C := Lib.hid (rmap_any _ f u4 hF (by omega) HSL.out.2)
                  have HS := Lib.hid (And.intro hB (And.intro hL (And.intro hF (i5))))
                  clear hB hL hF i5
                  go_wp2_with fail
                  obtain ⟨hB, hL, hF, i5⟩ := HS.out
                  clear HS
                  refine C.out.mono ?_
                  rintro e u5 ⟨c6, M6, rfl, hbu, i6', hM6⟩
                  have i6 := i6'.is
                  obtain rfl := hM5.unique hM6
                  clear C i6' hM5 hM6
                  replace hB := below_all hB hbu
                  replace hL := hL.all hbu
                  replace hF := hF.all hbu
                  replace i5 := i5.all hbu
                  clear hbu
                  have C := Lib.hid (eqv_true rfl i5 i6)
                  have HS := Lib.hid (And.intro hB (And.intro hL (And.intro hF (And.intro i5 (i6)))))
                  clear hB hL hF i5 i6
                  go_wp2_with fail
                  obtain ⟨hB, hL, hF, i5, i6⟩ := HS.out
                  clear HS
                  refine C.out.mono ?_
                  rintro e u6 ⟨rfl, hbu⟩
                  clear C i5 i6 hL hF
                  replace hB := below_all hB hbu
                  clear hbu
                  have C := Lib.hid (int_any n u6)
                  have HS := Lib.hid (hB)
                  clear hB
                  go_wp2_with fail
                  obtain hB := HS.out
                  clear HS
                  refine C.out.mono ?_
                  rintro e u7 ⟨rfl, hbu⟩
                  clear C
                  replace hB := below_all hB hbu
                  clear hbu
                  have C := Lib.hid (rint_any n u7)
                  have HS := Lib.hid (hB)
                  clear hB
                  go_wp2_with fail
                  obtain hB := HS.out
                  clear HS
                  refine C.out.mono ?_
                  rintro e u8 ⟨rfl, hbu⟩
                  clear C
                  replace hB := below_all hB hbu
                  clear hbu
                  have C := Lib.hid (eqv_true rfl (is_leaf u8 2 n []) (is_leaf u8 2 n []))
                  have HS := Lib.hid (hB)
                  clear hB
                  go_wp2_with fail
                  obtain hB := HS.out
                  clear HS
                  refine C.out.mono ?_
                  rintro e u9 ⟨rfl, hbu⟩
                  clear C
                  replace hB := below_all hB hbu
                  clear hbu
                  have C := Lib.hid (string_any s u9)
                  have HS := Lib.hid (hB)
                  clear hB
                  go_wp2_with fail
                  obtain hB := HS.out
                  clear HS
                  refine C.out.mono ?_
                  rintro e u10 ⟨rfl, hbu⟩
                  clear C
                  replace hB := below_all hB hbu
                  clear hbu
                  have C := Lib.hid (rstring_any s u10)
                  have HS := Lib.hid (hB)
                  clear hB
                  go_wp2_with fail
                  obtain hB := HS.out
                  clear HS
                  refine C.out.mono ?_
                  rintro e u11 ⟨rfl, hbu⟩
                  clear C
                  replace hB := below_all hB hbu
                  clear hbu
                  have C := Lib.hid (eqv_true rfl (is_leaf u11 3 0 s) (is_leaf u11 3 0 s))
                  have HS := Lib.hid (hB)
                  clear hB
                  go_wp2_with fail
                  obtain hB := HS.out
                  clear HS
                  refine C.out.mono ?_
                  rintro e u12 ⟨rfl, hbu⟩
                  clear C
                  replace hB := below_all hB hbu
                  clear hbu
                  cases bb
                  · have C := Lib.hid (false_any u12)
                    have HS := Lib.hid (hB)
                    clear hB
                    go_wp2_with fail
                    obtain hB := HS.out
                    clear HS
                    refine C.out.mono ?_
                    rintro e u13 ⟨rfl, hbu⟩
                    clear C
                    replace hB := below_all hB hbu
                    clear hbu
                    have C := Lib.hid (rfalse_any u13)
                    have HS := Lib.hid (hB)
                    clear hB
                    go_wp2_with fail
                    obtain hB := HS.out
                    clear HS
                    refine C.out.mono ?_
                    rintro e u14 ⟨rfl, hbu⟩
                    clear C
                    replace hB := below_all hB hbu
                    clear hbu
                    have C := Lib.hid (eqv_true rfl (is_leaf u14 1 0 []) (is_leaf u14 1 0 []))
                    have HS := Lib.hid (hB)
                    clear hB
                    go_wp2_with fail
                    obtain hB := HS.out
                    clear HS
                    refine C.out.mono ?_
                    rintro e u15 ⟨rfl, hbu⟩
                    clear C
                    replace hB := below_all hB hbu
                    clear hbu
                    go_wp2_with fail
                    refine (awake_any _).mono ?_
                    rintro e wz ⟨rfl, hbz⟩
                    go_wp2
                    go_ret
                    exact ⟨rfl, below_all hB hbz⟩
                  · have C := Lib.hid (true_any u12)
                    have HS := Lib.hid (hB)
                    clear hB
                    go_wp2_with fail
                    obtain hB := HS.out
                    clear HS
                    refine C.out.mono ?_
                    rintro e u13 ⟨rfl, hbu⟩
                    clear C
                    replace hB := below_all hB hbu
                    clear hbu
                    have C := Lib.hid (rtrue_any u13)
                    have HS := Lib.hid (hB)
                    clear hB
                    go_wp2_with fail
                    obtain hB := HS.out
                    clear HS
                    refine C.out.mono ?_
                    rintro e u14 ⟨rfl, hbu⟩
                    clear C
                    replace hB := below_all hB hbu
                    clear hbu
                    have C := Lib.hid (eqv_true rfl (is_leaf u14 1 1 []) (is_leaf u14 1 1 []))
                    have HS := Lib.hid (hB)
                    clear hB
                    go_wp2_with fail
                    obtain hB := HS.out
                    clear HS
                    refine C.out.mono ?_
                    rintro e u15 ⟨rfl, hbu⟩
                    clear C
                    replace hB := below_all hB hbu
                    clear hbu
                    go_wp2_with fail
                    refine (awake_any _).mono ?_
                    rintro e wz ⟨rfl, hbz⟩
                    go_wp2
                    go_ret
                    exact ⟨rfl, below_all hB hbz⟩
end Go.Proofs.Ytmmembmohkideaa
