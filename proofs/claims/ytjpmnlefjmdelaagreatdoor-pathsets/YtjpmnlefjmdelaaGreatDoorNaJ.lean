/- strings.Builder, as it is used here. Strings, printed. -/
import Derived.Test.YtjpmnlefjmdelaaGreatDoorKgJ
import Derived.Lib.Builder
import Derived.Lib.AppendStr
import Derived.Lib.UnsafeStr
import Derived.Laws.Externs
import Derived.Deep.AppendLies
set_option linter.unusedSimpArgs false
set_option linter.unusedVariables false
namespace Go.Proofs.YtjpmnlefjmdelaaGreatDoor
open Go.RowKit Go.Sort Go.Proofs.LawFrame

/-- a builder at the block bb that holds the bytes l -/
structure Bd (bb : Nat) (l : Str) (w : World) : Prop where
  out : ∃ p v, (p = .pointer none ∨ p = .pointer (some ⟨bb, 0, none⟩)) ∧ Own w bb [p, v] 63 ∧ w.ownsRow (bb + 1) 5 1 v l.length (bC l)
/-- the block k is neither the builder's nor its row's -/
structure Off (bb k : Nat) (w : World) : Prop where
  ne : k ≠ bb
  row : ∀ v, w.cell? ⟨bb, 1, none⟩ = some v → v.ownBlock ≠ some k
/-- what writing into the builder leaves alone -/
structure Wr (bb : Nat) (w w' : World) : Prop where
  low : Below bb w w'
  size : w.heap.size ≤ w'.heap.size
  own : ∀ k cs t, Own w k cs t → Off bb k w → Own w' k cs t ∧ Off bb k w'
theorem Wr.refl (bb : Nat) (w : World) : Wr bb w w := ⟨Below.refl _ _, Nat.le_refl _, fun _ _ _ h1 h2 => ⟨h1, h2⟩⟩
theorem Wr.trans {bb : Nat} {w w' w'' : World} (h : Wr bb w w') (h' : Wr bb w' w'') : Wr bb w w'' :=
  ⟨h.low.trans h'.low, Nat.le_trans h.size h'.size, fun k cs t h1 h2 => h'.own k cs t (h.own k cs t h1 h2).1 (h.own k cs t h1 h2).2⟩
theorem Bd.lt {bb : Nat} {l : Str} {w : World} (h : Bd bb l w) : bb < w.heap.size := by obtain ⟨p, v, -, o, -⟩ := h.out; exact o.lt
theorem Bd.all {bb : Nat} {l : Str} {w w' : World} (h : Bd bb l w) (hb : Below w.heap.size w w') : Bd bb l w' := by
  obtain ⟨p, v, h1, h2, h3⟩ := h.out; exact ⟨p, v, h1, h2.all hb, own_below h3 hb⟩
theorem Off.all {bb k : Nat} {l : Str} {w w' : World} (h : Off bb k w) (hd : Bd bb l w) (hb : Below w.heap.size w w') : Off bb k w' :=
  ⟨h.ne, fun v hv => h.row v (by rw [← hv, hb.cell (p := ⟨bb, 1, none⟩) hd.lt])⟩
theorem Wr.below {bb : Nat} {l : Str} {w w' w'' : World} (h : Wr bb w w') (hd : Bd bb l w') (hb : Below w'.heap.size w' w'') : Wr bb w w'' :=
  ⟨h.low.trans (hb.mono (Nat.le_of_lt hd.lt)), Nat.le_trans h.size hb.size, fun k cs t h1 h2 => ⟨(h.own k cs t h1 h2).1.all hb, (h.own k cs t h1 h2).2.all hd hb⟩⟩
theorem off_new {bb : Nat} {l : Str} {w : World} (hd : Bd bb l w) {k : Nat} (hk : w.heap.size ≤ k) : Off bb k w := by
  obtain ⟨p, v, -, o, h⟩ := hd.out
  refine ⟨by have := o.lt; omega, fun v' hv' => ?_⟩
  rw [o.cell (i := 1) rfl] at hv'
  cases hv'
  intro e
  have := (h.lt k e).2
  omega
theorem sizeBuilder : (Tryz.prog.info? 63).map (fun i => i.size) = some 2 := by kernel_rfl

set_option maxHeartbeats 1000000 in
set_option maxRecDepth 100000 in
theorem copyCheck_any {bb : Nat} {l : Str} {w : World} (hd : Bd bb l w) : Calls Tryz.prog 112 #[.pointer (some ⟨bb, 0, none⟩)] w fun e w' => e = .returned (.tuple #[]) ∧ Wr bb w w' ∧ ∃ v, Own w' bb [.pointer (some ⟨bb, 0, none⟩), v] 63 ∧ w'.ownsRow (bb + 1) 5 1 v l.length (bC l) := by
  obtain ⟨p, v, hp, o, hown⟩ := hd.out
  obtain ⟨j, hj, hjs⟩ := Option.map_eq_some_iff.1 sizeBuilder
  have c0 := o.cell (i := 0) rfl
  have g0 := o.frozen 0
  have hsh : w.shape? bb = some (63, 2) := by
    have : w.heap[bb]? = some (.cells #[p, v] 63) := o
    simp [World.shape?, this]
  rcases hp with rfl | rfl
  · have HS := Lib.hid (And.intro o hown)
    clear o hown
    go_enter Tryz.func112, Tryz.ntmps112
    go_wp2
    rw [Lib.run_to_unsafe w ⟨bb, 0, none⟩ Tryz.underlying60 Tryz.underlying148 hj (by rw [hjs]; decide) hsh (Nat.zero_lt_succ 1)]
    simp only [Result.andThen]
    rw [Oper.upon_value]
    go_wp2
    rw [run_callFunc_extern Tryz.func153 (by kernel_rfl) (by kernel_rfl) (by kernel_rfl) (e := Extern.AbiNoEscape.same) (by kernel_rfl), Lib.run_noEscape]
    simp only [Result.andThen]
    rw [Oper.upon_value]
    go_wp2
    rw [Lib.run_from_unsafe w ⟨bb, 0, none⟩ Tryz.underlying148 Tryz.underlying60 hj hsh (by kernel_rfl)]
    simp only [Result.andThen]
    rw [Oper.upon_value]
    go_wp2
    go_end0
    obtain ⟨o, hown⟩ := HS.out
    refine ⟨rfl, ⟨below_set (Below.refl _ _) (Nat.le_refl bb) _, Nat.le_of_eq (by unfold World.setCell; simp), fun k cs t h1 h2 => ⟨h1.set_ne h2.ne _ _, h2.ne, fun v' hv' => ?_⟩⟩, v, o.set 0 _, row_set hown (by omega) _ _⟩
    have o' := o.set 0 (.pointer (some ⟨bb, 0, none⟩))
    rw [o'.cell (i := 1) rfl] at hv'
    cases hv'
    exact h2.row v (o.cell (i := 1) rfl)
  · have HS := Lib.hid (And.intro o hown)
    clear o hown
    go_enter Tryz.func112, Tryz.ntmps112
    go_wp2
    rw [Lib.run_neq_ptr_same w _ Tryz.underlying60 hj]
    go_wp2
    go_end0
    exact ⟨rfl, Wr.refl _ _, v, HS.out.1, HS.out.2⟩

/-- the row's new value is stored behind an append -/
theorem bd_store {bb : Nat} {l l' : Str} {w W w' : World} {v v' p : Value} (hwr : Wr bb w W) (hp : p = .pointer none ∨ p = .pointer (some ⟨bb, 0, none⟩)) (o : Own W bb [p, v] 63) (hown : W.ownsRow (bb + 1) 5 1 v l.length (bC l)) (hg : W.grownBy w' v.ownBlock) (hown' : w'.ownsRow (bb + 1) 5 1 v' l'.length (bC l')) (hl : v'.ownBlock = v.ownBlock ∨ ∀ k, v'.ownBlock = some k → W.heap.size ≤ k) :
    Wr bb w (w'.setCell ⟨bb, 1, none⟩ v') ∧ Bd bb l' (w'.setCell ⟨bb, 1, none⟩ v') := by
  have hne : ∀ k, v.ownBlock = some k → bb + 1 ≤ k := own_row hown
  have o' : Own w' bb [p, v] 63 := own_kept' o hg (fun e => by have := hne bb e; omega)
  refine ⟨hwr.trans ⟨?_, ?_, fun k cs t h1 h2 => ?_⟩, ⟨p, v', hp, o'.set 1 v', row_set hown' (by omega) _ _⟩⟩
  · refine below_set ?_ (Nat.le_refl bb) _
    exact below_grown (Below.refl bb W) hg (by have := o.lt; omega) (fun k hk => by have := hne k hk; omega)
  · exact Nat.le_trans hg.size (Nat.le_of_eq (by unfold World.setCell; simp))
  · have hk : ¬ v.ownBlock = some k := h2.row v (o.cell (i := 1) rfl)
    have h3 : Own w' k cs t := own_kept' h1 hg hk
    refine ⟨h3.set_ne h2.ne _ _, h2.ne, fun v2 hv2 => ?_⟩
    rw [(o'.set 1 v').cell (i := 1) rfl] at hv2
    cases hv2
    rcases hl with hl | hl
    · rw [hl]; exact hk
    · intro e; have := hl k e; have := h1.lt; omega
set_option maxHeartbeats 2000000 in
set_option maxRecDepth 4000 in
theorem writeByte_any {bb : Nat} {l : Str} {w : World} (hd : Bd bb l w) (hl : l.length ≤ 100000000) {c : UInt8} {ci : Int} (hci : ci = (c.toNat : Int)) : Calls Tryz.prog 67 #[.pointer (some ⟨bb, 0, none⟩), .int .u8 ci] w fun e w' => e = .returned .nilIface ∧ Wr bb w w' ∧ Bd bb (l ++ [c]) w' := by
  subst hci
  obtain ⟨i5, hi5, hz5, hs5, hy5⟩ := info_parts info5
  go_enter Tryz.func67, Tryz.ntmps67
  go_wp2_with fail
  refine (copyCheck_any hd).mono ?_
  rintro e w1 ⟨rfl, hwr, v, o, hown⟩
  have hlt := o.lt
  obtain ⟨ao, cap, hu, -, -, -⟩ := (Flat.of_own hown).out
  subst hu
  have c1 := o.cell (i := 1) rfl
  have hbw := hd.lt
  have hsz := hwr.size
  have HS := Lib.hid (And.intro hwr o)
  clear hwr o hd
  go_wp2_with (first | (at_builtin; refine wpList_append_lies _ rfl (.tmp 11) (.tmp 13) 61 rfl (bb + 1) 5 i5 (.int .u8 0) 1 1 Tryz.underlying61 hi5 hz5 hs5 hy5 rfl (by decide) _ _ _ rfl (hown.alloc _) ⟨w1.heap.size, 0, none⟩ 1 1 [.int .u8 (c.toNat : Int)] rfl rfl (own_src (Own.new _ _ _)) (fun u hu => by simp at hu; subst hu; rfl) (by decide) (by unfold maxLen; omega) (by omega) (by rw [size_alloc]; omega) _ rfl ?_; intro gg gcap w6 hown6 hgrow6 hlies6 hglt; have o6 := own_kept' (HS.out.2.alloc (.cells #[.int .u8 (c.toNat : Int)] 5)) hgrow6 (fun e => by have := own_row hown bb e; omega); have k6 := o6.cell (i := 1) rfl; have f6 := o6.frozen 1; have HS6 := Lib.hid (And.intro hown6 (And.intro hgrow6 hlies6)); clear hown6 hgrow6 hlies6 o6))
  go_ret
  have hA := below_alloc w1 (.cells #[.int .u8 (c.toNat : Int)] 5)
  obtain ⟨h6a, h6b, h6c⟩ := HS6.out
  have := bd_store (l := l) (l' := l ++ [c]) (HS.out.1.below (l := l) ⟨_, _, Or.inr rfl, HS.out.2, hown⟩ hA) (Or.inr rfl) (HS.out.2.all hA) (hown.alloc _) h6b (by rw [bC_snoc, List.length_append]; exact h6a) (by
    rcases h6c with h | h
    · left; exact Eq.trans (show _ = some gg from rfl) (Eq.symm h)
    · right; intro k hk; simp [Value.ownBlock] at hk; omega)
  exact ⟨rfl, this.1, this.2⟩

theorem append_str_lies {P : Program} (w : World) (base : Nat) (t u ty e : TypeId) (i : TypeInfo) (ht : P.underlying t = some (.slice e)) (hu : P.underlying u = some .string) (hi : P.info? e = some i) (hz : i.zero = some (.int .u8 0)) (hsize : i.size = 1) (hby : i.bytes = 1)
    (v : Value) (n : Nat) (xs : List Value) (hown : w.ownsRow base e 1 v n xs) (s : ByteArray) (h0 : 0 < s.size) (h63 : n + s.size ≤ maxLen) (hbytes : n + s.size ≤ 140737488355328) (v' : Value) (w' : World)
    (hr : (Builtin.append_ #[t, u] ty #[v, .string s]).run P w = .ok v' w') : v'.ownBlock = v.ownBlock ∨ ∀ k, v'.ownBlock = some k → w.heap.size ≤ k := by
  unfold maxLen at h63
  have hxl : xs.length = n := by simpa using hown.1
  rcases hown.2 with ⟨rfl, rfl⟩ | ⟨g, cap, cur, rfl, hbg, hg, hnc, hcm, hcs, htake⟩
  · rw [run_append_nil_string (P := P) w t u ty e i (.int .u8 0) ht hu hi hz s (by omega) (by omega) (by rw [hby]; omega)] at hr
    cases hr
    right; intro k hk; simp [Value.ownBlock] at hk; omega
  · by_cases hroom : n + s.size ≤ cap
    · rw [Lib.run_append_room_string (P := P) w t u ty e i ht hu hi hsize g n cap cur hg s hroom (by have : cur.size = cap := by simpa using hcs
                                                                                                     omega)] at hr
      cases hr
      left; rfl
    · have holds : ∀ j u, xs[j]? = some u → w.cell? ((⟨g, 0, none⟩ : Addr).add j) = some u := hown.cells (g := g) rfl
      rw [Lib.run_append_grow_string (P := P) w t u ty e i (.int .u8 0) ht hu hi hz ⟨g, 0, none⟩ n cap xs (by rw [hsize]; simpa using hxl) holds s (by omega) (by omega) (by rw [hby]; exact growslice_fits (by omega) (by omega))] at hr
      cases hr
      right; intro k hk; simp [Value.ownBlock] at hk; omega
theorem wpList_append_str {P : Program} {w : World} {ops : Array Oper} {rest : List Oper} {o : Oper} {a : Act} {Q : Exit → Act → World → Prop} (hgd : o.guard = none) (sl x : Operand) (t u : TypeId)
    (ho : o.op = .call { callee := .builtin .append, args := #[sl, x], argTypes := #[t, u] }) (base : Nat) (e : TypeId) (i : TypeInfo) (ht : P.underlying t = some (.slice e)) (hu : P.underlying u = some .string) (hi : P.info? e = some i) (hz : i.zero = some (.int .u8 0)) (hsize : i.size = 1) (hby : i.bytes = 1)
    (v : Value) (n : Nat) (xs : List Value) (hs : a.eval sl = v) (hown : w.ownsRow base e 1 v n xs) (s : ByteArray) (hx : a.eval x = .string s) (h0 : 0 < s.size) (h63 : n + s.size ≤ maxLen) (hbytes : n + s.size ≤ 140737488355328) (hbase : base ≤ w.heap.size)
    (h : ∀ v' w', w'.ownsRow base e 1 v' (n + s.size) (xs ++ Lib.strCells s) → w.grownBy w' v.ownBlock → (v'.ownBlock = v.ownBlock ∨ ∀ k, v'.ownBlock = some k → w.heap.size ≤ k) → (∃ ao m c, v' = .slice ao m c) → wpList P ops Q rest (a.put o.dst v') w') : wpList P ops Q (o :: rest) a w := by
  refine wpList_plain hgd fun K hK => ?_
  obtain ⟨v', w', hr, h2, h3, h4⟩ := Lib.run_append_own_string (P := P) w base t u o.type e i ht hu hi hz hsize hby v n xs hown s h63 hbytes hbase
  have hl := append_str_lies w base t u o.type e i ht hu hi hz hsize hby v n xs hown s h0 h63 hbytes v' w' hr
  unfold Oper.wp execOp
  simp only [ho, resolve, invoke, builtin, Sem.run_bind, Sem.run_pure, Result.andThen_ok, List.map_toArray, List.map_cons, List.map_nil, hs, hx, hr]
  obtain ⟨ao, cap, hu', -⟩ := (Flat.of_own h2).out
  exact hK _ _ (h v' w' h2 h3 hl ⟨ao, _, cap, hu'⟩)
theorem strCells_bC (l : Str) : Lib.strCells ⟨l.toArray⟩ = bC l := by simp [Lib.strCells, bC]
set_option maxHeartbeats 2000000 in
set_option maxRecDepth 4000 in
theorem writeString_any {bb : Nat} {l x : Str} {w : World} (hd : Bd bb l w) (hl : l.length ≤ 100000000) (hx : x.length ≤ 100000000) (h0 : 0 < x.length) : Calls Tryz.prog 68 #[.pointer (some ⟨bb, 0, none⟩), sV x] w fun e w' => e = .returned (.tuple #[.int .i64 x.length, .nilIface]) ∧ Wr bb w w' ∧ Bd bb (l ++ x) w' := by
  obtain ⟨i5, hi5, hz5, hs5, hy5⟩ := info_parts info5
  go_enter Tryz.func68, Tryz.ntmps68
  go_wp2_with fail
  refine (copyCheck_any hd).mono ?_
  rintro e w1 ⟨rfl, hwr, v, o, hown⟩
  have hlt := o.lt
  obtain ⟨ao, cap, hu, -, -, -⟩ := (Flat.of_own hown).out
  subst hu
  have c1 := o.cell (i := 1) rfl
  have hbw := hd.lt
  have hsz := hwr.size
  have HS := Lib.hid (And.intro hwr o)
  clear hwr o hd
  go_wp2_with (first | (at_builtin; refine wpList_append_str rfl (.tmp 12) (.tmp 13) 61 9 rfl (bb + 1) 5 i5 Tryz.underlying61 Tryz.underlying9 hi5 hz5 hs5 hy5 _ _ _ rfl hown ⟨x.toArray⟩ rfl (by simpa [ByteArray.size] using h0) (by unfold maxLen; simp [ByteArray.size]; omega) (by simp [ByteArray.size]; omega) (by omega) ?_; rintro v6 w6 hown6 hgrow6 hlies6 ⟨a6, m6, p6, rfl⟩; have o6 := own_kept' HS.out.2 hgrow6 (fun e => by have := own_row hown bb e; omega); have k6 := o6.cell (i := 1) rfl; have f6 := o6.frozen 1; have HS6 := Lib.hid (And.intro hown6 (And.intro hgrow6 hlies6)); clear hown6 hgrow6 hlies6 o6))
  obtain ⟨h6a, h6b, h6c⟩ := HS6.out
  have := bd_store (l := l) (l' := l ++ x) HS.out.1 (Or.inr rfl) HS.out.2 hown h6b (by
    rw [strCells_bC] at h6a
    have e1 : bC (l ++ x) = bC l ++ bC x := by simp [bC]
    rw [e1, List.length_append]
    simpa [ByteArray.size] using h6a) h6c
  exact bodyPost_ret (v := .tuple #[.int .i64 x.length, .nilIface]) (by simp [results, Tryz.results68, go_sem]) rfl ⟨rfl, this.1, this.2⟩
end Go.Proofs.YtjpmnlefjmdelaaGreatDoor
namespace Go.Proofs.YtjpmnlefjmdelaaGreatDoor
open Go.RowKit Go.Sort Go.Proofs.LawFrame

def esc (c : UInt8) : Str := if c.toNat = 34 then [92, 34] else if c.toNat = 92 then [92, 92] else if c.toNat = 10 then [92, 110] else [c]
theorem esc_len (c : UInt8) : (esc c).length ≤ 2 := by unfold esc; split; simp; split; simp; split <;> simp
theorem escs_len (x : Str) : (x.flatMap esc).length ≤ 2 * x.length := by
  induction x with
  | nil => simp
  | cons c x ih => rw [List.flatMap_cons, List.length_append, List.length_cons]; have := esc_len c; omega
def quoteR (x : Str) : Str := 34 :: x.flatMap esc ++ [34]

end Go.Proofs.YtjpmnlefjmdelaaGreatDoor
