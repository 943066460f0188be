/- The deletion of one field out of a row that fills its block. A hole in a tree of separate memory: what a pointer into a tree may be changed to. Cutting a part out of a tree of separate memory. The program's Remove. -/
import Derived.Test.YtjpmnlefjmdelaaGreatDoorXtJ
import Derived.Deep.RegionLaw
import Derived.Test.YtjpmnlefjmdelaaGreatDoorRmJ
set_option linter.unusedSimpArgs false
set_option linter.unusedVariables false
namespace Go.Proofs.YtjpmnlefjmdelaaGreatDoor
open Go.RowKit Go.Sort Go.Proofs.LawFrame

theorem wp_clear_run {P : Program} (w : World) {o : Oper} {a : Act} {K : Act → World → Prop} {Q : Exit → Act → World → Prop} (d : Operand) (t : TypeId)
    (ho : o.op = .call { callee := .builtin .clear, args := #[d], argTypes := #[t] }) (v : Value) (hd : a.eval d = v) {v' : Value} {w' : World}
    (hr : (Builtin.clear_ #[t] o.type #[v]).run P w = .ok v' w') (h : K (a.put o.dst v') w') : o.wp P a w K Q := by
  unfold Oper.wp execOp
  simp only [ho, resolve, invoke, builtin, Sem.run_bind, Sem.run_pure, Result.andThen_ok, List.map_toArray, List.map_cons, List.map_nil, hd, hr]
  exact h
theorem wpList_clear_run {P : Program} (w : World) {ops : Array Oper} {rest : List Oper} {o : Oper} {a : Act} {Q : Exit → Act → World → Prop} (hgd : o.guard = none) (d : Operand) (t : TypeId)
    (ho : o.op = .call { callee := .builtin .clear, args := #[d], argTypes := #[t] }) (v : Value) (hd : a.eval d = v) {v' : Value} {w' : World}
    (hr : (Builtin.clear_ #[t] o.type #[v]).run P w = .ok v' w') (h : wpList P ops Q rest (a.put o.dst v') w') : wpList P ops Q (o :: rest) a w :=
  wpList_plain hgd fun _ hK => wp_clear_run w d t ho v hd hr (hK _ _ h)
theorem Own.setRow {w : World} {g : Nat} {cs : List Value} {t : TypeId} (h : Own w g cs t) (ds : List Value) : Own (w.setRow g ds.toArray) g ds t := by
  unfold Own World.setRow
  simp only [Array.getElem?_modify, if_pos]
  rw [show w.heap[g]? = _ from h]; rfl
theorem But.setRow {b : Nat} {w w' : World} (h : But b w w') (ds : Array Value) : But b w (w'.setRow b ds) :=
  ⟨h.os, h.tape, h.output, Nat.le_trans h.size (Nat.le_of_eq (by show _ = (w'.heap.modify b _).size; simp)), fun k hk hne => by
    have e : (w'.setRow b ds).heap[k]? = w'.heap[k]? := by show (w'.heap.modify b _)[k]? = _; rw [Array.getElem?_modify, if_neg (fun e => hne e.symm)]
    exact e.trans (h.block k hk hne)⟩
theorem flat_takeV (fs : List VC) (i : Nat) : (fs.flatMap VC.cells).take (i * 5) = (fs.take i).flatMap VC.cells := by
  induction fs generalizing i with
  | nil => simp
  | cons a fs ih =>
    cases i with
    | zero => simp
    | succ i =>
      rw [List.flatMap_cons, List.take_succ_cons, List.flatMap_cons, List.take_append, List.take_of_length_le (by simp; omega), show (i + 1) * 5 - (VC.cells a).length = i * 5 by simp; omega, ih]
theorem flat_dropV (fs : List VC) (i : Nat) : (fs.flatMap VC.cells).drop (i * 5) = (fs.drop i).flatMap VC.cells := by
  induction fs generalizing i with
  | nil => simp
  | cons a fs ih =>
    cases i with
    | zero => simp
    | succ i =>
      rw [List.flatMap_cons, List.drop_succ_cons, List.drop_append, List.drop_eq_nil_of_le (by simp; omega), show (i + 1) * 5 - (VC.cells a).length = i * 5 by simp; omega, ih, List.nil_append]
theorem own_setCells {b : Nat} {t : TypeId} : ∀ (vs : List Value) {w : World} {cs : List Value} {o : Nat}, Own w b cs t → o + vs.length ≤ cs.length → Own (w.setCells b o vs) b (cs.take o ++ vs ++ cs.drop (o + vs.length)) t
  | [], w, cs, o, h, _ => by
    show Own w b _ t
    simpa using h
  | v :: r, w, cs, o, h, hl => by
    simp only [List.length_cons] at hl
    have ih := own_setCells r (o := o + 1) (h.set o v) (by rw [List.length_set]; omega)
    show Own ((w.setCell ⟨b, o, none⟩ v).setCells b (o + 1) r) b _ t
    have e : (cs.set o v).take (o + 1) ++ r ++ (cs.set o v).drop (o + 1 + r.length) = cs.take o ++ (v :: r) ++ cs.drop (o + (v :: r).length) := by
      have h1 : (cs.set o v).take (o + 1) = cs.take o ++ [v] := by
        rw [List.take_succ_eq_append_getElem (by rw [List.length_set]; omega), List.getElem_set_self, List.take_set_of_le (Nat.le_refl _)]
      rw [h1, List.drop_set_of_lt (by omega)]
      simp only [List.length_cons, List.append_assoc, List.cons_append, List.nil_append]
      rw [show o + 1 + r.length = o + (r.length + 1) by omega]
    rw [← e]; exact ih
theorem but_setCells {b : Nat} : ∀ (vs : List Value) {w w' : World} {o : Nat}, But b w w' → But b w (w'.setCells b o vs)
  | [], _, _, _, h => h
  | v :: r, w, w', o, h => but_setCells r (o := o + 1) (h.set o v)
theorem flat_takeF (fs : List FC) (i : Nat) : (fs.flatMap FC.cells).take (i * 6) = (fs.take i).flatMap FC.cells := by
  induction fs generalizing i with
  | nil => simp
  | cons a fs ih =>
    cases i with
    | zero => simp
    | succ i =>
      rw [List.flatMap_cons, List.take_succ_cons, List.flatMap_cons, List.take_append, List.take_of_length_le (by simp; omega), show (i + 1) * 6 - (FC.cells a).length = i * 6 by simp; omega, ih]
theorem flat_dropF (fs : List FC) (i : Nat) : (fs.flatMap FC.cells).drop (i * 6) = (fs.drop i).flatMap FC.cells := by
  induction fs generalizing i with
  | nil => simp
  | cons a fs ih =>
    cases i with
    | zero => simp
    | succ i =>
      rw [List.flatMap_cons, List.drop_succ_cons, List.drop_append, List.drop_eq_nil_of_le (by simp; omega), show (i + 1) * 6 - (FC.cells a).length = i * 6 by simp; omega, ih, List.nil_append]


theorem zc_F : (Builtin.zeroCells (Value.agg #[.string ⟨#[]⟩, .int .i64 0, .int .i64 0, .string ⟨#[]⟩, .slice none 0 0, .slice none 0 0]).cells 1).toList = FC.cells FC0 := by first | decide | kernel_rfl | simp [Builtin.zeroCells, Value.cells]
theorem zero58 : ∀ w, (zeroValue 58).run Tryz.prog w = .ok (.agg #[.string ⟨#[]⟩, .int .i64 0, .int .i64 0, .string ⟨#[]⟩, .slice none 0 0, .slice none 0 0]) w := by
  intro w; kernel_rfl

set_option maxHeartbeats 4000000 in
set_option maxRecDepth 4000 in
theorem deleteF_any (b n i j : Nat) (fs : List FC) (w : World) (o : Own w b (fs.flatMap FC.cells) 58) (hl : fs.length = n) (hj : j = i + 1) (hi : i < n) (hn : n ≤ 100000) :
    Calls Tryz.prog 77 #[.slice (some ⟨b, 0, none⟩) n n, .int .i64 i, .int .i64 j] w fun e w' => e = .returned (.slice (some ⟨b, 0, none⟩) (n - 1) n) ∧ But b w w' ∧ Own w' b ((fs.eraseIdx i).flatMap FC.cells ++ FC.cells FC0) 58 := by
  obtain ⟨i35, hi35, hzi35, hsi35, hyi35⟩ := info_parts info35
  obtain ⟨news, hnews⟩ : ∃ news, news = (fs.drop j).flatMap FC.cells := ⟨_, rfl⟩
  have hlen : news.length = (n - j) * 6 := by rw [hnews, flat_length FC.cells (m := 6) (fun _ => rfl), List.length_drop, hl]
  have hfl : (fs.flatMap FC.cells).length = n * 6 := by rw [flat_length FC.cells (m := 6) (fun _ => rfl), hl]
  have hone : ∀ u ∈ news, u.oneCell' = true := by
    intro u hu
    rw [hnews] at hu
    obtain ⟨x, _, hx⟩ := List.mem_flatMap.1 hu
    exact six_one' x u hx
  obtain ⟨A, hA, hsrc⟩ : ∃ A : Addr, (if n = j then some (⟨b, 0, none⟩ : Addr) else some ⟨b, j * 6, none⟩) = some A ∧ Hid (∀ t u, news[t]? = some u → w.drew.cell? (A.add t) = some u) := by
    by_cases h : n = j
    · refine ⟨⟨b, 0, none⟩, by simp [h], Lib.hid fun t u hu => ?_⟩
      have h0 : news.length = 0 := by rw [hlen, h]; simp
      rw [List.length_eq_zero_iff.1 h0] at hu
      simp at hu
    · refine ⟨⟨b, j * 6, none⟩, by simp [h], Lib.hid fun t u hu => ?_⟩
      rw [Addr.add_lit]
      refine o.drew.cell ?_
      rw [hnews, ← flat_dropF, List.getElem?_drop] at hu
      exact hu
  have s1 : Hid (news.length = (n - j) * 6) := Lib.hid hlen
  have s2 : Hid (∀ u ∈ news, u.oneCell' = true) := Lib.hid hone
  have s3 : Hid (∀ t, t < news.length → (w.drew.cell? ⟨b, 0 + i * 6 + t, none⟩).isSome = true ∧ w.drew.frozen? ⟨b, 0 + i * 6 + t, none⟩ = false) := Lib.hid fun t ht => by
    rw [hlen] at ht
    have hlt : 0 + i * 6 + t < (fs.flatMap FC.cells).length := by omega
    exact ⟨by rw [o.drew.cell (List.getElem?_eq_getElem hlt)]; rfl, o.drew.frozen _⟩
  obtain ⟨W1, hW1⟩ : ∃ W1, W1 = w.drew.setCells b (0 + i * 6) news := ⟨_, rfl⟩
  have o1 := own_setCells news (o := 0 + i * 6) o.drew (by rw [hlen, hfl]; omega)
  have k1 := but_setCells news (o := 0 + i * 6) (But.refl b w).drew
  rw [← hW1] at o1 k1
  obtain ⟨cur, hcur⟩ : ∃ cur, cur = (fs.flatMap FC.cells).take (0 + i * 6) ++ news ++ (fs.flatMap FC.cells).drop (0 + i * 6 + news.length) := ⟨_, rfl⟩
  rw [← hcur] at o1
  have hcl : cur.length = n * 6 := by rw [hcur]; simp only [List.length_append, List.length_take, List.length_drop, hfl, hlen]; omega
  have hct : cur.take ((i + (n - j)) * 6) = (fs.eraseIdx i).flatMap FC.cells := by
    rw [hcur, Nat.zero_add, flat_takeF, List.take_append_of_le_length (by simp only [List.length_append, flat_length FC.cells (m := 6) (fun _ => rfl), List.length_take, hl, hlen]; rw [Nat.min_eq_left (by omega), ← Nat.add_mul]; exact Nat.le_refl _), List.take_of_length_le (by simp only [List.length_append, flat_length FC.cells (m := 6) (fun _ => rfl), List.length_take, hl, hlen]; rw [Nat.min_eq_left (by omega), ← Nat.add_mul]; exact Nat.le_refl _), hnews, ← List.flatMap_append, List.eraseIdx_eq_take_drop_succ, hj]
  have hcr := fun ty c => run_clear_rowk (P := Tryz.prog) W1 23 58 ty (.agg #[.string ⟨#[]⟩, .int .i64 0, .int .i64 0, .string ⟨#[]⟩, .slice none 0 0, .slice none 0 0]) Tryz.underlying23 zero58 b ((i + (n - j)) * 6) 1 c (by decide) cur.toArray 58 o1 (by rw [zc_F]; simp only [List.size_toArray, hcl]; show _ + 6 ≤ _; omega) (by rw [zc_F]; exact six_one' _)
  rw [zc_F] at hcr
  have hn1 : n - (i + (n - j)) = 1 := by omega
  obtain ⟨W2, hW2⟩ : ∃ W2, W2 = W1.setRow b (cur.toArray.toList.take ((i + (n - j)) * 6) ++ FC.cells FC0 ++ cur.toArray.toList.drop ((i + (n - j)) * 6 + (FC.cells FC0).length)).toArray := ⟨_, rfl⟩
  have hfin : Hid (But b w W2 ∧ Own W2 b ((fs.eraseIdx i).flatMap FC.cells ++ FC.cells FC0) 58) := Lib.hid (by
    subst hW2
    refine ⟨k1.setRow _, ?_⟩
    have e : cur.toArray.toList.take ((i + (n - j)) * 6) ++ FC.cells FC0 ++ cur.toArray.toList.drop ((i + (n - j)) * 6 + (FC.cells FC0).length) = (fs.eraseIdx i).flatMap FC.cells ++ FC.cells FC0 := by
      rw [show cur.toArray.toList = cur from rfl, hct, List.drop_eq_nil_of_le (by rw [hcl]; show _ ≤ _ + 6; omega), List.append_nil]
    rw [e]
    exact Own.setRow o1 _)
  have hcr2 := fun ty c => (hcr ty c).trans (by rw [← hW2])
  have HCR := Lib.hid hcr2
  have HW := Lib.hid hW1
  have hlt : i < j := by omega
  have hic : i ≤ n := by omega
  have hjc : j ≤ n := by omega
  have hn9 : n ≤ 9223372036854775807 := by omega
  have HJ := Lib.hid hj
  clear hcr hcr2 hW1 hW2 hct hcl hcur o1 k1 hone hlen hnews hfl o hl hj
  go_enter Tryz.func77, Tryz.ntmps77
  go_wp2_with fail
  go_region_law (refine step_append_room rfl (.tmp 22) (.tmp 25) 23 rfl 58 i35 6 Tryz.underlying23 hi35 hsi35 b 0 i n (by simp [Act.eval, Act.put]) A (n - j) (n - j) news (by simp [Act.eval, Act.put]) s1.out hsrc.out s2.out (by omega) s3.out ?_; rw [← HW.out])
  go_wp2_with (rw [hn1]; refine wpList_clear_run _ rfl (.tmp 31) 23 rfl _ rfl (HCR.out _ _) ?_)
  go_ret
  refine ⟨by rw [show n - 1 = i + (n - j) by have := HJ.out; omega]; rfl, hfin.out⟩

theorem zc_V : (Builtin.zeroCells (Value.agg #[.int .i64 0, .int .i64 0, .string ⟨#[]⟩, .slice none 0 0, .slice none 0 0]).cells 1).toList = VC.cells VC0 := by first | decide | kernel_rfl | simp [Builtin.zeroCells, Value.cells]
theorem zero25 : ∀ w, (zeroValue 25).run Tryz.prog w = .ok (.agg #[.int .i64 0, .int .i64 0, .string ⟨#[]⟩, .slice none 0 0, .slice none 0 0]) w := by
  intro w; kernel_rfl

set_option maxHeartbeats 4000000 in
set_option maxRecDepth 4000 in
theorem deleteV_any (b n i j : Nat) (fs : List VC) (w : World) (o : Own w b (fs.flatMap VC.cells) 25) (hl : fs.length = n) (hj : j = i + 1) (hi : i < n) (hn : n ≤ 100000) :
    Calls Tryz.prog 78 #[.slice (some ⟨b, 0, none⟩) n n, .int .i64 i, .int .i64 j] w fun e w' => e = .returned (.slice (some ⟨b, 0, none⟩) (n - 1) n) ∧ But b w w' ∧ Own w' b ((fs.eraseIdx i).flatMap VC.cells ++ VC.cells VC0) 25 := by
  obtain ⟨i35, hi35, hzi35, hsi35, hyi35⟩ := info_parts info25
  obtain ⟨news, hnews⟩ : ∃ news, news = (fs.drop j).flatMap VC.cells := ⟨_, rfl⟩
  have hlen : news.length = (n - j) * 5 := by rw [hnews, flat_length VC.cells (m := 5) (fun _ => rfl), List.length_drop, hl]
  have hfl : (fs.flatMap VC.cells).length = n * 5 := by rw [flat_length VC.cells (m := 5) (fun _ => rfl), hl]
  have hone : ∀ u ∈ news, u.oneCell' = true := by
    intro u hu
    rw [hnews] at hu
    obtain ⟨x, _, hx⟩ := List.mem_flatMap.1 hu
    exact five_one x u hx
  obtain ⟨A, hA, hsrc⟩ : ∃ A : Addr, (if n = j then some (⟨b, 0, none⟩ : Addr) else some ⟨b, j * 5, none⟩) = some A ∧ Hid (∀ t u, news[t]? = some u → w.drew.cell? (A.add t) = some u) := by
    by_cases h : n = j
    · refine ⟨⟨b, 0, none⟩, by simp [h], Lib.hid fun t u hu => ?_⟩
      have h0 : news.length = 0 := by rw [hlen, h]; simp
      rw [List.length_eq_zero_iff.1 h0] at hu
      simp at hu
    · refine ⟨⟨b, j * 5, none⟩, by simp [h], Lib.hid fun t u hu => ?_⟩
      rw [Addr.add_lit]
      refine o.drew.cell ?_
      rw [hnews, ← flat_dropV, List.getElem?_drop] at hu
      exact hu
  have s1 : Hid (news.length = (n - j) * 5) := Lib.hid hlen
  have s2 : Hid (∀ u ∈ news, u.oneCell' = true) := Lib.hid hone
  have s3 : Hid (∀ t, t < news.length → (w.drew.cell? ⟨b, 0 + i * 5 + t, none⟩).isSome = true ∧ w.drew.frozen? ⟨b, 0 + i * 5 + t, none⟩ = false) := Lib.hid fun t ht => by
    rw [hlen] at ht
    have hlt : 0 + i * 5 + t < (fs.flatMap VC.cells).length := by omega
    exact ⟨by rw [o.drew.cell (List.getElem?_eq_getElem hlt)]; rfl, o.drew.frozen _⟩
  obtain ⟨W1, hW1⟩ : ∃ W1, W1 = w.drew.setCells b (0 + i * 5) news := ⟨_, rfl⟩
  have o1 := own_setCells news (o := 0 + i * 5) o.drew (by rw [hlen, hfl]; omega)
  have k1 := but_setCells news (o := 0 + i * 5) (But.refl b w).drew
  rw [← hW1] at o1 k1
  obtain ⟨cur, hcur⟩ : ∃ cur, cur = (fs.flatMap VC.cells).take (0 + i * 5) ++ news ++ (fs.flatMap VC.cells).drop (0 + i * 5 + news.length) := ⟨_, rfl⟩
  rw [← hcur] at o1
  have hcl : cur.length = n * 5 := by rw [hcur]; simp only [List.length_append, List.length_take, List.length_drop, hfl, hlen]; omega
  have hct : cur.take ((i + (n - j)) * 5) = (fs.eraseIdx i).flatMap VC.cells := by
    rw [hcur, Nat.zero_add, flat_takeV, List.take_append_of_le_length (by simp only [List.length_append, flat_length VC.cells (m := 5) (fun _ => rfl), List.length_take, hl, hlen]; rw [Nat.min_eq_left (by omega), ← Nat.add_mul]; exact Nat.le_refl _), List.take_of_length_le (by simp only [List.length_append, flat_length VC.cells (m := 5) (fun _ => rfl), List.length_take, hl, hlen]; rw [Nat.min_eq_left (by omega), ← Nat.add_mul]; exact Nat.le_refl _), hnews, ← List.flatMap_append, List.eraseIdx_eq_take_drop_succ, hj]
  have hcr := fun ty c => run_clear_rowk (P := Tryz.prog) W1 22 25 ty (.agg #[.int .i64 0, .int .i64 0, .string ⟨#[]⟩, .slice none 0 0, .slice none 0 0]) Tryz.underlying22 zero25 b ((i + (n - j)) * 5) 1 c (by decide) cur.toArray 25 o1 (by rw [zc_V]; simp only [List.size_toArray, hcl]; show _ + 5 ≤ _; omega) (by rw [zc_V]; exact five_one _)
  rw [zc_V] at hcr
  have hn1 : n - (i + (n - j)) = 1 := by omega
  obtain ⟨W2, hW2⟩ : ∃ W2, W2 = W1.setRow b (cur.toArray.toList.take ((i + (n - j)) * 5) ++ VC.cells VC0 ++ cur.toArray.toList.drop ((i + (n - j)) * 5 + (VC.cells VC0).length)).toArray := ⟨_, rfl⟩
  have hfin : Hid (But b w W2 ∧ Own W2 b ((fs.eraseIdx i).flatMap VC.cells ++ VC.cells VC0) 25) := Lib.hid (by
    subst hW2
    refine ⟨k1.setRow _, ?_⟩
    have e : cur.toArray.toList.take ((i + (n - j)) * 5) ++ VC.cells VC0 ++ cur.toArray.toList.drop ((i + (n - j)) * 5 + (VC.cells VC0).length) = (fs.eraseIdx i).flatMap VC.cells ++ VC.cells VC0 := by
      rw [show cur.toArray.toList = cur from rfl, hct, List.drop_eq_nil_of_le (by rw [hcl]; show _ ≤ _ + 5; omega), List.append_nil]
    rw [e]
    exact Own.setRow o1 _)
  have hcr2 := fun ty c => (hcr ty c).trans (by rw [← hW2])
  have HCR := Lib.hid hcr2
  have HW := Lib.hid hW1
  have hlt : i < j := by omega
  have hic : i ≤ n := by omega
  have hjc : j ≤ n := by omega
  have hn9 : n ≤ 9223372036854775807 := by omega
  have HJ := Lib.hid hj
  clear hcr hcr2 hW1 hW2 hct hcl hcur o1 k1 hone hlen hnews hfl o hl hj
  go_enter Tryz.func78, Tryz.ntmps78
  go_wp2_with fail
  go_region_law (refine step_append_room rfl (.tmp 22) (.tmp 25) 22 rfl 25 i35 5 Tryz.underlying22 hi35 hsi35 b 0 i n (by simp [Act.eval, Act.put]) A (n - j) (n - j) news (by simp [Act.eval, Act.put]) s1.out hsrc.out s2.out (by omega) s3.out ?_; rw [← HW.out])
  go_wp2_with (rw [hn1]; refine wpList_clear_run _ rfl (.tmp 31) 22 rfl _ rfl (HCR.out _ _) ?_)
  go_ret
  refine ⟨by rw [show n - 1 = i + (n - j) by have := HJ.out; omega]; rfl, hfin.out⟩
end Go.Proofs.YtjpmnlefjmdelaaGreatDoor
namespace Go.Proofs.YtjpmnlefjmdelaaGreatDoor
open Go.RowKit Go.Sort Go.Proofs.LawFrame

/-- the tree with the part that the path leads to replaced -/
def replAt : List S → T → T → T
  | [], x, _ => x
  | s :: q, x, t => match place s t with
    | none => t
    | some i => match kidAt s i t with
      | none => t
      | some c => putAt s i (replAt q x c) t
theorem findT_snoc {s : S} {u : T} : ∀ {q : List S} {t : T}, findT t q = some u → findT t (q ++ [s]) = kid s u
  | [], t, h => by
    simp only [findT] at h; cases h
    show findT _ [s] = _
    rw [findT_step]
    cases kid s u <;> rfl
  | a :: q, t, h => by
    rw [findT_step] at h
    show findT t (a :: (q ++ [s])) = _
    rw [findT_step]
    cases hk : kid a t with
    | none => rw [hk] at h; cases h
    | some c => rw [hk] at h; exact findT_snoc h
theorem findT_last {s : S} {u : T} : ∀ {q : List S} {t : T}, findT t (q ++ [s]) = some u → ∃ pu i, findT t q = some pu ∧ place s pu = some i ∧ kidAt s i pu = some u
  | [], t, h => by
    have h' : findT t [s] = some u := h
    rw [findT_step] at h'
    unfold kid at h'
    cases hp : place s t with
    | none => rw [hp] at h'; cases h'
    | some i =>
      rw [hp] at h'
      cases hk : kidAt s i t with
      | none => simp only [hk] at h'; cases h'
      | some c =>
        simp only [hk] at h'
        have h2 : some c = some u := h'
        exact ⟨t, i, rfl, hp, by rw [hk, h2]⟩
  | a :: q, t, h => by
    have h' : findT t (a :: (q ++ [s])) = some u := h
    rw [findT_step] at h'
    cases hk : kid a t with
    | none => rw [hk] at h'; cases h'
    | some c =>
      rw [hk] at h'
      obtain ⟨pu, i, h1, h2, h3⟩ := findT_last (t := c) h'
      exact ⟨pu, i, by rw [findT_step, hk]; exact h1, h2, h3⟩
theorem replAt_snoc {s : S} {u u1 x : T} {i : Nat} (hp : place s u = some i) (hk : kidAt s i u = some u1) : ∀ {q : List S} {t : T}, findT t q = some u → replAt (q ++ [s]) x t = replAt q (putAt s i x u) t
  | [], t, h => by
    simp only [findT] at h; cases h
    show replAt [s] x u = putAt s i x u
    simp only [replAt, hp, hk]
  | a :: q, t, h => by
    rw [findT_step] at h
    show replAt (a :: (q ++ [s])) x t = replAt (a :: q) _ t
    unfold kid at h
    cases hp2 : place a t with
    | none => rw [hp2] at h; cases h
    | some j =>
      rw [hp2] at h
      cases hk2 : kidAt a j t with
      | none => simp only [hk2] at h; cases h
      | some c =>
        simp only [hk2] at h
        simp only [replAt, hp2, hk2]
        rw [replAt_snoc hp hk h]
theorem remT_one (s : S) (t : T) : remT [s] t = match place s t with
    | none => none
    | some i => some (cutAt s i t) := by rw [remT]; rfl
theorem remT_two (s s' : S) (p' : List S) (t : T) : remT (s :: s' :: p') t = match place s t with
    | none => none
    | some i => match kidAt s i t with
      | none => none
      | some c => match remT (s' :: p') c with
        | none => none
        | some c' => some (putAt s i c' t) := by rw [remT]; rfl
theorem remT_snoc {s : S} {u : T} {i : Nat} (hp : place s u = some i) : ∀ {q : List S} {t : T}, findT t q = some u → remT (q ++ [s]) t = some (replAt q (cutAt s i u) t)
  | [], t, h => by
    simp only [findT] at h; cases h
    show remT [s] u = some (cutAt s i u)
    rw [remT_one, hp]
  | a :: q, t, h => by
    rw [findT_step] at h
    unfold kid at h
    cases hp2 : place a t with
    | none => rw [hp2] at h; cases h
    | some j =>
      rw [hp2] at h
      cases hk2 : kidAt a j t with
      | none => simp only [hk2] at h; cases h
      | some c =>
        simp only [hk2] at h
        have ih := remT_snoc hp h
        cases hq : q ++ [s] with
        | nil => simp at hq
        | cons s' p' =>
          rw [hq] at ih
          show remT (a :: (q ++ [s])) t = _
          rw [hq, remT_two]
          simp only [replAt, hp2, hk2, ih]
theorem remT_none {s : S} (hs : 0 ≤ s.ix) : ∀ {q : List S} {t : T}, (∀ a ∈ q, 0 ≤ a.ix) → findT t (q ++ [s]) = none → remT (q ++ [s]) t = none
  | [], t, _, h => by
    have h' : findT t [s] = none := h
    rw [findT_step] at h'
    unfold kid at h'
    show remT [s] t = none
    rw [remT_one]
    cases hp : place s t with
    | none => rfl
    | some i =>
      rw [hp] at h'
      obtain ⟨c, hc⟩ := kid_some hs hp
      simp only [hc, findT] at h'
      cases h'
  | a :: q, t, hq, h => by
    have h' : findT t (a :: (q ++ [s])) = none := h
    rw [findT_step] at h'
    show remT (a :: (q ++ [s])) t = none
    cases hqs : q ++ [s] with
    | nil => simp at hqs
    | cons s' p' =>
      rw [remT_two]
      cases hp : place a t with
      | none => rfl
      | some i =>
        obtain ⟨c, hc⟩ := kid_some (hq a List.mem_cons_self) hp
        unfold kid at h'
        rw [hp] at h'
        simp only [hc] at h'
        have ih := remT_none hs (t := c) (fun b hb => hq b (List.mem_cons_of_mem _ hb)) h'
        rw [hqs] at ih
        simp only [hc, ih]

theorem VAt.det {w : World} {b o : Nat} {c d : VC} (h : VAt w b o c) (k : VAt w b o d) : c = d := by
  obtain ⟨ck, cn, cs, la, ln, lc, fa, fn, fc⟩ := c
  obtain ⟨dk, dn, ds, dla, dln, dlc, dfa, dfn, dfc⟩ := d
  have e0 := Option.some.inj (h.k.symm.trans k.k)
  have e1 := Option.some.inj (h.n.symm.trans k.n)
  have e2 := Option.some.inj (h.s.symm.trans k.s)
  have e3 := Option.some.inj (h.l.symm.trans k.l)
  have e4 := Option.some.inj (h.f.symm.trans k.f)
  simp only [Value.int.injEq, Value.slice.injEq, true_and] at e0 e1 e3 e4
  have e2' : cs = ds := by
    have := congrArg (fun v => match v with | Value.string s => s.data.toList | _ => []) e2
    simpa [sV] using this
  obtain ⟨rfl, rfl, rfl⟩ := e3
  obtain ⟨rfl, rfl, rfl⟩ := e4
  subst e0 e1 e2'
  rfl
theorem VAt.mid {w : World} {b : Nat} {X Y : List Value} {c : VC} {ty : TypeId} {o : Nat} (h : Own w b (X ++ (c.cells ++ Y)) ty) (hX : X.length = o) : VAt w b o c := by
  subst hX
  have g : ∀ j v, c.cells[j]? = some v → w.cell? ⟨b, X.length + j, none⟩ = some v := fun j v hv => by
    refine h.cell ?_
    rw [List.getElem?_append_right (by omega), show X.length + j - X.length = j by omega, List.getElem?_append_left (List.getElem?_eq_some_iff.1 hv).1]
    exact hv
  exact ⟨g 0 _ rfl, g 1 _ rfl, g 2 _ rfl, g 3 _ rfl, g 4 _ rfl⟩

/-- the pointer's tree may be put anew, and the whole is then the tree with that part replaced -/
structure Hole (W : World) (base rb : Nat) (t0 : T) (q : List S) (u : T) (b o : Nat) (d : VC) : Prop where
  at' : findT t0 q = some u
  out : ∃ (lo hi : Nat) (X Y : List Value) (ty : TypeId), IsS W lo hi d u ∧ base ≤ lo ∧ hi ≤ W.heap.size ∧ base ≤ b ∧ (b < lo ∨ hi ≤ b) ∧ X.length = o ∧ Own W b (X ++ (d.cells ++ Y)) ty ∧
    ∀ (w' : World) (d' : VC) (u' : T), Own w' b (X ++ (d'.cells ++ Y)) ty → Is w' d' u' → (∀ k, base ≤ k → k < W.heap.size → k ≠ b → (k < lo ∨ hi ≤ k) → w'.heap[k]? = W.heap[k]?) → ∃ c', VAt w' rb 0 c' ∧ Is w' c' (replAt q u' t0)
theorem hole_root {W : World} {base hi rb : Nat} {t0 : T} {d : VC} (hS : IsS W base hi d t0) (h1 : hi ≤ W.heap.size) (h2 : hi ≤ rb) (h3 : base ≤ rb) (hO : Own W rb d.cells 25) : Hole W base rb t0 [] t0 rb 0 d :=
  ⟨rfl, base, hi, [], [], 25, hS, Nat.le_refl _, h1, h3, Or.inr h2, rfl, by simpa using hO, fun w' d' u' hO' hI _ => ⟨d', VAt.mid hO' rfl, hI⟩⟩
theorem split_at {α : Type} {l : List α} {i : Nat} {x : α} (h : l[i]? = some x) : l = l.take i ++ x :: l.drop (i + 1) := by
  obtain ⟨hi, hx⟩ := List.getElem?_eq_some_iff.1 h
  rw [← hx, ← List.drop_eq_getElem_cons hi, List.take_append_drop]
theorem set_at {α : Type} {l : List α} {i : Nat} {y : α} (h : i < l.length) : l.set i y = l.take i ++ y :: l.drop (i + 1) := by
  rw [List.set_eq_take_append_cons_drop, if_pos h]

set_option maxHeartbeats 2000000 in
theorem hole_step {W : World} {base rb : Nat} {t0 : T} {q : List S} {s : S} {u : T} {b o : Nat} {d : VC} {i : Nat} {u1 : T} {b1 o1 : Nat} {d1 : VC} (h : Hole W base rb t0 q u b o d) (hpl : place s u = some i) (hk : kidAt s i u = some u1) (hd : Down s i d b1 o1) (hv1 : VAt W b1 o1 d1) :
    Hole W base rb t0 (q ++ [s]) u1 b1 o1 d1 := by
  have hfd : findT t0 (q ++ [s]) = some u1 := by rw [findT_snoc h.at']; unfold kid; rw [hpl]; exact hk
  have hrp := fun x => replAt_snoc (x := x) hpl hk h.at'
  refine ⟨hfd, ?_⟩
  obtain ⟨lo, hi, X, Y, ty, hS, hb1, hb2, hb3, hb4, hX, hO, hC⟩ := h.out
  clear hfd
  cases hS with
  | mk cs fs bl bf P Q h1 h2 h3 h4 h5 h6 h7 hl1 hl2 hl3 hf1 hf2 hf3 hf4 =>
  rename_i l f
  have hP := fun i (hi : i ≤ l.length) => chain_le h3 hi (Nat.le_refl _)
  have hQ := fun i (hi : i ≤ f.length) => chain_le h6 hi (Nat.le_refl _)
  have hP0 := fun i (hi : i ≤ l.length) => chain_le h3 (Nat.zero_le i) hi
  have hQ0 := fun i (hi : i ≤ f.length) => chain_le h6 (Nat.zero_le i) hi
  have hPij := fun i j (h : i ≤ j) (hj : j ≤ l.length) => chain_le h3 h hj
  have hQij := fun i j (h : i ≤ j) (hj : j ≤ f.length) => chain_le h6 h hj
  have e1 := hP 0 (Nat.zero_le _)
  have e2 := hQ 0 (Nat.zero_le _)
  by_cases hs1 : s.k = 1
  · have hk2 : (f[i]?).map (·.2) = some u1 := by simpa [kidAt, hs1] using hk
    obtain ⟨p, hpi, hpu⟩ : ∃ p, f[i]? = some p ∧ p.2 = u1 := by
      cases hp : f[i]? with
      | none => rw [hp] at hk2; cases hk2
      | some p => rw [hp] at hk2; exact ⟨p, rfl, by simpa using hk2⟩
    have hi0 := (List.getElem?_eq_some_iff.1 hpi).1
    have hxl : i < fs.length := by omega
    obtain ⟨x, hx⟩ : ∃ x, fs[i]? = some x := ⟨_, List.getElem?_eq_getElem hxl⟩
    rcases hf2.out with ⟨h0, -⟩ | ⟨h0, he, hm, ho⟩
    · omega
    unfold Down at hd
    rw [if_pos hs1] at hd
    obtain ⟨oo, hd1, hd2⟩ := hd
    have he' : d.fa = some ⟨bf, 0, none⟩ := by have := he; simp only [Value.slice.injEq] at this; exact this.1
    rw [he'] at hd1
    obtain ⟨rfl, rfl⟩ : bf = b1 ∧ 0 = oo := by simpa using hd1
    have hsp := split_at hx
    have hfm : fs.flatMap FC.cells = ((fs.take i).flatMap FC.cells ++ [sV x.x]) ++ (x.v.cells ++ (fs.drop (i + 1)).flatMap FC.cells) := by
      conv => lhs; rw [hsp]
      simp
    have hX1 : (((fs.take i).flatMap FC.cells ++ [sV x.x])).length = o1 := by
      simp only [List.length_append, List.length_singleton, flat_length FC.cells (m := 6) (fun _ => rfl), List.length_take]
      rw [Nat.min_eq_left (by omega)]; omega
    rw [hfm] at ho
    have hdd : d1 = x.v := hv1.det (VAt.mid ho hX1)
    subst hdd
    have hbf := h5 h0
    have q1 := hQ (i + 1) (by omega)
    have q2 := hQ0 i (by omega)
    refine ⟨Q i, Q (i + 1), ((fs.take i).flatMap FC.cells ++ [sV x.x]), (fs.drop (i + 1)).flatMap FC.cells, 58, hpu ▸ hf4 i x p hx hpi, by omega, by omega, by omega, Or.inl (by omega), hX1, ho, fun w' d' u' hO' hI' hK' => ?_⟩
    have hKb : w'.heap[b]? = W.heap[b]? := hK' b hb3 hO.lt (by omega) (by omega)
    rw [hrp]
    refine hC w' d _ (hKb.trans hO) ?_ (fun k k1 k2 k3 k4 => hK' k k1 k2 (by omega) (by omega))
    have hkeep : ∀ k, lo ≤ k → k < hi → k ≠ bf → (k < Q i ∨ Q (i + 1) ≤ k) → w'.heap[k]? = W.heap[k]? := fun k k1 k2 k3 k4 => hK' k (by omega) (by omega) k3 k4
    have hput : putAt s i u' (.mk d.k d.n d.s l f) = .mk d.k d.n d.s l (f.set i (p.1, u')) := by simp only [putAt, hs1, if_true, hpi]
    rw [hput]
    have hO2 : Own w' bf ((fs.set i ⟨x.x, d'⟩).flatMap FC.cells) 58 := by
      rw [set_at hxl]
      have : (fs.take i ++ (⟨x.x, d'⟩ : FC) :: fs.drop (i + 1)).flatMap FC.cells = (fs.take i).flatMap FC.cells ++ [sV x.x] ++ (d'.cells ++ (fs.drop (i + 1)).flatMap FC.cells) := by simp
      rw [this]; exact hO'
    have hrow : RowB w' bf 58 (.slice d.fa d.fn d.fc) (f.set i (p.1, u')).length ((fs.set i ⟨x.x, d'⟩).flatMap FC.cells) := ⟨Or.inr ⟨by simpa using h0, by simpa using he, by simpa using hm, hO2⟩⟩
    refine .mk cs (fs.set i ⟨x.x, d'⟩) hl1 (hl2.keep (fun hn => hkeep bl (by have := (h2 hn).1; omega) (by have := (h2 hn).2; omega) (by have := (h2 hn).2; omega) (Or.inl (by have := (h2 hn).2; omega)))).flat (fun j y tt hy ht => ((hl3 j y tt hy ht).keep (fun k k1 k2 => ?_)).is) (by simpa using hf1) hrow.flat (fun j y pp hy ht => ?_) (fun j y pp hy ht => ?_)
    · have hj := (List.getElem?_eq_some_iff.1 ht).1
      have := hP (j + 1) (by omega); have := hP0 j (by omega)
      exact hkeep k (by omega) (by omega) (by omega) (Or.inl (by omega))
    · by_cases hj : i = j
      · subst hj
        rw [List.getElem?_set_self (by omega)] at hy ht
        cases hy; cases ht
        exact hf3 i x p hx hpi
      · rw [List.getElem?_set_ne hj] at hy ht
        exact hf3 j y pp hy ht
    · by_cases hj : i = j
      · subst hj
        rw [List.getElem?_set_self (by omega)] at hy ht
        cases hy; cases ht
        exact hI'
      · rw [List.getElem?_set_ne hj] at hy ht
        refine ((hf4 j y pp hy ht).keep (fun k k1 k2 => ?_)).is
        have hjl := (List.getElem?_eq_some_iff.1 ht).1
        have := hQ (j + 1) (by omega); have := hQ0 j (by omega)
        rcases Nat.lt_or_gt_of_ne hj with hij | hij
        · have := hQij (i + 1) j (by omega) (by omega)
          exact hkeep k (by omega) (by omega) (by omega) (Or.inr (by omega))
        · have := hQij (j + 1) i (by omega) (by omega)
          exact hkeep k (by omega) (by omega) (by omega) (Or.inl (by omega))
  · have hpi : l[i]? = some u1 := by simpa [kidAt, hs1] using hk
    have hi0 := (List.getElem?_eq_some_iff.1 hpi).1
    have hxl : i < cs.length := by omega
    obtain ⟨x, hx⟩ : ∃ x, cs[i]? = some x := ⟨_, List.getElem?_eq_getElem hxl⟩
    rcases hl2.out with ⟨h0, -⟩ | ⟨h0, he, hm, ho⟩
    · omega
    unfold Down at hd
    rw [if_neg hs1] at hd
    obtain ⟨oo, hd1, hd2⟩ := hd
    have he' : d.la = some ⟨bl, 0, none⟩ := by have := he; simp only [Value.slice.injEq] at this; exact this.1
    rw [he'] at hd1
    obtain ⟨rfl, rfl⟩ : bl = b1 ∧ 0 = oo := by simpa using hd1
    have hsp := split_at hx
    have hfm : cs.flatMap VC.cells = ((cs.take i).flatMap VC.cells) ++ (x.cells ++ (cs.drop (i + 1)).flatMap VC.cells) := by
      conv => lhs; rw [hsp]
      simp
    have hX1 : (((cs.take i).flatMap VC.cells)).length = o1 := by
      simp only [ flat_length VC.cells (m := 5) (fun _ => rfl), List.length_take]
      rw [Nat.min_eq_left (by omega)]; omega
    rw [hfm] at ho
    have hdd : d1 = x := hv1.det (VAt.mid ho hX1)
    subst hdd
    have hbf := h2 h0
    have q1 := hP (i + 1) (by omega)
    have q2 := hP0 i (by omega)
    refine ⟨P i, P (i + 1), ((cs.take i).flatMap VC.cells), (cs.drop (i + 1)).flatMap VC.cells, 25, hl3 i _ u1 hx hpi, by omega, by omega, by omega, Or.inl (by omega), hX1, ho, fun w' d' u' hO' hI' hK' => ?_⟩
    have hKb : w'.heap[b]? = W.heap[b]? := hK' b hb3 hO.lt (by omega) (by omega)
    rw [hrp]
    refine hC w' d _ (hKb.trans hO) ?_ (fun k k1 k2 k3 k4 => hK' k k1 k2 (by omega) (by omega))
    have hkeep : ∀ k, lo ≤ k → k < hi → k ≠ bl → (k < P i ∨ P (i + 1) ≤ k) → w'.heap[k]? = W.heap[k]? := fun k k1 k2 k3 k4 => hK' k (by omega) (by omega) k3 k4
    have hput : putAt s i u' (.mk d.k d.n d.s l f) = .mk d.k d.n d.s (l.set i u') f := by simp only [putAt, hs1, if_false]
    rw [hput]
    have hO2 : Own w' bl ((cs.set i d').flatMap VC.cells) 25 := by
      rw [set_at hxl]
      have : (cs.take i ++ d' :: cs.drop (i + 1)).flatMap VC.cells = (cs.take i).flatMap VC.cells ++ (d'.cells ++ (cs.drop (i + 1)).flatMap VC.cells) := by simp
      rw [this]; exact hO'
    have hrow : RowB w' bl 25 (.slice d.la d.ln d.lc) (l.set i u').length ((cs.set i d').flatMap VC.cells) := ⟨Or.inr ⟨by simpa using h0, by simpa using he, by simpa using hm, hO2⟩⟩
    refine .mk (cs.set i d') fs (by simpa using hl1) hrow.flat (fun j y pp hy ht => ?_) hf1 (hf2.keep (fun hn => hkeep bf (by have := (h5 hn).1; omega) (by have := (h5 hn).2; omega) (by have := (h5 hn).1; omega) (Or.inr (by have := (h5 hn).1; omega)))).flat hf3 (fun j y tt hy ht => ((hf4 j y tt hy ht).keep (fun k k1 k2 => ?_)).is)
    · by_cases hj : i = j
      · subst hj
        rw [List.getElem?_set_self (by omega)] at hy ht
        cases hy; cases ht
        exact hI'
      · rw [List.getElem?_set_ne hj] at hy ht
        refine ((hl3 j y pp hy ht).keep (fun k k1 k2 => ?_)).is
        have hjl := (List.getElem?_eq_some_iff.1 ht).1
        have := hP (j + 1) (by omega); have := hP0 j (by omega)
        rcases Nat.lt_or_gt_of_ne hj with hij | hij
        · have := hPij (i + 1) j (by omega) (by omega)
          exact hkeep k (by omega) (by omega) (by omega) (Or.inr (by omega))
        · have := hPij (j + 1) i (by omega) (by omega)
          exact hkeep k (by omega) (by omega) (by omega) (Or.inl (by omega))
    · have hj := (List.getElem?_eq_some_iff.1 ht).1
      have := hQ (j + 1) (by omega); have := hQ0 j (by omega)
      exact hkeep k (by omega) (by omega) (by omega) (Or.inr (by omega))
end Go.Proofs.YtjpmnlefjmdelaaGreatDoor
namespace Go.Proofs.YtjpmnlefjmdelaaGreatDoor
open Go.RowKit Go.Sort Go.Proofs.LawFrame

theorem get_erase {α : Type} {l : List α} {i j : Nat} {x : α} (h : (l.eraseIdx i)[j]? = some x) : ∃ m, l[m]? = some x ∧ (m = j ∧ j < i ∨ m = j + 1 ∧ i ≤ j) := by
  rw [List.getElem?_eraseIdx] at h
  by_cases hj : j < i
  · rw [if_pos hj] at h; exact ⟨j, h, Or.inl ⟨rfl, hj⟩⟩
  · rw [if_neg hj] at h; exact ⟨j + 1, h, Or.inr ⟨rfl, by omega⟩⟩
theorem set_cells {X Y : List Value} {c : VC} {o j : Nat} (hX : X.length = o) (hj : j < 5) (v : Value) : (X ++ (c.cells ++ Y)).set (o + j) v = X ++ (c.cells.set j v ++ Y) := by
  subst hX
  rw [List.set_append_right _ _ (by omega), show X.length + j - X.length = j by omega, List.set_append_left _ _ (by simpa using hj)]

structure CutF (W : World) (base rb : Nat) (t0 : T) (q : List S) (s : S) (i : Nat) (pu : T) (b o : Nat) (d : VC) (bf n : Nat) (fs : List FC) (X Y : List Value) (ty : TypeId) : Prop where
  fa : d.fa = some ⟨bf, 0, none⟩
  fn : d.fn = n
  fc : d.fc = n
  lt : i < n
  le : n ≤ 10000
  own : Own W bf (fs.flatMap FC.cells) 58
  len : fs.length = n
  bf1 : base ≤ bf
  ne : bf ≠ b
  b1 : base ≤ b
  X1 : X.length = o
  ownb : Own W b (X ++ (d.cells ++ Y)) ty
  fin : ∀ w' : World, Own w' b (X ++ (VC.cells {d with fn := n - 1} ++ Y)) ty → Own w' bf ((fs.eraseIdx i).flatMap FC.cells ++ FC.cells FC0) 58 → (∀ k, base ≤ k → k < W.heap.size → k ≠ b → k ≠ bf → w'.heap[k]? = W.heap[k]?) → ∃ c', VAt w' rb 0 c' ∧ Is w' c' (replAt q (cutAt s i pu) t0)

set_option maxHeartbeats 2000000 in
theorem cutF_any {W : World} {base rb : Nat} {t0 : T} {q : List S} {s : S} {u : T} {b o : Nat} {d : VC} {i : Nat} (h : Hole W base rb t0 q u b o d) (hix : 0 ≤ s.ix) (hpl : place s u = some i) (hs1 : s.k = 1) (hz : u.size ≤ 10000) :
    ∃ (bf n : Nat) (fs : List FC) (X Y : List Value) (ty : TypeId), CutF W base rb t0 q s i u b o d bf n fs X Y ty := by
  obtain ⟨lo, hi, X, Y, ty, hS, hb1, hb2, hb3, hb4, hX, hO, hC⟩ := h.out
  cases hS with
  | mk cs fs bl bf P Q h1 h2 h3 h4 h5 h6 h7 hl1 hl2 hl3 hf1 hf2 hf3 hf4 =>
  rename_i l f
  have hP := fun i (hi : i ≤ l.length) => chain_le h3 hi (Nat.le_refl _)
  have hQ := fun i (hi : i ≤ f.length) => chain_le h6 hi (Nat.le_refl _)
  have hP0 := fun i (hi : i ≤ l.length) => chain_le h3 (Nat.zero_le i) hi
  have hQ0 := fun i (hi : i ≤ f.length) => chain_le h6 (Nat.zero_le i) hi
  have e1 := hP 0 (Nat.zero_le _)
  have e2 := hQ 0 (Nat.zero_le _)
  have hlt := place_lt hix hpl
  rw [if_pos hs1] at hlt
  have hlz := len_sizeL l
  have hfz := len_sizeF f
  have hlz0 := sizeL_nonneg l
  have hfz0 := sizeF_nonneg f
  simp only [T.size] at hz
  rcases hf2.out with ⟨h0, -⟩ | ⟨h0, he, hm, ho⟩
  · omega
  simp only [Value.slice.injEq] at he
  obtain ⟨he1, he2, he3⟩ := he
  have hbf := h5 h0
  refine ⟨bf, f.length, fs, X, Y, ty, he1, he2, he3, hlt, by omega, ho, hf1, by omega, by omega, hb3, hX, hO, fun w' hOb hOf hK => ?_⟩
  refine hC w' _ _ hOb ?_ (fun k k1 k2 k3 k4 => hK k k1 k2 k3 (by omega))
  have hkeep : ∀ k, lo ≤ k → k < hi → k ≠ bf → w'.heap[k]? = W.heap[k]? := fun k k1 k2 k3 => hK k (by omega) (by omega) (by omega) k3
  have hcut : cutAt s i (.mk d.k d.n d.s l f) = .mk d.k d.n d.s l (f.eraseIdx i) := by simp only [cutAt, hs1, if_true]
  rw [hcut]
  have hel : (f.eraseIdx i).length = f.length - 1 := by rw [List.length_eraseIdx, if_pos hlt]
  have hel2 : (fs.eraseIdx i).length = f.length - 1 := by rw [List.length_eraseIdx, if_pos (by omega), hf1]
  have hrow : Flat w' (.slice d.fa (f.length - 1) d.fc) (f.eraseIdx i).length ((fs.eraseIdx i).flatMap FC.cells) := by
    rw [he1, he3, hel]
    refine ⟨_, _, rfl, by omega, hm, fun _ => ⟨bf, 0, rfl, hOf.lt, fun j x hx => ?_⟩⟩
    rw [Nat.zero_add]
    refine hOf.cell ?_
    rw [List.getElem?_append_left (List.getElem?_eq_some_iff.1 hx).1]
    exact hx
  refine Is.mk (c := {d with fn := f.length - 1}) cs (fs.eraseIdx i) hl1 (hl2.keep (fun hn => hkeep bl (by have := (h2 hn).1; omega) (by have := (h2 hn).2; omega) (by have := (h2 hn).2; omega))).flat (fun j y tt hy ht => ((hl3 j y tt hy ht).keep (fun k k1 k2 => ?_)).is) (by rw [hel, hel2]) hrow (fun j y pp hy ht => ?_) (fun j y pp hy ht => ?_)
  · have hj := (List.getElem?_eq_some_iff.1 ht).1
    have := hP (j + 1) (by omega); have := hP0 j (by omega)
    exact hkeep k (by omega) (by omega) (by omega)
  · obtain ⟨m, hm1, hm2⟩ := get_erase hy
    obtain ⟨m', hm3, hm4⟩ := get_erase ht
    obtain rfl : m = m' := by omega
    exact hf3 m y pp hm1 hm3
  · obtain ⟨m, hm1, hm2⟩ := get_erase hy
    obtain ⟨m', hm3, hm4⟩ := get_erase ht
    obtain rfl : m = m' := by omega
    refine ((hf4 m y pp hm1 hm3).keep (fun k k1 k2 => ?_)).is
    have hjl := (List.getElem?_eq_some_iff.1 hm3).1
    have := hQ (m + 1) (by omega); have := hQ0 m (by omega)
    exact hkeep k (by omega) (by omega) (by omega)

structure CutV (W : World) (base rb : Nat) (t0 : T) (q : List S) (s : S) (i : Nat) (pu : T) (b o : Nat) (d : VC) (bf n : Nat) (fs : List VC) (X Y : List Value) (ty : TypeId) : Prop where
  fa : d.la = some ⟨bf, 0, none⟩
  fn : d.ln = n
  fc : d.lc = n
  lt : i < n
  le : n ≤ 10000
  own : Own W bf (fs.flatMap VC.cells) 25
  len : fs.length = n
  bf1 : base ≤ bf
  ne : bf ≠ b
  b1 : base ≤ b
  X1 : X.length = o
  ownb : Own W b (X ++ (d.cells ++ Y)) ty
  fin : ∀ w' : World, Own w' b (X ++ (VC.cells {d with ln := n - 1} ++ Y)) ty → Own w' bf ((fs.eraseIdx i).flatMap VC.cells ++ VC.cells VC0) 25 → (∀ k, base ≤ k → k < W.heap.size → k ≠ b → k ≠ bf → w'.heap[k]? = W.heap[k]?) → ∃ c', VAt w' rb 0 c' ∧ Is w' c' (replAt q (cutAt s i pu) t0)

set_option maxHeartbeats 2000000 in
theorem cutV_any {W : World} {base rb : Nat} {t0 : T} {q : List S} {s : S} {u : T} {b o : Nat} {d : VC} {i : Nat} (h : Hole W base rb t0 q u b o d) (hix : 0 ≤ s.ix) (hpl : place s u = some i) (hs1 : ¬ s.k = 1) (hz : u.size ≤ 10000) :
    ∃ (bf n : Nat) (fs : List VC) (X Y : List Value) (ty : TypeId), CutV W base rb t0 q s i u b o d bf n fs X Y ty := by
  obtain ⟨lo, hi, X, Y, ty, hS, hb1, hb2, hb3, hb4, hX, hO, hC⟩ := h.out
  cases hS with
  | mk cs fs bl bf P Q h1 h2 h3 h4 h5 h6 h7 hl1 hl2 hl3 hf1 hf2 hf3 hf4 =>
  rename_i l f
  have hP := fun i (hi : i ≤ l.length) => chain_le h3 hi (Nat.le_refl _)
  have hQ := fun i (hi : i ≤ f.length) => chain_le h6 hi (Nat.le_refl _)
  have hP0 := fun i (hi : i ≤ l.length) => chain_le h3 (Nat.zero_le i) hi
  have hQ0 := fun i (hi : i ≤ f.length) => chain_le h6 (Nat.zero_le i) hi
  have e1 := hP 0 (Nat.zero_le _)
  have e2 := hQ 0 (Nat.zero_le _)
  have hlt := place_lt hix hpl
  rw [if_neg hs1] at hlt
  have hlz := len_sizeL l
  have hfz := len_sizeF f
  have hlz0 := sizeL_nonneg l
  have hfz0 := sizeF_nonneg f
  simp only [T.size] at hz
  rcases hl2.out with ⟨h0, -⟩ | ⟨h0, he, hm, ho⟩
  · omega
  simp only [Value.slice.injEq] at he
  obtain ⟨he1, he2, he3⟩ := he
  have hbf := h2 h0
  refine ⟨bl, l.length, cs, X, Y, ty, he1, he2, he3, hlt, by omega, ho, hl1, by omega, by omega, hb3, hX, hO, fun w' hOb hOf hK => ?_⟩
  refine hC w' _ _ hOb ?_ (fun k k1 k2 k3 k4 => hK k k1 k2 k3 (by omega))
  have hkeep : ∀ k, lo ≤ k → k < hi → k ≠ bl → w'.heap[k]? = W.heap[k]? := fun k k1 k2 k3 => hK k (by omega) (by omega) (by omega) k3
  have hcut : cutAt s i (.mk d.k d.n d.s l f) = .mk d.k d.n d.s (l.eraseIdx i) f := by simp only [cutAt, hs1, if_false]
  rw [hcut]
  have hel : (l.eraseIdx i).length = l.length - 1 := by rw [List.length_eraseIdx, if_pos hlt]
  have hel2 : (cs.eraseIdx i).length = l.length - 1 := by rw [List.length_eraseIdx, if_pos (by omega), hl1]
  have hrow : Flat w' (.slice d.la (l.length - 1) d.lc) (l.eraseIdx i).length ((cs.eraseIdx i).flatMap VC.cells) := by
    rw [he1, he3, hel]
    refine ⟨_, _, rfl, by omega, hm, fun _ => ⟨bl, 0, rfl, hOf.lt, fun j x hx => ?_⟩⟩
    rw [Nat.zero_add]
    refine hOf.cell ?_
    rw [List.getElem?_append_left (List.getElem?_eq_some_iff.1 hx).1]
    exact hx
  refine Is.mk (c := {d with ln := l.length - 1}) (cs.eraseIdx i) fs (by rw [hel, hel2]) hrow (fun j y pp hy ht => ?_) hf1 (hf2.keep (fun hn => hkeep bf (by have := (h5 hn).1; omega) (by have := (h5 hn).2; omega) (by have := (h5 hn).1; omega))).flat hf3 (fun j y tt hy ht => ((hf4 j y tt hy ht).keep (fun k k1 k2 => ?_)).is)
  · obtain ⟨m, hm1, hm2⟩ := get_erase hy
    obtain ⟨m', hm3, hm4⟩ := get_erase ht
    obtain rfl : m = m' := by omega
    refine ((hl3 m y pp hm1 hm3).keep (fun k k1 k2 => ?_)).is
    have hjl := (List.getElem?_eq_some_iff.1 hm3).1
    have := hP (m + 1) (by omega); have := hP0 m (by omega)
    exact hkeep k (by omega) (by omega) (by omega)
  · have hj := (List.getElem?_eq_some_iff.1 ht).1
    have := hQ (j + 1) (by omega); have := hQ0 j (by omega)
    exact hkeep k (by omega) (by omega) (by omega)

theorem flatS_pre {w : World} {ao : Option Addr} {cp : Nat} {q : List S} {s : S} (h : Stps w (.slice ao (q ++ [s]).length cp) (q ++ [s])) : Stps w (.slice ao q.length cp) q := by
  obtain ⟨a, c, h1, h2, h3, h4⟩ := Flat.out h
  simp only [Value.slice.injEq] at h1
  obtain ⟨rfl, -, rfl⟩ := h1
  have hl : (q ++ [s]).length = q.length + 1 := by simp
  refine Flat.mk ⟨ao, cp, rfl, by omega, h3, fun hq => ?_⟩
  obtain ⟨b, off, k1, k2, k3⟩ := h4 (by omega)
  refine ⟨b, off, k1, k2, fun j x hx => k3 j x ?_⟩
  rw [List.flatMap_append, List.getElem?_append_left (List.getElem?_eq_some_iff.1 hx).1]
  exact hx
end Go.Proofs.YtjpmnlefjmdelaaGreatDoor
namespace Go.Proofs.YtjpmnlefjmdelaaGreatDoor
open Go.RowKit Go.Sort Go.Proofs.LawFrame

/-- what Remove answers -/
structure QRm (w : World) (t : T) (p : List S) (e : Ending) (w' : World) : Prop where
  below : Below w.heap.size w w'
  no : ((¬ p = [] ∧ pathOk p = true) → remT p t = none) → e = .returned (.tuple #[.agg #[.int .i64 0, .int .i64 0, .string ⟨#[]⟩, .slice none 0 0, .slice none 0 0], .bool false])
  ok : (¬ p = [] ∧ pathOk p = true) → ∀ u, remT p t = some u → ∃ c' : VC, e = .returned (.tuple #[c'.val, .bool true]) ∧ Is w' c' u
theorem VAt.same {w w' : World} {b o : Nat} {c : VC} (h : VAt w b o c) (e : w'.heap[b]? = w.heap[b]?) : VAt w' b o c := by
  have g : ∀ j, w'.cell? ⟨b, j, none⟩ = w.cell? ⟨b, j, none⟩ := fun j => by unfold World.cell?; simp only [e]
  exact ⟨by rw [g]; exact h.k, by rw [g]; exact h.n, by rw [g]; exact h.s, by rw [g]; exact h.l, by rw [g]; exact h.f⟩
theorem but_put5 (U : World) (b : Nat) (v0 v1 v2 v3 v4 : Value) : But b U (put5 U b v0 v1 v2 v3 v4) := by
  unfold put5; exact (((((But.refl _ _).set _ _).set _ _).set _ _).set _ _).set _ _
theorem snoc_rm {p : List S} (h : ¬ p = []) : ∃ q s, p = q ++ [s] := ⟨p.dropLast, p.getLast h, (List.dropLast_concat_getLast h).symm⟩

set_option maxHeartbeats 8000000 in
set_option maxRecDepth 4000 in
theorem pathRemove_any (c : VC) (t : T) (v : Value) (p : List S) (w : World) (hI : Is w c t) (hz : t.size ≤ 4000) (hp : Stps w v p) (hn : p.length ≤ 10000) : Calls Tryz.prog 36 #[c.val, v] w (QRm w t p) := by
  obtain ⟨ck, cn, cs, la, ln, lc, fa, fn, fc⟩ := c
  show Calls Tryz.prog 36 #[.agg #[.int .i64 ck, .int .i64 cn, sV cs, .slice la ln lc, .slice fa fn fc], v] w _
  obtain ⟨ao, cp, rfl, hpc, hpm⟩ := Stps.form hp
  unfold maxLen at hpm
  have hb0 : Below w.heap.size w ((w.alloc (.cells #[.int .i64 ck, .int .i64 cn, sV cs, .slice la ln lc, .slice fa fn fc] 25)).alloc (.cells #[.int .i64 0, .int .i64 0, .string ⟨#[]⟩, .slice none 0 0, .slice none 0 0] 25)) := ((Below.refl _ _).alloc (Nat.le_refl _) _).alloc (by simp) _
  have oB : Own ((w.alloc (.cells #[.int .i64 ck, .int .i64 cn, sV cs, .slice la ln lc, .slice fa fn fc] 25)).alloc (.cells #[.int .i64 0, .int .i64 0, .string ⟨#[]⟩, .slice none 0 0, .slice none 0 0] 25)) w.heap.size [.int .i64 ck, .int .i64 cn, sV cs, .slice la ln lc, .slice fa fn fc] 25 := (Own.new _ _ _).alloc _
  have oR : Own ((w.alloc (.cells #[.int .i64 ck, .int .i64 cn, sV cs, .slice la ln lc, .slice fa fn fc] 25)).alloc (.cells #[.int .i64 0, .int .i64 0, .string ⟨#[]⟩, .slice none 0 0, .slice none 0 0] 25)) (w.heap.size + 1) [.int .i64 0, .int .i64 0, .string ⟨#[]⟩, .slice none 0 0, .slice none 0 0] 25 := Own.new_at (by rw [size_alloc]) _ _
  have HS := Lib.hid (And.intro hb0 (And.intro oB (And.intro oR (And.intro (hI.all hb0) (Flat.all hp hb0)))))
  clear hb0 oB oR hI hp
  go_enter Tryz.func36, Tryz.ntmps36
  go_upto_region 1 with (fail)
  change Code.wp Tryz.prog _ _ _ ((w.alloc (.cells #[.int .i64 ck, .int .i64 cn, sV cs, .slice la ln lc, .slice fa fn fc] 25)).alloc (.cells #[.int .i64 0, .int .i64 0, .string ⟨#[]⟩, .slice none 0 0, .slice none 0 0] 25))
  generalize ((w.alloc (.cells #[.int .i64 ck, .int .i64 cn, sV cs, .slice la ln lc, .slice fa fn fc] 25)).alloc (.cells #[.int .i64 0, .int .i64 0, .string ⟨#[]⟩, .slice none 0 0, .slice none 0 0] 25)) = V at *
  by_cases hp0 : p = []
  · subst hp0
    have oFin := HS.out.2.2.1
    have q0 := oFin.cell (i := 0) rfl
    have q1 := oFin.cell (i := 1) rfl
    have q2 := oFin.cell (i := 2) rfl
    have q3 := oFin.cell (i := 3) rfl
    have q4 := oFin.cell (i := 4) rfl
    have g0 := oFin.frozen 0
    have g1 := oFin.frozen 1
    have g2 := oFin.frozen 2
    have g3 := oFin.frozen 3
    have g4 := oFin.frozen 4
    have HU := Lib.hid (And.intro (own_put5 oFin (.int .i64 0) (.int .i64 0) (.string ⟨#[]⟩) (.slice none 0 0) (.slice none 0 0)) (below_put5 (b := w.heap.size + 1) HS.out.1 (Nat.le_succ _) (.int .i64 0) (.int .i64 0) (.string ⟨#[]⟩) (.slice none 0 0) (.slice none 0 0)))
    clear oFin
    go_wp2
    clear q0 q1 q2 q3 q4 g0 g1 g2 g3 g4
    change bodyPost Tryz.prog Tryz.f36 _ _ _ (put5 V (w.heap.size + 1) (.int .i64 0) (.int .i64 0) (.string ⟨#[]⟩) (.slice none 0 0) (.slice none 0 0))
    generalize put5 V (w.heap.size + 1) (.int .i64 0) (.int .i64 0) (.string ⟨#[]⟩) (.slice none 0 0) (.slice none 0 0) = U at *
    have c0 := HU.out.1.cell (i := 0) rfl
    have c1 := HU.out.1.cell (i := 1) rfl
    have c2 := HU.out.1.cell (i := 2) rfl
    have c3 := HU.out.1.cell (i := 3) rfl
    have c4 := HU.out.1.cell (i := 4) rfl
    exact bodyPost_ret (v := .tuple #[.agg #[.int .i64 0, .int .i64 0, .string ⟨#[]⟩, .slice none 0 0, .slice none 0 0], .bool false]) (by simp [results, Tryz.results36, go_sem, c0, c1, c2, c3, c4]) rfl ⟨HU.out.2, fun _ => rfl, fun h u hu => absurd rfl h.1⟩
  obtain ⟨q, s, rfl⟩ := snoc_rm hp0
  have hpl : (q ++ [s]).length = q.length + 1 := by simp
  have hp1 : ((q.length : Int) + 1 == 0) = false := by simp; omega
  have hnq : q.length + 1 ≤ 10000 := by rw [← hpl]; exact hn
  have hqc : q.length + 1 ≤ cp := by rw [← hpl]; exact hpc
  have hqc2 : q.length ≤ cp := by omega
  have HP0 := Lib.hid hp0
  clear hp0
  have C := Lib.hid (pathValid_any _ (q ++ [s]) V HS.out.2.2.2.2 (by omega))
  rw [hpl] at *
  go_wp2_with fail
  refine C.out.mono ?_
  rintro e w1 ⟨rfl, hb1⟩
  clear C
  have HS1 := Lib.hid (And.intro (below_all HS.out.1 hb1) (And.intro (HS.out.2.1.all hb1) (And.intro (HS.out.2.2.1.all hb1) (And.intro (HS.out.2.2.2.1.all hb1) (Flat.all HS.out.2.2.2.2 hb1)))))
  clear HS hb1
  cases hok : pathOk (q ++ [s])
  · have HF : Hid (∀ h : ¬ (q ++ [s]) = [] ∧ pathOk (q ++ [s]) = true, remT (q ++ [s]) t = none) := Lib.hid (fun h => by have := h.2; rw [hok] at this; cases this)
    clear hok
    have oFin := HS1.out.2.2.1
    have q0 := oFin.cell (i := 0) rfl
    have q1 := oFin.cell (i := 1) rfl
    have q2 := oFin.cell (i := 2) rfl
    have q3 := oFin.cell (i := 3) rfl
    have q4 := oFin.cell (i := 4) rfl
    have g0 := oFin.frozen 0
    have g1 := oFin.frozen 1
    have g2 := oFin.frozen 2
    have g3 := oFin.frozen 3
    have g4 := oFin.frozen 4
    have HU := Lib.hid (And.intro (own_put5 oFin (.int .i64 0) (.int .i64 0) (.string ⟨#[]⟩) (.slice none 0 0) (.slice none 0 0)) (below_put5 (b := w.heap.size + 1) HS1.out.1 (Nat.le_succ _) (.int .i64 0) (.int .i64 0) (.string ⟨#[]⟩) (.slice none 0 0) (.slice none 0 0)))
    clear oFin
    go_wp2
    clear q0 q1 q2 q3 q4 g0 g1 g2 g3 g4
    change bodyPost Tryz.prog Tryz.f36 _ _ _ (put5 w1 (w.heap.size + 1) (.int .i64 0) (.int .i64 0) (.string ⟨#[]⟩) (.slice none 0 0) (.slice none 0 0))
    generalize put5 w1 (w.heap.size + 1) (.int .i64 0) (.int .i64 0) (.string ⟨#[]⟩) (.slice none 0 0) (.slice none 0 0) = U at *
    have c0 := HU.out.1.cell (i := 0) rfl
    have c1 := HU.out.1.cell (i := 1) rfl
    have c2 := HU.out.1.cell (i := 2) rfl
    have c3 := HU.out.1.cell (i := 3) rfl
    have c4 := HU.out.1.cell (i := 4) rfl
    exact bodyPost_ret (v := .tuple #[.agg #[.int .i64 0, .int .i64 0, .string ⟨#[]⟩, .slice none 0 0, .slice none 0 0], .bool false]) (by simp [results, Tryz.results36, go_sem, c0, c1, c2, c3, c4]) rfl ⟨HU.out.2, fun _ => rfl, fun h u hu => (by rw [HF.out h] at hu; cases hu)⟩
  have hall : ∀ a ∈ q ++ [s], stepOk a = true := (pathOk_all hok).2
  have hsok : stepOk s = true := hall s (by simp)
  have C := Lib.hid (find_any (fun _ _ _ _ _ => True) (q ++ [s]) _ w1 HS1.out.2.2.2.2 (by omega) hall t (by omega) w.heap.size 0 ⟨ck, cn, cs, la, ln, lc, fa, fn, fc⟩ (VAt.own HS1.out.2.1) HS1.out.2.2.2.1 trivial (fun _ _ _ _ _ _ _ _ _ _ _ _ _ _ _ _ _ _ _ _ => trivial))
  rw [show (q ++ [s]).length = q.length + 1 by simp] at C
  have HALL := Lib.hid (And.intro hall hok)
  clear hall hok
  go_wp2_with fail
  refine C.out.mono ?_
  rintro e w2 hres
  clear C
  have hb2 := hres.below
  cases hf : findT t (q ++ [s]) with
  | none =>
    obtain rfl := hres.no hf
    have HF : Hid (∀ h : ¬ (q ++ [s]) = [] ∧ pathOk (q ++ [s]) = true, remT (q ++ [s]) t = none) := Lib.hid (fun h => remT_none (stepOk_ix hsok).1 (fun a ha => (stepOk_ix (HALL.out.1 a (by simp [ha]))).1) hf)
    have HS2 := Lib.hid (And.intro (below_all HS1.out.1 hb2) (HS1.out.2.2.1.all hb2))
    clear hres hf hb2 HS1
    have oFin := HS2.out.2
    have q0 := oFin.cell (i := 0) rfl
    have q1 := oFin.cell (i := 1) rfl
    have q2 := oFin.cell (i := 2) rfl
    have q3 := oFin.cell (i := 3) rfl
    have q4 := oFin.cell (i := 4) rfl
    have g0 := oFin.frozen 0
    have g1 := oFin.frozen 1
    have g2 := oFin.frozen 2
    have g3 := oFin.frozen 3
    have g4 := oFin.frozen 4
    have HU := Lib.hid (And.intro (own_put5 oFin (.int .i64 0) (.int .i64 0) (.string ⟨#[]⟩) (.slice none 0 0) (.slice none 0 0)) (below_put5 (b := w.heap.size + 1) HS2.out.1 (Nat.le_succ _) (.int .i64 0) (.int .i64 0) (.string ⟨#[]⟩) (.slice none 0 0) (.slice none 0 0)))
    clear oFin
    go_wp2
    clear q0 q1 q2 q3 q4 g0 g1 g2 g3 g4
    change bodyPost Tryz.prog Tryz.f36 _ _ _ (put5 w2 (w.heap.size + 1) (.int .i64 0) (.int .i64 0) (.string ⟨#[]⟩) (.slice none 0 0) (.slice none 0 0))
    generalize put5 w2 (w.heap.size + 1) (.int .i64 0) (.int .i64 0) (.string ⟨#[]⟩) (.slice none 0 0) (.slice none 0 0) = U at *
    have c0 := HU.out.1.cell (i := 0) rfl
    have c1 := HU.out.1.cell (i := 1) rfl
    have c2 := HU.out.1.cell (i := 2) rfl
    have c3 := HU.out.1.cell (i := 3) rfl
    have c4 := HU.out.1.cell (i := 4) rfl
    exact bodyPost_ret (v := .tuple #[.agg #[.int .i64 0, .int .i64 0, .string ⟨#[]⟩, .slice none 0 0, .slice none 0 0], .bool false]) (by simp [results, Tryz.results36, go_sem, c0, c1, c2, c3, c4]) rfl ⟨HU.out.2, fun _ => rfl, fun h u hu => (by rw [HF.out h] at hu; cases hu)⟩
  | some u =>
    obtain ⟨b, o, d, rfl, -, -, -, -⟩ := hres.ok u hf
    obtain ⟨pu, i, hf1, hf2, hf3⟩ := findT_last hf
    have HF := Lib.hid (And.intro hf1 (And.intro hf2 (remT_snoc hf2 hf1)))
    have HS2 := Lib.hid (And.intro (below_all HS1.out.1 hb2) (And.intro (HS1.out.2.1.all hb2) (And.intro (HS1.out.2.2.1.all hb2) (And.intro (HS1.out.2.2.2.1.all hb2) (Flat.all HS1.out.2.2.2.2 hb2)))))
    clear hres hf hb2 HS1 hf1 hf2 hf3
    have b0 := HS2.out.2.1.cell (i := 0) rfl
    have b1 := HS2.out.2.1.cell (i := 1) rfl
    have b2 := HS2.out.2.1.cell (i := 2) rfl
    have b3 := HS2.out.2.1.cell (i := 3) rfl
    have b4 := HS2.out.2.1.cell (i := 4) rfl
    have CD := Lib.hid (duplicate_any ⟨ck, cn, cs, la, ln, lc, fa, fn, fc⟩ t w2 HS2.out.2.2.2.1 hz)
    go_wp2_with fail
    refine CD.out.mono ?_
    rintro e w3 ⟨⟨ek, en, es, ela, eln, elc, efa, efn, efc⟩, hi, rfl, hb3, hlo, hhi, hD⟩
    clear CD b0 b1 b2 b3 b4
    have hw2 : w.heap.size + 1 < w2.heap.size := HS2.out.2.2.1.lt
    have hbA := below_alloc w3 (.cells #[.int .i64 ek, .int .i64 en, sV es, .slice ela eln elc, .slice efa efn efc] 25)
    have oA := Own.new w3 [.int .i64 ek, .int .i64 en, sV es, .slice ela eln elc, .slice efa efn efc] 25
    have HS3 := Lib.hid (And.intro (below_all (below_all HS2.out.1 hb3) hbA) (And.intro ((HS2.out.2.2.1.all hb3).all hbA) (And.intro (Flat.all (Flat.all HS2.out.2.2.2.2 hb3) hbA) (And.intro oA (hD.all hbA hhi)))))
    have HSZ := Lib.hid (And.intro hlo (And.intro hhi (size_alloc w3 (.cells #[.int .i64 ek, .int .i64 en, sV es, .slice ela eln elc, .slice efa efn efc] 25))))
    clear HS2 hb3 hD hlo hhi hbA oA
    go_upto_region 4 with (fail)
    change Code.wp Tryz.prog _ _ _ (w3.alloc (.cells #[.int .i64 ek, .int .i64 en, sV es, .slice ela eln elc, .slice efa efn efc] 25))
    generalize w3.alloc (.cells #[.int .i64 ek, .int .i64 en, sV es, .slice ela eln elc, .slice efa efn efc] 25) = V3 at *
    generalize hrb : w3.heap.size = rb at *
    generalize hbs : w2.heap.size = base at *
    have hH : Hole V3 base rb t [] t rb 0 ⟨ek, en, es, ela, eln, elc, efa, efn, efc⟩ := hole_root HS3.out.2.2.2.2 (by have := HSZ.out; omega) (by have := HSZ.out; omega) (by have := HSZ.out; omega) HS3.out.2.2.2.1
    have C := Lib.hid (find_any (Hole V3 base rb t) q _ V3 (flatS_pre HS3.out.2.2.1) (by omega) (fun a ha => HALL.out.1 a (by simp [ha])) t (by omega) rb 0 ⟨ek, en, es, ela, eln, elc, efa, efn, efc⟩ (VAt.own HS3.out.2.2.2.1) HS3.out.2.2.2.2.is hH (fun q s u b o d i u' b' o' d' h1 _ _ _ h2 h3 h4 h5 _ => hole_step h1 h2 h3 h4 h5))
    clear hH
    go_upto_region 5 with (fail)
    go_wp2_with fail
    refine C.out.mono ?_
    rintro e w4 hres
    clear C
    obtain ⟨b, o, ⟨dk, dn, ds, dla, dln, dlc, dfa, dfn, dfc⟩, rfl, hva, hId, hsz, hJ⟩ := hres.ok pu HF.out.1
    have hb4 := hres.below
    have hix := (stepOk_ix hsok).1
    have hx : (q ++ [s])[q.length]? = some s := by simp
    obtain ⟨sb, off, rfl, hbl, q0, q1, q2, q3⟩ := Stps.at HS3.out.2.2.1 hb4 hx
    obtain ⟨sk, sn, si, sv⟩ := s
    simp only at q0 q1 q2 q3 hix
    have hdV := hva.all hb4
    have hIV := hId.all hb4
    have z0 := cell_regrown hdV.k
    have z1 := cell_regrown hdV.n
    have z2 := cell_regrown hdV.s
    have z3 := cell_regrown hdV.l
    have z4 := cell_regrown hdV.f
    simp only at z0 z1 z2 z3 z4
    have y0 := cell_regrown q0
    have y1 := cell_regrown q1
    have y2 := cell_regrown q2
    have y3 := cell_regrown q3
    obtain ⟨R, hR⟩ : ∃ R : Int, ixO (place ⟨sk, sn, si, sv⟩ pu) = R := ⟨_, rfl⟩
    have HIV := Lib.hid (And.intro hIV hsz)
    have cP : ∀ dd os, Calls Tryz.prog 76 #[.agg #[.int .i64 dk, .int .i64 dn, sV ds, .slice dla dln dlc, .slice dfa dfn dfc], .agg #[.int .i64 sk, sV sn, .int .i64 si, sV sv]] (grow (redrawn w4 dd) os) fun e w'' => e = .returned (.int .i64 R) ∧ ∃ p : Regrown, w'' = grow (redrawn w4 p.d) p.os := fun dd os => Calls.regrown_of (by rw [← hR]; exact placeOf_any ⟨dk, dn, ds, dla, dln, dlc, dfa, dfn, dfc⟩ pu ⟨sk, sn, si, sv⟩ _ (HIV.out.1.all (below_regrown w4 dd os)) HIV.out.2 hix)
    have HRR := Lib.hid hR
    have HJ := Lib.hid hJ
    have HVA := Lib.hid hva
    have HQ := Lib.hid q0
    have HB4 := Lib.hid hb4
    clear hR hdV hIV hb4 hva hId hJ hres q0 q1 q2 q3 hbl hx
    go_upto_region 6 with (fail)
    refine wp_region_quiet_below (by kernel_rfl) (by kernel_rfl) ?_
    repeat (first | go_big_quiet_step ((first | with_reducible exact cP _ _)) | quiet_step (first | with_reducible exact cP _ _))
    refine wpQuiet_nil ?_
    intro _ hw'
    obtain ⟨⟨dq, osq⟩, hw''⟩ := hw'
    subst hw''
    have hbW := below_regrown w4 dq osq
    have hbV := below_all HB4.out hbW
    have y0 := cell_regrown (d := dq) (os := osq) HQ.out
    clear z0 z1 z2 z3 z4 y1 y2 y3 cP HIV
    generalize grow (redrawn w4 dq) osq = W at *
    have hR : R = (i : Int) := by rw [← HRR.out, HF.out.2.1]; rfl
    subst hR
    have HW := Lib.hid hbV
    have hva := HVA.out.all hbV
    have z3 := hva.l
    have z4 := hva.f
    simp only at z3 z4
    have hbase := HSZ.out
    clear hva hbW hbV HVA HB4 HQ HRR
    by_cases h1 : sk = 1
    · subst h1
      obtain ⟨bf, n, fs, X, Y, ty, hc⟩ := cutF_any HJ.out (s := ⟨1, sn, si, sv⟩) hix HF.out.2.1 rfl hsz
      obtain ⟨hc1, hc2, hc3, hlt, hle, hown, hlen, hbf1, hne, hbb1, hX, hownb, hfin⟩ := hc
      simp only at hc1 hc2 hc3
      subst hc1 hc2
      have hc3 := hc3.symm
      subst hc3
      have hbW := HW.out
      have oF := hown.all hbW
      have oB := hownb.all hbW
      have C0 := deleteF_any bf dfn i (i + 1) fs W oF hlen rfl hlt (by omega)
      rw [show (((i + 1 : Nat) : Nat) : Int) = (i : Int) + 1 by simp] at C0
      have C := Lib.hid C0
      have HOB := Lib.hid (And.intro oB (And.intro hown.lt hownb.lt))
      have HFN := Lib.hid hfin
      have HX := Lib.hid hX
      clear C0 oF oB hown hownb hfin hbW hX
      go_upto_region 8 with (fail)
      go_wp2_with fail
      refine C.out.mono ?_
      rintro e W2 ⟨rfl, hbut, hown2⟩
      clear C
      have oB2 : Own W2 b (X ++ (VC.cells ⟨dk, dn, ds, dla, dln, dlc, some ⟨bf, 0, none⟩, dfn, dfn⟩ ++ Y)) ty := by
        unfold Own; rw [hbut.block b HOB.out.1.lt (fun e => hne e.symm)]; exact HOB.out.1
      have z : W2.cell? ⟨b, o + 4, none⟩ = some (.slice (some ⟨bf, 0, none⟩) dfn dfn) := (VAt.mid oB2 HX.out).f
      have g := oB2.frozen (o + 4)
      have oB3 := oB2.set (o + 4) (.slice (some ⟨bf, 0, none⟩) (dfn - 1) dfn)
      rw [set_cells HX.out (by decide)] at oB3
      have hown3 := hown2.set_ne hne (o + 4) (.slice (some ⟨bf, 0, none⟩) (dfn - 1) dfn)
      have hb3 : Below w.heap.size w (W2.setCell ⟨b, o + 4, none⟩ (.slice (some ⟨bf, 0, none⟩) (dfn - 1) dfn)) := below_set (But.below hbut (below_all HS3.out.1 HW.out) (by omega) (by have := (below_all HS3.out.1 HW.out).size; omega)) (by omega) _
      have oR3 : Own (W2.setCell ⟨b, o + 4, none⟩ (.slice (some ⟨bf, 0, none⟩) (dfn - 1) dfn)) (w.heap.size + 1) _ 25 := Own.set_ne (by unfold Own; rw [hbut.block (w.heap.size + 1) ((HS3.out.2.1.all HW.out).lt) (by omega)]; exact HS3.out.2.1.all HW.out) (by omega) _ _
      have hfr : ∀ k, base ≤ k → k < V3.heap.size → k ≠ b → k ≠ bf → (W2.setCell ⟨b, o + 4, none⟩ (.slice (some ⟨bf, 0, none⟩) (dfn - 1) dfn)).heap[k]? = V3.heap[k]? := fun k k1 k2 k3 k4 => (Below.heap_setCell _ _ _ _ k3).trans ((hbut.block k (Nat.lt_of_lt_of_le k2 HW.out.size) k4).trans (HW.out.block k k2))
      have hsz3 : V3.heap.size ≤ (W2.setCell ⟨b, o + 4, none⟩ (.slice (some ⟨bf, 0, none⟩) (dfn - 1) dfn)).heap.size := by rw [setCell_size]; exact Nat.le_trans HW.out.size hbut.size
      have HU0 := Lib.hid (And.intro oB3 (And.intro hown3 (And.intro hb3 (And.intro oR3 (And.intro hfr hsz3)))))
      clear hbut hown2 oB2 oB3 hown3 hb3 oR3 hfr hsz3 HOB z3 z4 y0
      go_upto_region 10 with (fail)
      change Code.wp Tryz.prog _ _ _ (W2.setCell ⟨b, o + 4, none⟩ (.slice (some ⟨bf, 0, none⟩) (dfn - 1) dfn))
      clear z g
      generalize W2.setCell ⟨b, o + 4, none⟩ (.slice (some ⟨bf, 0, none⟩) (dfn - 1) dfn) = U0 at *
      have HFU : Hid (∀ w' : World, (∀ k, base ≤ k → k < U0.heap.size → w'.heap[k]? = U0.heap[k]?) → ∃ c', VAt w' rb 0 c' ∧ Is w' c' (replAt q (cutAt ⟨1, sn, si, sv⟩ i pu) t)) := Lib.hid (fun w' hk => by
        obtain ⟨p1, p2, p3, p4, p5, p6⟩ := HU0.out
        exact HFN.out w' ((hk b hbb1 p1.lt).trans p1) ((hk bf hbf1 p2.lt).trans p2) (fun k k1 k2 k3 k4 => (hk k k1 (Nat.lt_of_lt_of_le k2 p6)).trans (p5 k k1 k2 k3 k4)))
      obtain ⟨⟨rk, rn, rs, rla, rln, rlc, rfa, rfn, rfc⟩, hvU, -⟩ := HFU.out U0 (fun _ _ _ => rfl)
      have r0 := hvU.k
      have r1 := hvU.n
      have r2 := hvU.s
      have r3 := hvU.l
      have r4 := hvU.f
      simp only [Nat.zero_add] at r0 r1 r2 r3 r4
      have hbU := HU0.out.2.2.1
      have hFF : Is (put5 U0 (w.heap.size + 1) (.int .i64 rk) (.int .i64 rn) (sV rs) (.slice rla rln rlc) (.slice rfa rfn rfc)) ⟨rk, rn, rs, rla, rln, rlc, rfa, rfn, rfc⟩ (replAt q (cutAt ⟨1, sn, si, sv⟩ i pu) t) := by
        have hbp := but_put5 U0 (w.heap.size + 1) (.int .i64 rk) (.int .i64 rn) (sV rs) (.slice rla rln rlc) (.slice rfa rfn rfc)
        obtain ⟨c2, hv2, hI2⟩ := HFU.out _ (fun k k1 k2 => hbp.block k k2 (by omega))
        have := (hvU.same (hbp.block rb hvU.lt (by omega))).det hv2
        rw [this]; exact hI2
      have HFF := Lib.hid hFF
      have HRB := Lib.hid hvU
      clear hvU hFF hbU
      have oFin := HU0.out.2.2.2.1
      have q0 := oFin.cell (i := 0) rfl
      have q1 := oFin.cell (i := 1) rfl
      have q2 := oFin.cell (i := 2) rfl
      have q3 := oFin.cell (i := 3) rfl
      have q4 := oFin.cell (i := 4) rfl
      have g0 := oFin.frozen 0
      have g1 := oFin.frozen 1
      have g2 := oFin.frozen 2
      have g3 := oFin.frozen 3
      have g4 := oFin.frozen 4
      have HU := Lib.hid (And.intro (own_put5 oFin (.int .i64 rk) (.int .i64 rn) (sV rs) (.slice rla rln rlc) (.slice rfa rfn rfc)) (And.intro (below_put5 (b := w.heap.size + 1) HU0.out.2.2.1 (by omega) (.int .i64 rk) (.int .i64 rn) (sV rs) (.slice rla rln rlc) (.slice rfa rfn rfc)) HFF.out))
      clear oFin
      go_wp2
      clear q0 q1 q2 q3 q4 g0 g1 g2 g3 g4
      change bodyPost Tryz.prog Tryz.f36 _ _ _ (put5 U0 (w.heap.size + 1) (.int .i64 rk) (.int .i64 rn) (sV rs) (.slice rla rln rlc) (.slice rfa rfn rfc))
      generalize put5 U0 (w.heap.size + 1) (.int .i64 rk) (.int .i64 rn) (sV rs) (.slice rla rln rlc) (.slice rfa rfn rfc) = U at *
      have c0 := HU.out.1.cell (i := 0) rfl
      have c1 := HU.out.1.cell (i := 1) rfl
      have c2 := HU.out.1.cell (i := 2) rfl
      have c3 := HU.out.1.cell (i := 3) rfl
      have c4 := HU.out.1.cell (i := 4) rfl
      exact bodyPost_ret (v := .tuple #[.agg #[.int .i64 rk, .int .i64 rn, sV rs, .slice rla rln rlc, .slice rfa rfn rfc], .bool true]) (by simp [results, Tryz.results36, go_sem, c0, c1, c2, c3, c4]) rfl ⟨HU.out.2.1, fun h => (by have := h ⟨HP0.out, HALL.out.2⟩; rw [HF.out.2.2] at this; cases this), fun _ u hu => (by rw [HF.out.2.2] at hu; cases hu; exact ⟨⟨rk, rn, rs, rla, rln, rlc, rfa, rfn, rfc⟩, rfl, HU.out.2.2⟩)⟩
    · have h1b : ((sk == 1) = false) := by simpa using h1
      obtain ⟨bf, n, fs, X, Y, ty, hc⟩ := cutV_any HJ.out (s := ⟨sk, sn, si, sv⟩) hix HF.out.2.1 h1 hsz
      obtain ⟨hc1, hc2, hc3, hlt, hle, hown, hlen, hbf1, hne, hbb1, hX, hownb, hfin⟩ := hc
      simp only at hc1 hc2 hc3
      subst hc1 hc2
      have hc3 := hc3.symm
      subst hc3
      have hbW := HW.out
      have oF := hown.all hbW
      have oB := hownb.all hbW
      have C0 := deleteV_any bf dln i (i + 1) fs W oF hlen rfl hlt (by omega)
      rw [show (((i + 1 : Nat) : Nat) : Int) = (i : Int) + 1 by simp] at C0
      have C := Lib.hid C0
      have HOB := Lib.hid (And.intro oB (And.intro hown.lt hownb.lt))
      have HFN := Lib.hid hfin
      have HX := Lib.hid hX
      clear C0 oF oB hown hownb hfin hbW hX
      go_upto_region 9 with (fail)
      go_wp2_with fail
      refine C.out.mono ?_
      rintro e W2 ⟨rfl, hbut, hown2⟩
      clear C
      have oB2 : Own W2 b (X ++ (VC.cells ⟨dk, dn, ds, some ⟨bf, 0, none⟩, dln, dln, dfa, dfn, dfc⟩ ++ Y)) ty := by
        unfold Own; rw [hbut.block b HOB.out.1.lt (fun e => hne e.symm)]; exact HOB.out.1
      have z : W2.cell? ⟨b, o + 3, none⟩ = some (.slice (some ⟨bf, 0, none⟩) dln dln) := (VAt.mid oB2 HX.out).l
      have g := oB2.frozen (o + 3)
      have oB3 := oB2.set (o + 3) (.slice (some ⟨bf, 0, none⟩) (dln - 1) dln)
      rw [set_cells HX.out (by decide)] at oB3
      have hown3 := hown2.set_ne hne (o + 3) (.slice (some ⟨bf, 0, none⟩) (dln - 1) dln)
      have hb3 : Below w.heap.size w (W2.setCell ⟨b, o + 3, none⟩ (.slice (some ⟨bf, 0, none⟩) (dln - 1) dln)) := below_set (But.below hbut (below_all HS3.out.1 HW.out) (by omega) (by have := (below_all HS3.out.1 HW.out).size; omega)) (by omega) _
      have oR3 : Own (W2.setCell ⟨b, o + 3, none⟩ (.slice (some ⟨bf, 0, none⟩) (dln - 1) dln)) (w.heap.size + 1) _ 25 := Own.set_ne (by unfold Own; rw [hbut.block (w.heap.size + 1) ((HS3.out.2.1.all HW.out).lt) (by omega)]; exact HS3.out.2.1.all HW.out) (by omega) _ _
      have hfr : ∀ k, base ≤ k → k < V3.heap.size → k ≠ b → k ≠ bf → (W2.setCell ⟨b, o + 3, none⟩ (.slice (some ⟨bf, 0, none⟩) (dln - 1) dln)).heap[k]? = V3.heap[k]? := fun k k1 k2 k3 k4 => (Below.heap_setCell _ _ _ _ k3).trans ((hbut.block k (Nat.lt_of_lt_of_le k2 HW.out.size) k4).trans (HW.out.block k k2))
      have hsz3 : V3.heap.size ≤ (W2.setCell ⟨b, o + 3, none⟩ (.slice (some ⟨bf, 0, none⟩) (dln - 1) dln)).heap.size := by rw [setCell_size]; exact Nat.le_trans HW.out.size hbut.size
      have HU0 := Lib.hid (And.intro oB3 (And.intro hown3 (And.intro hb3 (And.intro oR3 (And.intro hfr hsz3)))))
      clear hbut hown2 oB2 oB3 hown3 hb3 oR3 hfr hsz3 HOB z3 z4 y0
      go_upto_region 10 with (fail)
      change Code.wp Tryz.prog _ _ _ (W2.setCell ⟨b, o + 3, none⟩ (.slice (some ⟨bf, 0, none⟩) (dln - 1) dln))
      clear z g
      generalize W2.setCell ⟨b, o + 3, none⟩ (.slice (some ⟨bf, 0, none⟩) (dln - 1) dln) = U0 at *
      have HFU : Hid (∀ w' : World, (∀ k, base ≤ k → k < U0.heap.size → w'.heap[k]? = U0.heap[k]?) → ∃ c', VAt w' rb 0 c' ∧ Is w' c' (replAt q (cutAt ⟨sk, sn, si, sv⟩ i pu) t)) := Lib.hid (fun w' hk => by
        obtain ⟨p1, p2, p3, p4, p5, p6⟩ := HU0.out
        exact HFN.out w' ((hk b hbb1 p1.lt).trans p1) ((hk bf hbf1 p2.lt).trans p2) (fun k k1 k2 k3 k4 => (hk k k1 (Nat.lt_of_lt_of_le k2 p6)).trans (p5 k k1 k2 k3 k4)))
      obtain ⟨⟨rk, rn, rs, rla, rln, rlc, rfa, rfn, rfc⟩, hvU, -⟩ := HFU.out U0 (fun _ _ _ => rfl)
      have r0 := hvU.k
      have r1 := hvU.n
      have r2 := hvU.s
      have r3 := hvU.l
      have r4 := hvU.f
      simp only [Nat.zero_add] at r0 r1 r2 r3 r4
      have hbU := HU0.out.2.2.1
      have hFF : Is (put5 U0 (w.heap.size + 1) (.int .i64 rk) (.int .i64 rn) (sV rs) (.slice rla rln rlc) (.slice rfa rfn rfc)) ⟨rk, rn, rs, rla, rln, rlc, rfa, rfn, rfc⟩ (replAt q (cutAt ⟨sk, sn, si, sv⟩ i pu) t) := by
        have hbp := but_put5 U0 (w.heap.size + 1) (.int .i64 rk) (.int .i64 rn) (sV rs) (.slice rla rln rlc) (.slice rfa rfn rfc)
        obtain ⟨c2, hv2, hI2⟩ := HFU.out _ (fun k k1 k2 => hbp.block k k2 (by omega))
        have := (hvU.same (hbp.block rb hvU.lt (by omega))).det hv2
        rw [this]; exact hI2
      have HFF := Lib.hid hFF
      have HRB := Lib.hid hvU
      clear hvU hFF hbU
      have oFin := HU0.out.2.2.2.1
      have q0 := oFin.cell (i := 0) rfl
      have q1 := oFin.cell (i := 1) rfl
      have q2 := oFin.cell (i := 2) rfl
      have q3 := oFin.cell (i := 3) rfl
      have q4 := oFin.cell (i := 4) rfl
      have g0 := oFin.frozen 0
      have g1 := oFin.frozen 1
      have g2 := oFin.frozen 2
      have g3 := oFin.frozen 3
      have g4 := oFin.frozen 4
      have HU := Lib.hid (And.intro (own_put5 oFin (.int .i64 rk) (.int .i64 rn) (sV rs) (.slice rla rln rlc) (.slice rfa rfn rfc)) (And.intro (below_put5 (b := w.heap.size + 1) HU0.out.2.2.1 (by omega) (.int .i64 rk) (.int .i64 rn) (sV rs) (.slice rla rln rlc) (.slice rfa rfn rfc)) HFF.out))
      clear oFin
      go_wp2
      clear q0 q1 q2 q3 q4 g0 g1 g2 g3 g4
      change bodyPost Tryz.prog Tryz.f36 _ _ _ (put5 U0 (w.heap.size + 1) (.int .i64 rk) (.int .i64 rn) (sV rs) (.slice rla rln rlc) (.slice rfa rfn rfc))
      generalize put5 U0 (w.heap.size + 1) (.int .i64 rk) (.int .i64 rn) (sV rs) (.slice rla rln rlc) (.slice rfa rfn rfc) = U at *
      have c0 := HU.out.1.cell (i := 0) rfl
      have c1 := HU.out.1.cell (i := 1) rfl
      have c2 := HU.out.1.cell (i := 2) rfl
      have c3 := HU.out.1.cell (i := 3) rfl
      have c4 := HU.out.1.cell (i := 4) rfl
      exact bodyPost_ret (v := .tuple #[.agg #[.int .i64 rk, .int .i64 rn, sV rs, .slice rla rln rlc, .slice rfa rfn rfc], .bool true]) (by simp [results, Tryz.results36, go_sem, c0, c1, c2, c3, c4]) rfl ⟨HU.out.2.1, fun h => (by have := h ⟨HP0.out, HALL.out.2⟩; rw [HF.out.2.2] at this; cases this), fun _ u hu => (by rw [HF.out.2.2] at hu; cases hu; exact ⟨⟨rk, rn, rs, rla, rln, rlc, rfa, rfn, rfc⟩, rfl, HU.out.2.2⟩)⟩
end Go.Proofs.YtjpmnlefjmdelaaGreatDoor
