/- The contract of Insert of one label: no room. -/
import Derived.Test.YtfohhokdcobhjaaDoorWt
import Derived.Shelf.Spec.SlicesInsertGrow
namespace Go.Proofs.YtfohhokdcobhjaaDoor
open Go.RowKit Go.Sort Go.Proofs.LawFrame

set_option maxRecDepth 4000 in
set_option maxHeartbeats 4000000 in
theorem insert_grow (R : List Lab) (key val : Str) (i g cap vb base : Nat) (w : World) (hown : w.ownsRow base 45 2 (.slice (some ⟨g, 0, none⟩) R.length cap) R.length (R.flatMap labC)) (hl : R.length ≤ 1000) (hi : i < R.length) (hroom : cap < R.length + 1) (hbw : base ≤ w.heap.size) (ov : Own w vb [sV key, sV val] 45) :
    Calls Tryd.prog 40 #[.slice (some ⟨g, 0, none⟩) R.length cap, .int .i64 i, .slice (some ⟨vb, 0, none⟩) 1 1] w fun e w' => ∃ dv, e = .returned dv ∧ w'.ownsRow base 45 2 dv (R.length + 1) ((putAt R i (key, val)).flatMap labC) ∧ Below base w w' := by
  obtain ⟨i45, hi45, hz45, hs45, hy45⟩ := info_parts info45
  obtain ⟨cur, oc, hgb, hn, hcap, hcl, hct, hxl⟩ := own_cur hown
  have hcap' := hcap
  unfold maxLen at hcap'
  have hgw := oc.lt
  have hvw := ov.lt
  have htl : ((R.flatMap labC).take (i * 2)).length = i * 2 := by rw [List.length_take, hxl]; omega
  have hold : (Builtin.firstCells i45.size i (.slice (some ⟨g, 0, none⟩) i cap)).run Tryd.prog w.drew = .ok ((R.flatMap labC).take (i * 2)).toArray w.drew := by
    rw [hs45]
    exact run_firstCells_some w.drew 2 i ⟨g, 0, none⟩ i cap _ htl (fun j u hu => by
      rw [Addr.add_lit]
      refine Own.cell (show Own w.drew g cur 45 from oc) ?_
      rw [← hct, List.take_take, List.getElem?_take] at hu
      split at hu
      · rw [Nat.zero_add]; exact hu
      · cases hu)
  have hrz : ∀ ty, (Builtin.append_ #[22, 3] ty #[.slice (some ⟨g, 0, none⟩) i cap, .int .i64 ((R.length : Int) + 1 - (i : Int))]).run Tryd.prog w =
      .ok (.slice (some ⟨w.heap.size, 0, none⟩) (R.length + 1) (grownCap w (R.length + 1) cap 45)) (w.drew.alloc (.cells (((R.flatMap labC).take (i * 2)).toArray ++ Builtin.zeroCells (Value.agg #[.string ⟨#[]⟩, .string ⟨#[]⟩]).cells (R.length + 1 - i) ++ Builtin.zeroCells (Value.agg #[.string ⟨#[]⟩, .string ⟨#[]⟩]).cells (grownCap w (R.length + 1) cap 45 - (R.length + 1))) 45)) := fun ty => by
    have hik : i + (R.length + 1 - i) = R.length + 1 := by omega
    have h := Lib.run_append_grow_zeros w 22 3 ty 45 i45 _ .i64 .i64 Tryd.underlying22 Tryd.underlying3 hi45 hz45 (some ⟨g, 0, none⟩) i cap _ hold (R.length + 1 - i) (by omega) (by rw [hs45]; decide) (by omega) (by omega) (by rw [hy45]; omega) (by rw [hy45, hik]; exact growslice_fits hroom (by omega))
    rw [hik] at h
    rw [show (R.length : Int) + 1 - (i : Int) = ((R.length + 1 - i : Nat) : Int) by omega]
    exact h
  have hG := grownCap_ge w (R.length + 1) cap 45
  have hGm := grownCap_le_maxLen w (R.length + 1) cap 45 (by unfold maxLen; omega)
  generalize grownCap w (R.length + 1) cap 45 = G at *
  obtain ⟨ROW, hROW⟩ : ∃ ROW : List Value, (((R.flatMap labC).take (i * 2)).toArray ++ Builtin.zeroCells (Value.agg #[.string ⟨#[]⟩, .string ⟨#[]⟩]).cells (R.length + 1 - i) ++ Builtin.zeroCells (Value.agg #[.string ⟨#[]⟩, .string ⟨#[]⟩]).cells (G - (R.length + 1))) = ROW.toArray := ⟨_, rfl⟩
  have hRl : ROW.length = G * 2 := by
    have := congrArg Array.size hROW
    generalize (R.flatMap labC).take (i * 2) = A at this htl
    simp [Builtin.zeroCells, Value.cells, htl] at this
    omega
  have hRt : ROW.take (i * 2) = (R.flatMap labC).take (i * 2) := by
    have := congrArg Array.toList hROW
    simp only [Array.toList_append, List.toList_toArray] at this
    rw [← this, List.append_assoc, List.take_append_of_le_length (by rw [htl]; omega), List.take_take, Nat.min_self]
  rw [hROW] at hrz
  clear hROW hold
  have oN := Own.new w.drew ROW 45
  have oc1 : Own (w.drew.alloc (.cells ROW.toArray 45)) g cur 45 := Own.alloc (show Own w.drew g cur 45 from oc) _
  have ov1 : Own (w.drew.alloc (.cells ROW.toArray 45)) vb [sV key, sV val] 45 := Own.alloc (show Own w.drew vb [sV key, sV val] 45 from ov) _
  have hb1 : Below base w (w.drew.alloc (.cells ROW.toArray 45)) := (below_all (show Below w.heap.size w w.drew from ⟨rfl, rfl, rfl, Nat.le_refl _, fun _ _ => rfl⟩) (below_alloc w.drew (.cells ROW.toArray 45))).mono hbw
  have hgN : g ≠ w.heap.size := by omega
  have hvN : vb ≠ w.heap.size := by omega
  have oN' : Own (w.drew.alloc (.cells ROW.toArray 45)) w.heap.size ROW 45 := oN
  clear oN oc ov
  generalize w.drew.alloc (.cells ROW.toArray 45) = W1 at *
  generalize hNN : w.heap.size = NB at *
  have hdl : ((R.flatMap labC).drop (i * 2)).length = (R.length - i) * 2 := by rw [List.length_drop, hxl]; omega
  have hcpA : ∀ ty dc, (Builtin.copy_ #[22, 22] ty #[.slice (some ⟨NB, i * 2, none⟩) (R.length + 1 - i) dc, .slice (some ⟨vb, 0, none⟩) 1 1]).run Tryd.prog W1 = .ok (goInt (Nat.min 1 (R.length + 1 - i))) (W1.setRow NB (ROW.take (i * 2) ++ [sV key, sV val] ++ ROW.drop (i * 2 + 2)).toArray) := fun ty dc =>
    run_copy_rowk (P := Tryd.prog) W1 22 22 ty 45 2 NB (i * 2) (R.length + 1 - i) dc ⟨vb, 0, none⟩ 1 1 ROW.toArray 45 [sV key, sV val] Tryd.underlying22 isize45 oN' (by rw [show Nat.min 1 (R.length + 1 - i) = 1 by simp only [Nat.min_def]; split <;> omega]; rfl)
      (fun j u h => by
        match j, h with
        | 0, h => simp at h; subst h; exact ov1.cell rfl
        | 1, h => simp at h; subst h; exact ov1.cell rfl
        | j + 2, h => simp at h)
      (by show i * 2 + 2 ≤ ROW.toArray.size; simp only [List.size_toArray]; omega) (fun u hu => by simp at hu; rcases hu with rfl | rfl <;> rfl)
  have oN2 := Own.setRow oN' (ROW.take (i * 2) ++ [sV key, sV val] ++ ROW.drop (i * 2 + 2))
  have oc2 := Own.setRow_ne oc1 (Ne.symm hgN) (ROW.take (i * 2) ++ [sV key, sV val] ++ ROW.drop (i * 2 + 2)).toArray
  have hb2 := below_setRow hb1 hbw (ROW.take (i * 2) ++ [sV key, sV val] ++ ROW.drop (i * 2 + 2)).toArray
  have hr2l : (ROW.take (i * 2) ++ [sV key, sV val] ++ ROW.drop (i * 2 + 2)).length = G * 2 := by
    simp only [List.length_append, List.length_take, List.length_drop, List.length_cons, List.length_nil]; omega
  have hr2t : (ROW.take (i * 2) ++ [sV key, sV val] ++ ROW.drop (i * 2 + 2)).take ((i + 1) * 2) = (R.flatMap labC).take (i * 2) ++ [sV key, sV val] := by
    have h3 := take3 (ROW.take (i * 2)) [sV key, sV val] (ROW.drop (i * 2 + 2)) 0
    rw [show (ROW.take (i * 2)).length + [sV key, sV val].length + 0 = (i + 1) * 2 by rw [List.length_take]; simp only [List.length_cons, List.length_nil]; omega] at h3
    rw [h3, hRt]; simp
  generalize W1.setRow NB (ROW.take (i * 2) ++ [sV key, sV val] ++ ROW.drop (i * 2 + 2)).toArray = W2 at *
  generalize ROW.take (i * 2) ++ [sV key, sV val] ++ ROW.drop (i * 2 + 2) = r2 at *
  have hcpB : ∀ ty dc sc, (Builtin.copy_ #[22, 22] ty #[.slice (some ⟨NB, (i + 1) * 2, none⟩) (R.length - i) dc, .slice (some ⟨g, i * 2, none⟩) (R.length - i) sc]).run Tryd.prog W2.drew = .ok (goInt (Nat.min (R.length - i) (R.length - i))) (W2.drew.setRow NB (r2.take ((i + 1) * 2) ++ (R.flatMap labC).drop (i * 2) ++ r2.drop ((i + 1) * 2 + (R.length - i) * 2)).toArray) := fun ty dc sc => by
    have := run_copy_rowk (P := Tryd.prog) W2.drew 22 22 ty 45 2 NB ((i + 1) * 2) (R.length - i) dc ⟨g, i * 2, none⟩ (R.length - i) sc r2.toArray 45 ((R.flatMap labC).drop (i * 2)) Tryd.underlying22 isize45 oN2 (by rw [hdl, show Nat.min (R.length - i) (R.length - i) = R.length - i from Nat.min_self _])
      (fun j u hu => by
        rw [Addr.add_lit]
        refine Own.cell (show Own W2.drew g cur 45 from oc2) ?_
        rw [← hct, List.getElem?_drop, List.getElem?_take] at hu
        split at hu
        · exact hu
        · cases hu)
      (by rw [hdl]; simp only [List.size_toArray]; omega) (fun u hu => labC_one u (List.mem_of_mem_drop hu))
    rw [hdl] at this
    exact this
  have hfin : (W2.drew.setRow NB (r2.take ((i + 1) * 2) ++ (R.flatMap labC).drop (i * 2) ++ r2.drop ((i + 1) * 2 + (R.length - i) * 2)).toArray).ownsRow base 45 2 (.slice (some ⟨NB, 0, none⟩) (R.length + 1) G) (R.length + 1) ((putAt R i (key, val)).flatMap labC) := by
    refine own_mk (Own.setRow (show Own W2.drew NB r2 45 from oN2) _) hbw hG hGm ?_ ?_
    · simp only [List.length_append, List.length_take, hdl]
      rw [List.length_drop]; omega
    · have h3 := take3 (r2.take ((i + 1) * 2)) ((R.flatMap labC).drop (i * 2)) (r2.drop ((i + 1) * 2 + (R.length - i) * 2)) 0
      rw [show (r2.take ((i + 1) * 2)).length + ((R.flatMap labC).drop (i * 2)).length + 0 = (R.length + 1) * 2 by rw [List.length_take, hdl]; omega] at h3
      rw [h3, hr2t, putAt_flat]; simp
  have hbf := below_setRow (show Below base w W2.drew from ⟨hb2.os, hb2.tape, hb2.output, hb2.size, hb2.block⟩) hbw (r2.take ((i + 1) * 2) ++ (R.flatMap labC).drop (i * 2) ++ r2.drop ((i + 1) * 2 + (R.length - i) * 2)).toArray
  have HF := Lib.hid (And.intro hfin hbf)
  generalize W2.drew.setRow NB (r2.take ((i + 1) * 2) ++ (R.flatMap labC).drop (i * 2) ++ r2.drop ((i + 1) * 2 + (R.length - i) * 2)).toArray = W3 at *
  clear hfin hbf hr2l hr2t hb2 hb1 oN2 oc2 oN' oc1 ov1 hdl hown hct hxl hcl hRl hRt htl
  unfold maxLen at hGm
  have h1 : ¬ G = i + 1 := by omega
  have h2 : ¬ G = i := by omega
  have h2' : ¬ cap = i := by omega
  have h3 : ¬ ((i : Int) = (R.length : Int)) := by omega
  have hw1 : IntKind.i64.wrap ((i : Int) + 1) = (i : Int) + 1 := by rw [IntKind.wrap_i64]; omega
  have hw2 : IntKind.i64.wrap ((R.length : Int) + 1 - (i : Int)) = (R.length : Int) + 1 - (i : Int) := by rw [IntKind.wrap_i64]; omega
  have hb1 : (0 : Int) ≤ (i : Int) + 1 := by omega
  have htn : ((i : Int) + 1).toNat = i + 1 := by omega
  have hin : i ≤ R.length := by omega
  have hin1 : i + 1 ≤ R.length + 1 := by omega
  have hb3 : (i : Int) ≤ (R.length : Int) + 1 := by omega
  have hb4 : (i : Int) + 1 ≤ (R.length : Int) + 1 := by omega
  have hb5 : (i : Int) ≤ (R.length : Int) := by omega
  go_enter Tryd.func40, Tryd.ntmps40
  go_wp2_with (first | (at_builtin; refine Lib.wpList_append_run _ rfl _ _ _ _ rfl _ _ rfl rfl _ _ (hrz _) ?_) | (refine wpList_copy_run2 _ rfl (.tmp 43) (.tmp 44) 22 22 rfl _ _ rfl rfl (hcpA _ _) ?_))
  go_region_law (refine step_copy_runI rfl _ _ 22 22 rfl _ _ (by simp [Act.eval, Act.put]) (by simp [Act.eval, Act.put]) (hcpB _ _ _) ?_)
  go_wp2
  go_ret
  exact ⟨_, rfl, HF.out.1, HF.out.2⟩
end Go.Proofs.YtfohhokdcobhjaaDoor
