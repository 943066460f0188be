/- The contract of Insert of one label. -/
import Derived.Test.YtfohhokdcobhjaaDoorWs
import Derived.Laws.Externs
import Derived.Laws.NewBlocks
import Derived.Lib.AppendZeros
import Derived.Lib.JoinLaws
import Derived.Shelf.Spec.SlicesInsert
namespace Go.Proofs.YtfohhokdcobhjaaDoor
open Go.RowKit Go.Sort Go.Proofs.LawFrame

set_option maxRecDepth 4000 in
set_option maxHeartbeats 4000000 in
theorem insert_end (v : Value) (R : List Lab) (key val : Str) (vb base : Nat) (w : World) (hown : w.ownsRow base 45 2 v R.length (R.flatMap labC)) (hl : R.length ≤ 1000) (hbw : base ≤ w.heap.size) (ov : Own w vb [sV key, sV val] 45) :
    Calls Tryd.prog 40 #[v, .int .i64 R.length, .slice (some ⟨vb, 0, none⟩) 1 1] w fun e w' => ∃ dv, e = .returned dv ∧ w'.ownsRow base 45 2 dv (R.length + 1) ((R ++ [(key, val)]).flatMap labC) ∧ Below base w w' := by
  obtain ⟨i45, hi45, hzi45, hsi45, hyi45⟩ := info_parts info45
  have hv : Labs w v R := labs_own hown rfl
  obtain ⟨ao, cap, rfl, hlc, hcap, -⟩ := hv.out
  unfold maxLen at hcap
  have hcv : ∀ j u, [sV key, sV val][j]? = some u → w.cell? ((⟨vb, 0, none⟩ : Addr).add j) = some u := by
    intro j u h
    match j, h with
    | 0, h => simp at h; subst h; exact ov.cell rfl
    | 1, h => simp at h; subst h; exact ov.cell rfl
    | j + 2, h => simp at h
  rw [flatMap_snoc]
  clear hv ov
  go_enter Tryd.func40, Tryd.ntmps40
  go_wp2_with (at_builtin; refine wpList_append_own _ rfl (.tmp 23) (.tmp 24) 22 rfl base 45 i45 (.agg #[.string ⟨#[]⟩, .string ⟨#[]⟩]) 2 32 Tryd.underlying22 hi45 hzi45 hsi45 hyi45 rfl (by decide) _ _ _ rfl hown ⟨vb, 0, none⟩ 1 1 [sV key, sV val] rfl rfl hcv (fun u hu => by simp at hu; rcases hu with rfl | rfl <;> rfl) (by unfold maxLen; omega) (by omega) hbw ?_; intro v' w5 hown5 hgrow5 hnil5)
  all_goals
    go_ret
    exact ⟨v', rfl, hown5, below_grown (Below.refl _ _) hgrow5 hbw (own_row hown)⟩

/-- the list with the label put in at i -/
def putAt (R : List Lab) (i : Nat) (x : Lab) : List Lab := R.take i ++ x :: R.drop i
theorem putAt_len {R : List Lab} {i : Nat} (x : Lab) (h : i ≤ R.length) : (putAt R i x).length = R.length + 1 := by
  unfold putAt; simp only [List.length_append, List.length_cons, List.length_take, List.length_drop]; omega
theorem putAt_flat (R : List Lab) (i : Nat) (key val : Str) : (putAt R i (key, val)).flatMap labC = (R.flatMap labC).take (i * 2) ++ ([sV key, sV val] ++ (R.flatMap labC).drop (i * 2)) := by
  unfold putAt; rw [List.flatMap_append, List.flatMap_cons, flat_take, flat_drop]; rfl
theorem size45 : ∀ w : World, (Go.sizeOf 45).run Tryd.prog w = .ok 2 w := by
  intro w
  obtain ⟨i, hi, -, hs, -⟩ := info_parts info45
  simp [Go.sizeOf, typeInfo, hi, hs]
theorem Own.shape {w : World} {b : Nat} {cs : List Value} {t : TypeId} (h : Own w b cs t) : w.shape? b = some (t, cs.length) := by
  unfold World.shape?; rw [show w.heap[b]? = _ from h]; simp
theorem isize45 : (Tryd.prog.info? 45).map (·.size) = some 2 := by
  obtain ⟨i, hi, -, hs, -⟩ := info_parts info45
  rw [hi]; simp [hs]

theorem take3 {α : Type} (A B D : List α) (d : Nat) : (A ++ B ++ D).take (A.length + B.length + d) = A ++ (B ++ D.take d) := by
  rw [show A.length + B.length + d = (A ++ B).length + d by simp, List.take_length_add_append, List.append_assoc]

set_option maxRecDepth 4000 in
set_option maxHeartbeats 4000000 in
theorem insert_room (R : List Lab) (key val : Str) (i g cap vb base : Nat) (w : World) (hown : w.ownsRow base 45 2 (.slice (some ⟨g, 0, none⟩) R.length cap) R.length (R.flatMap labC)) (hl : R.length ≤ 1000) (hi : i < R.length) (hroom : R.length + 1 ≤ cap) (hne : vb ≠ g) (ov : Own w vb [sV key, sV val] 45) :
    Calls Tryd.prog 40 #[.slice (some ⟨g, 0, none⟩) R.length cap, .int .i64 i, .slice (some ⟨vb, 0, none⟩) 1 1] w fun e w' => ∃ dv, e = .returned dv ∧ w'.ownsRow base 45 2 dv (R.length + 1) ((putAt R i (key, val)).flatMap labC) ∧ Below base w w' := by
  obtain ⟨cur, oc, hgb, hn, hcap, hcl, hct, hxl⟩ := own_cur hown
  have hcap' := hcap
  unfold maxLen at hcap'
  have hov : ∀ lb cb, (callFunc 57 #[.slice (some ⟨vb, 0, none⟩) 1 1, .slice (some ⟨g, (i + 1) * 2, none⟩) lb cb]).run Tryd.prog w = .ok (.value (.bool false)) w := fun lb cb => by
    rw [run_callFunc_extern Tryd.func57 (by kernel_rfl) (by kernel_rfl) (by kernel_rfl) (e := Extern.SlicesOverlaps.overlaps #[22, 22] #[4]) (by kernel_rfl),
      Lib.run_overlaps_apart w 22 4 45 Tryd.underlying22 2 size45 ⟨vb, 0, none⟩ ⟨g, (i + 1) * 2, none⟩ 1 1 lb cb hne 45 45 _ _ (Own.shape ov) (Own.shape oc) (by rw [hcl]; omega) (ov.frozen 0) (ov.frozen _)]
    rfl
  have hdl : ((R.flatMap labC).drop (i * 2)).length = (R.length - i) * 2 := by rw [List.length_drop, hxl]; omega
  have hcp1 : ∀ ty dc sc, (Builtin.copy_ #[22, 22] ty #[.slice (some ⟨g, (i + 1) * 2, none⟩) (R.length - i) dc, .slice (some ⟨g, i * 2, none⟩) (R.length + 1 - i) sc]).run Tryd.prog w.drew = .ok (goInt (Nat.min (R.length + 1 - i) (R.length - i))) (w.drew.setRow g (cur.take ((i + 1) * 2) ++ (R.flatMap labC).drop (i * 2) ++ cur.drop ((i + 1) * 2 + (R.length - i) * 2)).toArray) := fun ty dc sc => by
    have := run_copy_rowk (P := Tryd.prog) w.drew 22 22 ty 45 2 g ((i + 1) * 2) (R.length - i) dc ⟨g, i * 2, none⟩ (R.length + 1 - i) sc cur.toArray 45 ((R.flatMap labC).drop (i * 2)) Tryd.underlying22 isize45 oc (by rw [hdl, show Nat.min (R.length + 1 - i) (R.length - i) = R.length - i by simp only [Nat.min_def]; split <;> omega])
      (fun j u hu => by
        rw [Addr.add_lit]
        refine oc.cell ?_
        rw [← hct, List.getElem?_drop, List.getElem?_take] at hu
        split at hu
        · exact hu
        · cases hu)
      (by rw [hdl]; simp only [List.size_toArray]; omega) (fun u hu => labC_one u (List.mem_of_mem_drop hu))
    rw [hdl] at this
    exact this
  have oc1 : Own w.drew g cur 45 := oc
  have oW1 := Own.setRow oc1 (cur.take ((i + 1) * 2) ++ (R.flatMap labC).drop (i * 2) ++ cur.drop ((i + 1) * 2 + (R.length - i) * 2))
  have ovW1 := Own.setRow_ne (show Own w.drew vb [sV key, sV val] 45 from ov) (Ne.symm hne) (cur.take ((i + 1) * 2) ++ (R.flatMap labC).drop (i * 2) ++ cur.drop ((i + 1) * 2 + (R.length - i) * 2)).toArray
  have hbW1 := below_setRow (show Below base w w.drew from ⟨rfl, rfl, rfl, Nat.le_refl _, fun _ _ => rfl⟩) hgb (cur.take ((i + 1) * 2) ++ (R.flatMap labC).drop (i * 2) ++ cur.drop ((i + 1) * 2 + (R.length - i) * 2)).toArray
  have hr1l : (cur.take ((i + 1) * 2) ++ (R.flatMap labC).drop (i * 2) ++ cur.drop ((i + 1) * 2 + (R.length - i) * 2)).length = cap * 2 := by
    simp only [List.length_append, List.length_take, hdl]
    rw [List.length_drop, hcl]; omega
  have hr1t : (cur.take ((i + 1) * 2) ++ (R.flatMap labC).drop (i * 2) ++ cur.drop ((i + 1) * 2 + (R.length - i) * 2)).take (i * 2) = (R.flatMap labC).take (i * 2) := by
    rw [List.append_assoc, List.take_append_of_le_length (by rw [List.length_take, hcl]; omega), List.take_take, ← hct, List.take_take]
    congr 1; omega
  have hr1d : ((cur.take ((i + 1) * 2) ++ (R.flatMap labC).drop (i * 2) ++ cur.drop ((i + 1) * 2 + (R.length - i) * 2)).drop (i * 2 + 2)).take ((R.length - i) * 2) = (R.flatMap labC).drop (i * 2) := by
    rw [List.append_assoc, show i * 2 + 2 = (cur.take ((i + 1) * 2)).length by rw [List.length_take, hcl]; omega, List.drop_left, List.take_append_of_le_length (by rw [hdl]; omega), List.take_of_length_le (by rw [hdl]; omega)]
  generalize w.drew.setRow g (cur.take ((i + 1) * 2) ++ (R.flatMap labC).drop (i * 2) ++ cur.drop ((i + 1) * 2 + (R.length - i) * 2)).toArray = W1 at *
  generalize cur.take ((i + 1) * 2) ++ (R.flatMap labC).drop (i * 2) ++ cur.drop ((i + 1) * 2 + (R.length - i) * 2) = r1 at *
  have hcp2 : ∀ ty dc, (Builtin.copy_ #[22, 22] ty #[.slice (some ⟨g, i * 2, none⟩) (R.length + 1 - i) dc, .slice (some ⟨vb, 0, none⟩) 1 1]).run Tryd.prog W1 = .ok (goInt (Nat.min 1 (R.length + 1 - i))) (W1.setRow g (r1.take (i * 2) ++ [sV key, sV val] ++ r1.drop (i * 2 + 2)).toArray) := fun ty dc =>
    run_copy_rowk (P := Tryd.prog) W1 22 22 ty 45 2 g (i * 2) (R.length + 1 - i) dc ⟨vb, 0, none⟩ 1 1 r1.toArray 45 [sV key, sV val] Tryd.underlying22 isize45 oW1 (by rw [show Nat.min 1 (R.length + 1 - i) = 1 by simp only [Nat.min_def]; split <;> omega]; rfl)
      (fun j u h => by
        match j, h with
        | 0, h => simp at h; subst h; exact ovW1.cell rfl
        | 1, h => simp at h; subst h; exact ovW1.cell rfl
        | j + 2, h => simp at h)
      (by show i * 2 + 2 ≤ r1.toArray.size; simp only [List.size_toArray]; omega) (fun u hu => by simp at hu; rcases hu with rfl | rfl <;> rfl)
  have hfin : (W1.setRow g (r1.take (i * 2) ++ [sV key, sV val] ++ r1.drop (i * 2 + 2)).toArray).ownsRow base 45 2 (.slice (some ⟨g, 0, none⟩) (R.length + 1) cap) (R.length + 1) ((putAt R i (key, val)).flatMap labC) := by
    refine own_mk (Own.setRow oW1 _) hgb hroom hcap ?_ ?_
    · simp only [List.length_append, List.length_take, List.length_drop, List.length_cons, List.length_nil]; omega
    · have h3 := take3 (r1.take (i * 2)) [sV key, sV val] (r1.drop (i * 2 + 2)) ((R.length - i) * 2)
      rw [show (r1.take (i * 2)).length + [sV key, sV val].length + (R.length - i) * 2 = (R.length + 1) * 2 by rw [List.length_take]; simp only [List.length_cons, List.length_nil]; omega] at h3
      rw [putAt_flat, ← hr1t, ← hr1d]
      exact h3
  have hbf := below_setRow hbW1 hgb (r1.take (i * 2) ++ [sV key, sV val] ++ r1.drop (i * 2 + 2)).toArray
  have HF := Lib.hid (And.intro hfin hbf)
  clear hfin hbf hr1l hr1t hr1d hbW1 ovW1 oW1 oc1 hdl hown oc ov hct hxl hcl
  generalize W1.setRow g (r1.take (i * 2) ++ [sV key, sV val] ++ r1.drop (i * 2 + 2)).toArray = W2 at *
  have h1 : ¬ cap = i + 1 := by omega
  have h2 : ¬ cap = i := by omega
  have h3 : ¬ ((i : Int) = (R.length : Int)) := by omega
  have hw1 : IntKind.i64.wrap ((i : Int) + 1) = (i : Int) + 1 := by rw [IntKind.wrap_i64]; omega
  have hb1 : (0 : Int) ≤ (i : Int) + 1 := by omega
  have htn : ((i : Int) + 1).toNat = i + 1 := by omega
  have hin : i ≤ R.length := by omega
  have hin1 : i + 1 ≤ R.length + 1 := by omega
  have hb3 : (i : Int) ≤ (R.length : Int) + 1 := by omega
  have hb4 : (i : Int) + 1 ≤ (R.length : Int) + 1 := by omega
  have hb5 : (i : Int) ≤ (R.length : Int) := by omega
  go_enter Tryd.func40, Tryd.ntmps40
  go_wp2_with (simp only [hov])
  go_region_law (refine step_copy_runI rfl _ _ 22 22 rfl _ _ (by simp [Act.eval, Act.put]) (by simp [Act.eval, Act.put]) (hcp1 _ _ _) ?_)
  go_wp2_with (refine wpList_copy_run2 _ rfl (.tmp 80) (.tmp 81) 22 22 rfl _ _ rfl rfl (hcp2 _ _) ?_)
  go_ret
  exact ⟨_, rfl, HF.out.1, HF.out.2⟩
end Go.Proofs.YtfohhokdcobhjaaDoor
