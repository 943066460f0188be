/- For every label list, key, value and other key the law LabelEdits returns true: after With, Get answers the new value for the key and the old one elsewhere, and a valid set stays valid as long as there is room; each argument reads afterwards as before. Condition: the listed library tables hold what their initialisers lay (tied by the card). -/
import Derived.Test.YtfohhokdcobhjaaDoorCards
import Derived.Test.YtfohhokdcobhjaaDoorTie
import Derived.Test.YtfohhokdcobhjaaDoorFr
import Derived.Test.YtfohhokdcobhjaaDoorYc
import Derived.Test.YtfohhokdcobhjaaDoorOc
import Derived.WalkKit
import Derived.ProofKit
import Derived.OpenShut
import Derived.ChangeOld
import Derived.Lib.SmallJoins
import Derived.LaidMore
import Derived.Lay
import Derived.SevenTiedAt
import Derived.Stop.Joined
namespace Go.Proofs.YtfohhokdcobhjaaDoor
open Go.ChangeShapes Go.WideShapes Go.ChangeAt Go.RowKit Go.Joins Go.Deep
open Go.ChangeMaps (open_string)

theorem labelEdits_own : ownKnob Tryd.prog.godebug = none := by kernel_rfl
theorem labelEdits_laidOut : laidOutB Tryd.prog = true := by kernel_rfl

set_option maxRecDepth 100000 in
theorem labelEdits_contract (H : Type) (enc : TypeId × Value → H) (W : World) (base : Nat) (args : Array Value) (ds gs : List (DataW H)) (before : List MemPlace)
    (hval : ∀ (j : Nat) t v, Tryd.f9.params[j]? = some t → args[j]? = some v → Value.okWide Tryd.prog W .any base t v)
    (hW : DataW.Whole enc Tryd.prog Tryd.f9.params.toList Rows.labelEditsSpec.vars false W args.toList ds gs before) :
    Calls Tryd.prog 9 args W fun e W' => ∃ v, e = .returned v ∧ Rows.labelEditsSpec.post enc Tryd.prog Tryd.f9 false true false false W args v W' := by
  have hW' := hW
  obtain ⟨p, q, hA0, hV, rfl, hfz, hnd⟩ := hW
  have hA : DataW.TrodAll enc Tryd.prog W 0 (fun _ => true) true Tryd.f9.params.toList args.toList ds p := hA0
  rw [Tryd.params9] at hA hval
  obtain ⟨v0, vs0, d0, ds0, p0, q0, hargs, rfl, rfl, h0, r0⟩ := trodAll_cons hA
  obtain ⟨v1, vs1, d1, ds1, p1, q1, rfl, rfl, rfl, h1, r1⟩ := trodAll_cons r0
  obtain ⟨v2, vs2, d2, ds2, p2, q2, rfl, rfl, rfl, h2, r2⟩ := trodAll_cons r1
  obtain ⟨v3, vs3, d3, ds3, p3, q3, rfl, rfl, rfl, h3, r3⟩ := trodAll_cons r2
  obtain ⟨rfl, rfl, rfl⟩ := trodAll_nil r3
  obtain rfl : args = #[v0, v1, v2, v3] := by rw [← Array.toArray_toList (xs := args), hargs]
  obtain ⟨qla, qln, qlc, rfl⟩ := okWide_slice Tryd.underlying22 (hval 0 22 v0 rfl rfl)
  obtain ⟨ful, hul⟩ := h0
  obtain ⟨l, hl⟩ := labs_of (show DataW.trod enc Tryd.prog W 0 (fun _ => true) true ful 22 [.slice qla qln qlc] = _ from hul)
  obtain ⟨bk, rfl, rfl, rfl, wk⟩ := open_string Tryd.underlying9 (hval 1 9 v1 rfl rfl) h1
  obtain ⟨k, rfl⟩ := str_list bk
  obtain ⟨bv, rfl, rfl, rfl, wv⟩ := open_string Tryd.underlying9 (hval 2 9 v2 rfl rfl) h2
  obtain ⟨v, rfl⟩ := str_list bv
  obtain ⟨bo, rfl, rfl, rfl, wo⟩ := open_string Tryd.underlying9 (hval 3 9 v3 rfl rfl) h3
  obtain ⟨o, rfl⟩ := str_list bo
  refine (edits_walk _ l k v o W hl).mono fun e W' ⟨he, hb⟩ => ⟨_, he, ?_⟩
  exact LawFrame.law_post labelEdits_laidOut (by kernel_rfl) (by kernel_rfl) Tryd.underlying4 rfl ⟨rfl, rfl, rfl⟩ hW' hb

set_option maxRecDepth 100000 in
theorem labelEdits_lifted (os : Os) (started : os.Started) (H : Type) (enc : TypeId × Value → H) :
    ReturnsInHanded {} Tryd.checked os 9 .any (fun w args => (Rows.labelEditsSpec.pre enc Tryd.prog Tryd.f9 Rows.labelEditsRow.domain false w args ∧ laidMetH Tryd.prog Rows.labelEditsRow.laid w) ∧ sizedMet enc Tryd.prog Tryd.f9 (OpenSpec.ofChange Rows.labelEditsSpec) false w args)
      (Rows.labelEditsSpec.post enc Tryd.prog Tryd.f9 false true false false) := by
  refine returnsInHanded_of_change_and (C := Tryd.checked) (X := fun w _ => laidMetH Tryd.prog Rows.labelEditsRow.laid w) (fun _ _ _ hh h => h.of_heap hh) labelEdits_own started (by kernel_rfl) Tryd.func9
    (ChangeSpec.witness_shaped (enc := enc) (C := Tryd.checked) (os := os) (X := fun w _ => laidMetH Tryd.prog Rows.labelEditsRow.laid w) false (World.laidAll Tryd.prog os Rows.labelEditsRow.laid) #[.slice none 0 0, .string { data := #[] }, .string { data := #[] }, .string { data := #[] }] 8 (World.laidAll_os _ _ _)
      (World.shaped_of_ZipB (by kernel_rfl) (by kernel_rfl)) (by kernel_rfl) (by kernel_rfl) (by kernel_rfl)
      (by rw [MakeChecks.laidMetH_plain _ _ _ (by kernel_rfl)]; exact laidMet_laidAll _ (by kernel_rfl) (by kernel_rfl))) ?_
  intro W base args ds gs before hval hW _ _ _ _
  exact labelEdits_contract H enc W base args ds gs before hval hW

theorem labelEdits_holds : Rows.LabelEditsSaid :=
  OpenClaim.holds_of_wide 9 Tryd.f9 rfl rfl rfl rfl rfl rfl rfl ⟨rfl, rfl, rfl, rfl, rfl⟩ rfl rfl rfl rfl rfl (by kernel_rfl) Tryd.func9 (by kernel_rfl)
    (of_decide_eq_true (by kernel_rfl)) (by unfold Func.isWrapper; first | (rw [if_pos (by decide +kernel)]; kernel_rfl) | (rw [if_neg (by decide +kernel)]; exact ⟨rfl, rfl⟩))
    (fun os started H enc _ => labelEdits_lifted os started H enc)

theorem labelEdits_plain (f : FuncId) (fn : Func) (hf : Tryd.pinned.checked.prog.funcNamed "orchestrator/orchestratorlaw03.LabelEdits" = some f) (hfn : Tryd.pinned.checked.prog.funcs[f]? = some fn) :
    false = Tryd.pinned.checked.prog.looks [] ∧ ∀ (j : Nat) t, fn.params[j]? = some t → Tryd.pinned.checked.prog.wantsStandIn t = false := by
  obtain rfl : f = 9 := Option.some.inj ((show Tryd.prog.funcNamed "orchestrator/orchestratorlaw03.LabelEdits" = some 9 by kernel_rfl).symm.trans hf) |>.symm
  obtain rfl : fn = Tryd.f9 := (Option.some.inj (Tryd.func9.symm.trans hfn)).symm
  refine ⟨by kernel_rfl, fun j t ht => ?_⟩
  have hall : (Tryd.f9.params.all fun u => !Tryd.prog.wantsStandIn u) = true := by kernel_rfl
  exact (show Tryd.prog.wantsStandIn t = false by simpa using Array.all_eq_true_iff_forall_mem.1 hall t (Array.mem_of_getElem? ht))

theorem labelEdits_card : Rows.LabelEditsCardSaid :=
  Claim7.holds_tied_plain_at .later [] _ _ _ _ labelEdits_holds (fun _ h => by cases h) (by kernel_rfl) (fun _ h => by cases h) labelEdits_row_tie rfl ⟨rfl, rfl⟩ (by kernel_rfl) rfl labelEdits_plain (by kernel_rfl)
#print axioms labelEdits_card
end Go.Proofs.YtfohhokdcobhjaaDoor
