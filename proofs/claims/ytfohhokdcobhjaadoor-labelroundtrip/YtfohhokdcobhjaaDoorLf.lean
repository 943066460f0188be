/- For every selector and label set the law LabelRoundTrip returns true: parsing a printed selector gives it back, and of a requirement and its negation exactly one holds; each argument reads afterwards as before. Condition: the listed library tables hold what their initialisers lay (tied by the card). -/
import Derived.Test.YtfohhokdcobhjaaDoorCards
import Derived.Test.YtfohhokdcobhjaaDoorTie
import Derived.Test.YtfohhokdcobhjaaDoorFr
import Derived.Test.YtfohhokdcobhjaaDoorYj
import Derived.Test.YtfohhokdcobhjaaDoorOc
import Derived.WalkKit
import Derived.ProofKit
import Derived.OpenShut
import Derived.ChangeOld
import Derived.Lib.SmallJoins
import Derived.LaidMore
import Derived.Lay
import Derived.SevenTiedAt
import Derived.Stop.Joined
namespace Go.Proofs.YtfohhokdcobhjaaDoor
open Go.ChangeShapes Go.WideShapes Go.ChangeAt Go.RowKit Go.Joins Go.Deep
open Go.ChangeMaps (open_string)

theorem labelRoundTrip_own : ownKnob Tryd.prog.godebug = none := by kernel_rfl
theorem labelRoundTrip_laidOut : laidOutB Tryd.prog = true := by kernel_rfl

set_option maxRecDepth 100000 in
theorem labelRoundTrip_contract (H : Type) (enc : TypeId × Value → H) (W : World) (base : Nat) (args : Array Value) (ds gs : List (DataW H)) (before : List MemPlace)
    (hval : ∀ (j : Nat) t v, Tryd.f8.params[j]? = some t → args[j]? = some v → Value.okWide Tryd.prog W .any base t v)
    (hW : DataW.Whole enc Tryd.prog Tryd.f8.params.toList Rows.labelRoundTripSpec.vars false W args.toList ds gs before) :
    Calls Tryd.prog 8 args W fun e W' => ∃ v, e = .returned v ∧ Rows.labelRoundTripSpec.post enc Tryd.prog Tryd.f8 false true false false W args v W' := by
  have hW' := hW
  obtain ⟨p, q, hA0, hV, rfl, hfz, hnd⟩ := hW
  have hA : DataW.TrodAll enc Tryd.prog W 0 (fun _ => true) true Tryd.f8.params.toList args.toList ds p := hA0
  rw [Tryd.params8] at hA hval
  obtain ⟨v0, vs0, d0, ds0, p0, q0, hargs, rfl, rfl, h0, r0⟩ := trodAll_cons hA
  obtain ⟨v1, vs1, d1, ds1, p1, q1, rfl, rfl, rfl, h1, r1⟩ := trodAll_cons r0
  obtain ⟨rfl, rfl, rfl⟩ := trodAll_nil r1
  obtain rfl : args = #[v0, v1] := by rw [← Array.toArray_toList (xs := args), hargs]
  obtain ⟨qsa, qsn, qsc, rfl⟩ := okWide_slice Tryd.underlying23 (hval 0 23 v0 rfl rfl)
  obtain ⟨fus, hus⟩ := h0
  obtain ⟨s, hs⟩ := reqs_of (show DataW.trod enc Tryd.prog W 0 (fun _ => true) true fus 23 [.slice qsa qsn qsc] = _ from hus)
  obtain ⟨qla, qln, qlc, rfl⟩ := okWide_slice Tryd.underlying22 (hval 1 22 v1 rfl rfl)
  obtain ⟨ful, hul⟩ := h1
  obtain ⟨l, hl⟩ := labs_of (show DataW.trod enc Tryd.prog W 0 (fun _ => true) true ful 22 [.slice qla qln qlc] = _ from hul)
  refine (roundTrip_walk _ _ l s W hs hl).mono fun e W' ⟨he, hb⟩ => ⟨_, he, ?_⟩
  exact LawFrame.law_post labelRoundTrip_laidOut (by kernel_rfl) (by kernel_rfl) Tryd.underlying4 rfl ⟨rfl, rfl, rfl⟩ hW' hb

set_option maxRecDepth 100000 in
theorem labelRoundTrip_lifted (os : Os) (started : os.Started) (H : Type) (enc : TypeId × Value → H) :
    ReturnsInHanded {} Tryd.checked os 8 .any (fun w args => (Rows.labelRoundTripSpec.pre enc Tryd.prog Tryd.f8 Rows.labelRoundTripRow.domain false w args ∧ laidMetH Tryd.prog Rows.labelRoundTripRow.laid w) ∧ sizedMet enc Tryd.prog Tryd.f8 (OpenSpec.ofChange Rows.labelRoundTripSpec) false w args)
      (Rows.labelRoundTripSpec.post enc Tryd.prog Tryd.f8 false true false false) := by
  refine returnsInHanded_of_change_and (C := Tryd.checked) (X := fun w _ => laidMetH Tryd.prog Rows.labelRoundTripRow.laid w) (fun _ _ _ hh h => h.of_heap hh) labelRoundTrip_own started (by kernel_rfl) Tryd.func8
    (ChangeSpec.witness_shaped (enc := enc) (C := Tryd.checked) (os := os) (X := fun w _ => laidMetH Tryd.prog Rows.labelRoundTripRow.laid w) false (World.laidAll Tryd.prog os Rows.labelRoundTripRow.laid) #[.slice none 0 0, .slice none 0 0] 8 (World.laidAll_os _ _ _)
      (World.shaped_of_ZipB (by kernel_rfl) (by kernel_rfl)) (by kernel_rfl) (by kernel_rfl) (by kernel_rfl)
      (by rw [MakeChecks.laidMetH_plain _ _ _ (by kernel_rfl)]; exact laidMet_laidAll _ (by kernel_rfl) (by kernel_rfl))) ?_
  intro W base args ds gs before hval hW _ _ _ _
  exact labelRoundTrip_contract H enc W base args ds gs before hval hW

theorem labelRoundTrip_holds : Rows.LabelRoundTripSaid :=
  OpenClaim.holds_of_wide 8 Tryd.f8 rfl rfl rfl rfl rfl rfl rfl ⟨rfl, rfl, rfl, rfl, rfl⟩ rfl rfl rfl rfl rfl (by kernel_rfl) Tryd.func8 (by kernel_rfl)
    (of_decide_eq_true (by kernel_rfl)) (by unfold Func.isWrapper; first | (rw [if_pos (by decide +kernel)]; kernel_rfl) | (rw [if_neg (by decide +kernel)]; exact ⟨rfl, rfl⟩))
    (fun os started H enc _ => labelRoundTrip_lifted os started H enc)

theorem labelRoundTrip_plain (f : FuncId) (fn : Func) (hf : Tryd.pinned.checked.prog.funcNamed "orchestrator/orchestratorlaw03.LabelRoundTrip" = some f) (hfn : Tryd.pinned.checked.prog.funcs[f]? = some fn) :
    false = Tryd.pinned.checked.prog.looks [] ∧ ∀ (j : Nat) t, fn.params[j]? = some t → Tryd.pinned.checked.prog.wantsStandIn t = false := by
  obtain rfl : f = 8 := Option.some.inj ((show Tryd.prog.funcNamed "orchestrator/orchestratorlaw03.LabelRoundTrip" = some 8 by kernel_rfl).symm.trans hf) |>.symm
  obtain rfl : fn = Tryd.f8 := (Option.some.inj (Tryd.func8.symm.trans hfn)).symm
  refine ⟨by kernel_rfl, fun j t ht => ?_⟩
  have hall : (Tryd.f8.params.all fun u => !Tryd.prog.wantsStandIn u) = true := by kernel_rfl
  exact (show Tryd.prog.wantsStandIn t = false by simpa using Array.all_eq_true_iff_forall_mem.1 hall t (Array.mem_of_getElem? ht))

theorem labelRoundTrip_card : Rows.LabelRoundTripCardSaid :=
  Claim7.holds_tied_plain_at .later [] _ _ _ _ labelRoundTrip_holds (fun _ h => by cases h) (by kernel_rfl) (fun _ h => by cases h) labelRoundTrip_row_tie rfl ⟨rfl, rfl⟩ (by kernel_rfl) rfl labelRoundTrip_plain (by kernel_rfl)
#print axioms labelRoundTrip_card
end Go.Proofs.YtfohhokdcobhjaaDoor
