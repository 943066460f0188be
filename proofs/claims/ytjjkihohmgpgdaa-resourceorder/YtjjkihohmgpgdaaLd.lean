/- For every three amounts the law ResourceOrder returns true: Fits is reflexive, antisymmetric and transitive on clamped amounts, and a need fits exactly if adding the difference yields the free amount; each argument reads afterwards as before. No condition. -/
import Derived.Test.YtjjkihohmgpgdaaRows
import Derived.Test.YtjjkihohmgpgdaaFr
import Derived.Test.YtjjkihohmgpgdaaWi
import Derived.WalkKit
import Derived.ProofKit
import Derived.OpenShut
import Derived.ChangeOld
import Derived.Lib.SmallJoins
namespace Go.Proofs.Ytjjkihohmgpgdaa
open Go.ChangeShapes Go.WideShapes Go.ChangeAt Go.RowKit Go.Joins Go.Deep
open Go.ChangeMaps (open_string)

theorem resourceOrder_own : ownKnob Try.prog.godebug = none := by kernel_rfl
theorem resourceOrder_laidOut : laidOutB Try.prog = true := by kernel_rfl

theorem resourceOrder_contract (H : Type) (enc : TypeId × Value → H) (W : World) (base : Nat) (args : Array Value) (ds gs : List (DataW H)) (before : List MemPlace)
    (hval : ∀ (j : Nat) t v, Try.f7.params[j]? = some t → args[j]? = some v → Value.okWide Try.prog W .any base t v)
    (hW : DataW.Whole enc Try.prog Try.f7.params.toList Rows.resourceOrderSpec.vars false W args.toList ds gs before) :
    Calls Try.prog 7 args W fun e W' => ∃ v, e = .returned v ∧ Rows.resourceOrderSpec.post enc Try.prog Try.f7 false true false false W args v W' := by
  have hW' := hW
  obtain ⟨p, q, hA0, hV, rfl, hfz, hnd⟩ := hW
  have hA : DataW.TrodAll enc Try.prog W 0 (fun _ => true) true Try.f7.params.toList args.toList ds p := hA0
  rw [Try.params7] at hA hval
  obtain ⟨v0, vs0, d0, ds0, p0, q0, hargs, rfl, rfl, h0, r0⟩ := trodAll_cons hA
  obtain ⟨v1, vs1, d1, ds1, p1, q1, rfl, rfl, rfl, h1, r1⟩ := trodAll_cons r0
  obtain ⟨v2, vs2, d2, ds2, p2, q2, rfl, rfl, rfl, h2, r2⟩ := trodAll_cons r1
  obtain ⟨rfl, rfl, rfl⟩ := trodAll_nil r2
  obtain rfl : args = #[v0, v1, v2] := by cases args; simp_all
  obtain ⟨ca0, ca1, ca2, ya0, ya1, ya2, ma, rfl, rfl, rfl, hya0, hya1, hya2⟩ := open_agg3 Try.underlying23 (by kernel_rfl) (show Try.prog.cellsOf 23 = 3 by kernel_rfl) (hval 0 23 v0 rfl rfl) h0
  obtain ⟨a0, ea0, -, -⟩ := DataW.trod_int Try.underlying3 hya0
  obtain ⟨a1, ea1, -, -⟩ := DataW.trod_int Try.underlying3 hya1
  obtain ⟨a2, ea2, -, -⟩ := DataW.trod_int Try.underlying3 hya2
  simp at ea0 ea1 ea2
  subst ea0 ea1 ea2
  obtain ⟨cb0, cb1, cb2, yb0, yb1, yb2, mb, rfl, rfl, rfl, hyb0, hyb1, hyb2⟩ := open_agg3 Try.underlying23 (by kernel_rfl) (show Try.prog.cellsOf 23 = 3 by kernel_rfl) (hval 1 23 v1 rfl rfl) h1
  obtain ⟨b0, eb0, -, -⟩ := DataW.trod_int Try.underlying3 hyb0
  obtain ⟨b1, eb1, -, -⟩ := DataW.trod_int Try.underlying3 hyb1
  obtain ⟨b2, eb2, -, -⟩ := DataW.trod_int Try.underlying3 hyb2
  simp at eb0 eb1 eb2
  subst eb0 eb1 eb2
  obtain ⟨cc0, cc1, cc2, yc0, yc1, yc2, mc, rfl, rfl, rfl, hyc0, hyc1, hyc2⟩ := open_agg3 Try.underlying23 (by kernel_rfl) (show Try.prog.cellsOf 23 = 3 by kernel_rfl) (hval 2 23 v2 rfl rfl) h2
  obtain ⟨c0, ec0, -, -⟩ := DataW.trod_int Try.underlying3 hyc0
  obtain ⟨c1, ec1, -, -⟩ := DataW.trod_int Try.underlying3 hyc1
  obtain ⟨c2, ec2, -, -⟩ := DataW.trod_int Try.underlying3 hyc2
  simp at ec0 ec1 ec2
  subst ec0 ec1 ec2
  refine (order_walk a0 a1 a2 b0 b1 b2 c0 c1 c2 W).mono fun e W' ⟨he, hb⟩ => ⟨_, he, ?_⟩
  exact LawFrame.law_post resourceOrder_laidOut (by kernel_rfl) (by kernel_rfl) Try.underlying4 rfl ⟨rfl, rfl, rfl⟩ hW' hb

set_option maxRecDepth 100000 in
theorem resourceOrder_lifted (os : Os) (started : os.Started) (H : Type) (enc : TypeId × Value → H) :
    ReturnsInHanded {} Try.checked os 7 .any (Rows.resourceOrderSpec.pre6 enc Try.prog Try.f7 Rows.resourceOrderRow.domain false) (Rows.resourceOrderSpec.post enc Try.prog Try.f7 false true false false) := by
  refine returnsInHanded_of_change (C := Try.checked) resourceOrder_own started (by kernel_rfl) Try.func7
    (ChangeSpec.witness6 (enc := enc) (C := Try.checked) false ⟨#[], #[.agg #[.int .i64 0, .int .i64 0, .int .i64 0], .agg #[.int .i64 0, .int .i64 0, .int .i64 0], .agg #[.int .i64 0, .int .i64 0, .int .i64 0]], []⟩ 8 (by kernel_rfl) (by kernel_rfl) (by kernel_rfl) (by kernel_rfl)) ?_
  intro W base args ds gs before hval hW _ _
  exact resourceOrder_contract H enc W base args ds gs before hval hW

theorem resourceOrder_holds : Rows.ResourceOrderSaid :=
  OpenClaim.holds_of_wide 7 Try.f7 rfl rfl rfl rfl rfl rfl rfl ⟨rfl, rfl, rfl, rfl, rfl⟩ rfl rfl rfl rfl rfl (by kernel_rfl) Try.func7 (by kernel_rfl)
    (of_decide_eq_true (by kernel_rfl)) (by unfold Func.isWrapper; first | (rw [if_pos (by decide +kernel)]; kernel_rfl) | (rw [if_neg (by decide +kernel)]; exact ⟨rfl, rfl⟩))
    (fun os started H enc _ => resourceOrder_lifted os started H enc)
#print axioms resourceOrder_holds
end Go.Proofs.Ytjjkihohmgpgdaa
