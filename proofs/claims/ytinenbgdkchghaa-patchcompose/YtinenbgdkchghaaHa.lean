/- The program's pairs: two maps side by side. -/
import Derived.Test.YtinenbgdkchghaaGd
import Derived.Test.YtinenbgdkchghaaGp
set_option linter.unusedSimpArgs false
set_option linter.unusedVariables false
namespace Go.Proofs.Ytinenbgdkchghaa
open Go.RowKit Go.Sort Go.Proofs.LawFrame

theorem info44 : (Try.prog.info? 44).map (fun i => (i.zero, i.size, i.bytes)) = some (some (.agg #[.string ⟨#[]⟩, .int .i64 0, .int .i64 0, .string ⟨#[]⟩, .slice none 0 0, .slice none 0 0, .int .i64 0, .int .i64 0, .string ⟨#[]⟩, .slice none 0 0, .slice none 0 0, .bool false, .bool false]), 13, 184) := by kernel_rfl
set_option maxHeartbeats 4000000 in
set_option maxRecDepth 4000 in
theorem nextSide_any (va vb : Value) (A B : List (Str × T)) (w : World) (hA : Flds w va A) (hB : Flds w vb B) :
    Calls Try.prog 40 #[va, vb] w fun e w' => e = .returned (.int .i64 (sideP A B)) ∧ Below w.heap.size w w' := by
  obtain ⟨aa, ca, rfl, hca, hma⟩ := hA.form
  obtain ⟨ab, cb, rfl, hcb, hmb⟩ := hB.form
  unfold maxLen at hma hmb
  cases B with
  | nil =>
    clear hA hB
    go_enter Try.func40, Try.ntmps40
    go_wp2
    go_ret
    exact ⟨ret_int (by cases A <;> rfl), Below.refl _ _⟩
  | cons y B =>
    cases A with
    | nil =>
      clear hA hB
      go_enter Try.func40, Try.ntmps40
      go_wp2
      go_ret
      exact ⟨rfl, Below.refl _ _⟩
    | cons x A =>
      obtain ⟨xn, xt⟩ := x
      obtain ⟨yn, yt⟩ := y
      obtain ⟨b, off, c, rfl, hbl, -, q, -⟩ := hA.at (Below.refl _ _) (i := 0) rfl
      obtain ⟨b', off', d, rfl, hbl', -, p, -⟩ := hB.at (Below.refl _ _) (i := 0) rfl
      simp only [Nat.zero_mul, Nat.add_zero] at q p
      have gq := cell_regrown q
      have gp := cell_regrown p
      have cC : ∀ dd os, Calls Try.prog 48 #[sV xn, sV yn] (grow (redrawn w dd) os) fun e w'' => e = .returned (.int .i64 (cmpS xn yn)) ∧ ∃ p : Regrown, w'' = grow (redrawn w p.d) p.os := fun dd os => Calls.regrown_of ((strCmp_any xn yn _).mono fun e w' h => ⟨h.1, by rw [← h.2]; exact Below.refl _ _⟩)
      have HCS := Lib.hid (show sideP ((xn, xt) :: A) ((yn, yt) :: B) = cmpS xn yn from rfl)
      generalize cmpS xn yn = r at *
      clear hA hB
      go_enter Try.func40, Try.ntmps40
      go_upto_region 5 with (fail)
      refine wp_region_quiet_below (by kernel_rfl) (by kernel_rfl) ?_
      repeat (first | go_big_quiet_step ((with_reducible exact cC _ _)) | quiet_step (with_reducible exact cC _ _))
      refine wpQuiet_nil ?_
      intro _ hw'
      obtain ⟨⟨dq, osq⟩, hw''⟩ := hw'
      subst hw''
      have HB := Lib.hid (below_regrown w dq osq)
      clear q p gq gp cC
      generalize grow (redrawn w dq) osq = W at *
      go_wp2
      go_ret
      exact ⟨ret_int (by rw [HCS.out]), HB.out⟩
set_option maxHeartbeats 4000000 in
set_option maxRecDepth 4000 in
theorem fieldsOf_any (c : VC) (t : T) (w : World) (hI : Is w c t) : Calls Try.prog 28 #[c.val] w fun e w' => ∃ v, e = .returned v ∧ Below w.heap.size w w' ∧ Flds w' v (fls t) := by
  obtain ⟨ck, cn, cs, la, ln, lc, fa, fn, fc⟩ := c
  obtain ⟨k, n, s, l, f⟩ := t
  obtain ⟨rfl, rfl, rfl⟩ : k = ck ∧ n = cn ∧ s = cs := ⟨hI.same.1.symm, hI.same.2.1.symm, hI.same.2.2.symm⟩
  have hb := below_alloc w (.cells #[.int .i64 k, .int .i64 n, sV s, .slice la ln lc, .slice fa fn fc] 25)
  have HO := Lib.hid (And.intro hb (And.intro (Own.new w [.int .i64 k, .int .i64 n, sV s, .slice la ln lc, .slice fa fn fc] 25) (hI.flds.all hb)))
  clear hb hI
  show Calls Try.prog 28 #[.agg #[.int .i64 k, .int .i64 n, sV s, .slice la ln lc, .slice fa fn fc]] w _
  go_enter Try.func28, Try.ntmps28
  go_upto_region 1 with (fail)
  change Code.wp Try.prog _ _ _ (w.alloc (.cells #[.int .i64 k, .int .i64 n, sV s, .slice la ln lc, .slice fa fn fc] 25))
  generalize w.alloc (.cells #[.int .i64 k, .int .i64 n, sV s, .slice la ln lc, .slice fa fn fc] 25) = V at *
  have x0 := HO.out.2.1.cell (i := 0) rfl
  have x4 := HO.out.2.1.cell (i := 4) rfl
  by_cases h5 : k = 5
  · subst h5
    go_wp2
    go_ret
    exact ⟨_, rfl, HO.out.1, by rw [fls_is rfl]; exact HO.out.2.2⟩
  · have e5 : (k != 5) = true := by rw [bne_iff_ne]; exact h5
    have HF : Hid (fls (.mk k n s l f) = []) := Lib.hid (fls_not h5)
    clear h5
    go_wp2
    go_ret
    exact ⟨.slice none 0 0, rfl, HO.out.1, by rw [HF.out]; exact ⟨[], rfl, Flat.nil _ _ _ (Nat.zero_le _) _, fun i x t h => by simp at h, fun i x t h => by simp at h⟩⟩
end Go.Proofs.Ytinenbgdkchghaa
