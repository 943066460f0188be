/- The laws' walks: ResourcePods. -/
import Derived.Test.YtjjkihohmgpgdaaWe
import Derived.Test.YtjjkihohmgpgdaaRa
import Derived.Deep.Cut
import Derived.BigRegion
import Derived.Deep.DeepCutAuto
namespace Go.Proofs.Ytjjkihohmgpgdaa
open Go.RowKit Go.Sort Go.Proofs.LawFrame

/-- a pod with nothing but containers, cell by cell -/
def EP (cv : Value) : List Value := [.string { data := #[] }, .int .i64 0, .int .i64 0, .int .i64 0, cv, .slice none 0 0, .slice none 0 0, .slice none 0 0, .slice none 0 0, .slice none 0 0]

theorem add_parts (f0 f1 f2 : CV → Int) (l : List CV) (j : Nat) (w : World) : Calls Try.prog 9 #[.agg #[.int .i64 (sumC f0 (l.take j)), .int .i64 (sumC f1 (l.take j)), .int .i64 (sumC f2 (l.take j))], .agg #[.int .i64 (sumC f0 (l.drop j)), .int .i64 (sumC f1 (l.drop j)), .int .i64 (sumC f2 (l.drop j))]] w fun e w' => e = .returned (.agg #[.int .i64 (sumC f0 l), .int .i64 (sumC f1 l), .int .i64 (sumC f2 l)]) ∧ Below w.heap.size w w' := by
  have h := add_any (sumC f0 (l.take j)) (sumC f1 (l.take j)) (sumC f2 (l.take j)) (sumC f0 (l.drop j)) (sumC f1 (l.drop j)) (sumC f2 (l.drop j)) w
  rw [sumC_append, sumC_append, sumC_append, List.take_append_drop] at h
  exact h
theorem add_parts' (f0 f1 f2 : CV → Int) (l : List CV) (j : Nat) (w : World) : Calls Try.prog 9 #[.agg #[.int .i64 (sumC f0 (l.drop j)), .int .i64 (sumC f1 (l.drop j)), .int .i64 (sumC f2 (l.drop j))], .agg #[.int .i64 (sumC f0 (l.take j)), .int .i64 (sumC f1 (l.take j)), .int .i64 (sumC f2 (l.take j))]] w fun e w' => e = .returned (.agg #[.int .i64 (sumC f0 l), .int .i64 (sumC f1 l), .int .i64 (sumC f2 l)]) ∧ Below w.heap.size w w' := by
  have h := add_any (sumC f0 (l.drop j)) (sumC f1 (l.drop j)) (sumC f2 (l.drop j)) (sumC f0 (l.take j)) (sumC f1 (l.take j)) (sumC f2 (l.take j)) w
  rw [addZ_comm (sumC f0 (l.drop j)), addZ_comm (sumC f1 (l.drop j)), addZ_comm (sumC f2 (l.drop j)), sumC_append, sumC_append, sumC_append, List.take_append_drop] at h
  exact h

set_option maxRecDepth 100000 in
set_option maxHeartbeats 2000000 in
theorem pods_walk (x0 x1 x2 x3 x5 x6 x7 x8 x9 : Value) (cv : Value) (l : List CV) (k : Int) (w : World) (hc : Conts w cv l) :
    Calls Try.prog 4 #[.agg #[x0, x1, x2, x3, cv, x5, x6, x7, x8, x9], .int .i64 k] w fun e w' => e = .returned (.bool true) ∧ Below w.heap.size w w' := by
  obtain ⟨ao, cap, rfl, hlc, hcap, -⟩ := hc.out
  unfold maxLen at hcap
  go_enter Try.func4, Try.ntmps4
  go_wp2
  have hw0 : Below w.heap.size w (w.alloc (.cells #[x0, x1, x2, x3, .slice ao l.length cap, x5, x6, x7, x8, x9] 34)) := (Below.refl _ _).alloc (Nat.le_refl _) _
  have oP : Own (w.alloc (.cells #[x0, x1, x2, x3, .slice ao l.length cap, x5, x6, x7, x8, x9] 34)) w.heap.size [x0, x1, x2, x3, .slice ao l.length cap, x5, x6, x7, x8, x9] 34 := Own.new _ _ _
  replace hc := hc.all hw0
  generalize w.alloc (.cells #[x0, x1, x2, x3, .slice ao l.length cap, x5, x6, x7, x8, x9] 34) = W at *
  have p0 := cell_regrown (oP.cell (i := 0) rfl)
  have p1 := cell_regrown (oP.cell (i := 1) rfl)
  have p2 := cell_regrown (oP.cell (i := 2) rfl)
  have p3 := cell_regrown (oP.cell (i := 3) rfl)
  have p4 := cell_regrown (oP.cell (i := 4) rfl)
  have p5 := cell_regrown (oP.cell (i := 5) rfl)
  have p6 := cell_regrown (oP.cell (i := 6) rfl)
  have p7 := cell_regrown (oP.cell (i := 7) rfl)
  have p8 := cell_regrown (oP.cell (i := 8) rfl)
  have p9 := cell_regrown (oP.cell (i := 9) rfl)
  have cQ : ∀ dd os, Calls Try.prog 15 #[.agg #[x0, x1, x2, x3, .slice ao l.length cap, x5, x6, x7, x8, x9]] (grow (redrawn W dd) os) fun e w'' => e = .returned (.agg #[.int .i64 (sumC CV.r0 l), .int .i64 (sumC CV.r1 l), .int .i64 (sumC CV.r2 l)]) ∧ ∃ p : Regrown, w'' = grow (redrawn W p.d) p.os := fun dd os => Calls.regrown_of (requests_any _ _ _ _ _ _ _ _ _ _ _ _ (hc.all (below_regrown W dd os)))
  have cRQ : ∀ dd os, Calls Try.prog 16 #[.agg #[x0, x1, x2, x3, .slice ao l.length cap, x5, x6, x7, x8, x9]] (grow (redrawn W dd) os) fun e w'' => e = .returned (.agg #[.int .i64 (sumC CV.r0 l), .int .i64 (sumC CV.r1 l), .int .i64 (sumC CV.r2 l)]) ∧ ∃ p : Regrown, w'' = grow (redrawn W p.d) p.os := fun dd os => Calls.regrown_of (rrequests_any _ _ _ _ _ _ _ _ _ _ _ _ (hc.all (below_regrown W dd os)))
  have cM : ∀ dd os, Calls Try.prog 17 #[.agg #[x0, x1, x2, x3, .slice ao l.length cap, x5, x6, x7, x8, x9]] (grow (redrawn W dd) os) fun e w'' => e = .returned (.agg #[.int .i64 (sumC CV.l0 l), .int .i64 (sumC CV.l1 l), .int .i64 (sumC CV.l2 l)]) ∧ ∃ p : Regrown, w'' = grow (redrawn W p.d) p.os := fun dd os => Calls.regrown_of (limits_any _ _ _ _ _ _ _ _ _ _ _ _ (hc.all (below_regrown W dd os)))
  have cRM : ∀ dd os, Calls Try.prog 18 #[.agg #[x0, x1, x2, x3, .slice ao l.length cap, x5, x6, x7, x8, x9]] (grow (redrawn W dd) os) fun e w'' => e = .returned (.agg #[.int .i64 (sumC CV.l0 l), .int .i64 (sumC CV.l1 l), .int .i64 (sumC CV.l2 l)]) ∧ ∃ p : Regrown, w'' = grow (redrawn W p.d) p.os := fun dd os => Calls.regrown_of (rlimits_any _ _ _ _ _ _ _ _ _ _ _ _ (hc.all (below_regrown W dd os)))
  have HC := Lib.hid hc
  clear hc
  refine wp_region_quiet_below (by kernel_rfl) (by kernel_rfl) ?_
  repeat (first | go_big_quiet_step ((first | with_reducible exact cQ _ _ | with_reducible exact cRQ _ _ | with_reducible exact cM _ _ | with_reducible exact cRM _ _)) | quiet_step (first | with_reducible exact cQ _ _ | with_reducible exact cRQ _ _ | with_reducible exact cM _ _ | with_reducible exact cRM _ _))
  refine wpQuiet_nil ?_
  intro _ hw'
  obtain ⟨⟨dq, osq⟩, hw''⟩ := hw'
  subst hw''
  have hw1 := below_all hw0 (below_regrown W dq osq)
  replace oP := oP.all (below_regrown W dq osq)
  have hc := HC.out.all (below_regrown W dq osq)
  clear p0 p1 p2 p3 p4 p5 p6 p7 p8 p9 cQ cRQ cM cRM hw0 HC
  generalize grow (redrawn W dq) osq = V at *
  have s4 : V.cell? ⟨w.heap.size, 4, none⟩ = some (.slice ao l.length cap) := oP.cell rfl
  have HC := Lib.hid (And.intro hw1 (And.intro oP hc))
  clear hw1 oP hc
  by_cases hk0 : k < 0
  · go_wp2_with fail
    refine (lives_any _).mono ?_
    rintro e V2 ⟨rfl, hb⟩
    go_wp2
    go_ret
    exact ⟨rfl, below_all HC.out.1 hb⟩
  · by_cases hk1 : (l.length : Int) < k
    · go_wp2_with fail
      refine (lives_any _).mono ?_
      rintro e V2 ⟨rfl, hb⟩
      go_wp2
      go_ret
      exact ⟨rfl, below_all HC.out.1 hb⟩
    · obtain ⟨j, rfl⟩ := Int.eq_ofNat_of_zero_le (show 0 ≤ k by omega)
      have hj : j ≤ l.length := by omega
      have hjc : j ≤ cap := by omega
      clear hk0 hk1
      go_wp2
      have hlt := HC.out.2.1.lt
      go_cut [5, 6] (fun s5 s6 wx => ∃ (x y : Nat) (bv : Value), s5 = .pointer (some ⟨x, 0, none⟩) ∧ s6 = .pointer (some ⟨y, 0, none⟩) ∧ Below V.heap.size V wx ∧ Conts V bv (l.drop j) ∧ Own wx x (EP (.slice ao j cap)) 34 ∧ Own wx y (EP bv) 34)
      case first =>
        by_cases hcj : cap = j
        · subst hcj
          go_region
          all_goals
            go_wp2_with fail
            go_meet
            refine ⟨_, _, _, rfl, rfl, ?_, conts_empty (ao := ao) hlc 0 0 rfl (Nat.zero_le _), ?_, ?_⟩
            · exact ((((Below.refl _ _).alloc (Nat.le_refl _) _).alloc (by simp) _).drew)
            · first | exact (Own.new _ _ _).alloc _ | exact Own.new_at (by rw [size_alloc]) _ _
            · first | exact (Own.new _ _ _).alloc _ | exact Own.new_at (by rw [size_alloc]) _ _
        · go_region
          all_goals
            go_wp2_with fail
            go_meet
            refine ⟨_, _, _, rfl, rfl, ?_, HC.out.2.2.drop j, ?_, ?_⟩
            · exact ((((Below.refl _ _).alloc (Nat.le_refl _) _).alloc (by simp) _).drew)
            · first | exact (Own.new _ _ _).alloc _ | exact Own.new_at (by rw [size_alloc]) _ _
            · first | exact (Own.new _ _ _).alloc _ | exact Own.new_at (by rw [size_alloc]) _ _
      case rest =>
        obtain ⟨x, y, bv, rfl, rfl, hb, hd, oX, oY⟩ := hcut
        obtain ⟨hw1, oP, hc⟩ := HC.out
        have hT := (hc.take hj).all hb
        have hD := hd.all hb
        have hw2 := below_all hw1 hb
        replace oP := oP.all hb
        replace hc := hc.all hb
        clear HC hb hd hw1 s4 hlt
        go_wp2
        have cp0 := cell_regrown (Own.cell (i := 0) oP rfl)
        have cp1 := cell_regrown (Own.cell (i := 1) oP rfl)
        have cp2 := cell_regrown (Own.cell (i := 2) oP rfl)
        have cp3 := cell_regrown (Own.cell (i := 3) oP rfl)
        have cp4 := cell_regrown (Own.cell (i := 4) oP rfl)
        have cp5 := cell_regrown (Own.cell (i := 5) oP rfl)
        have cp6 := cell_regrown (Own.cell (i := 6) oP rfl)
        have cp7 := cell_regrown (Own.cell (i := 7) oP rfl)
        have cp8 := cell_regrown (Own.cell (i := 8) oP rfl)
        have cp9 := cell_regrown (Own.cell (i := 9) oP rfl)
        have cx0 := cell_regrown (Own.cell (i := 0) oX rfl)
        have cx1 := cell_regrown (Own.cell (i := 1) oX rfl)
        have cx2 := cell_regrown (Own.cell (i := 2) oX rfl)
        have cx3 := cell_regrown (Own.cell (i := 3) oX rfl)
        have cx4 := cell_regrown (Own.cell (i := 4) oX rfl)
        have cx5 := cell_regrown (Own.cell (i := 5) oX rfl)
        have cx6 := cell_regrown (Own.cell (i := 6) oX rfl)
        have cx7 := cell_regrown (Own.cell (i := 7) oX rfl)
        have cx8 := cell_regrown (Own.cell (i := 8) oX rfl)
        have cx9 := cell_regrown (Own.cell (i := 9) oX rfl)
        have cy0 := cell_regrown (Own.cell (i := 0) oY rfl)
        have cy1 := cell_regrown (Own.cell (i := 1) oY rfl)
        have cy2 := cell_regrown (Own.cell (i := 2) oY rfl)
        have cy3 := cell_regrown (Own.cell (i := 3) oY rfl)
        have cy4 := cell_regrown (Own.cell (i := 4) oY rfl)
        have cy5 := cell_regrown (Own.cell (i := 5) oY rfl)
        have cy6 := cell_regrown (Own.cell (i := 6) oY rfl)
        have cy7 := cell_regrown (Own.cell (i := 7) oY rfl)
        have cy8 := cell_regrown (Own.cell (i := 8) oY rfl)
        have cy9 := cell_regrown (Own.cell (i := 9) oY rfl)
        have cL : ∀ dd os, Calls Try.prog 8 #[] (grow (redrawn wc dd) os) fun e w'' => e = .returned (.bool true) ∧ ∃ p : Regrown, w'' = grow (redrawn wc p.d) p.os := fun dd os => Calls.regrown_of (lives_any _)
        have cQX : ∀ dd os, Calls Try.prog 15 #[.agg #[.string { data := #[] }, .int .i64 0, .int .i64 0, .int .i64 0, .slice ao j cap, .slice none 0 0, .slice none 0 0, .slice none 0 0, .slice none 0 0, .slice none 0 0]] (grow (redrawn wc dd) os) fun e w'' => e = .returned (.agg #[.int .i64 (sumC CV.r0 (l.take j)), .int .i64 (sumC CV.r1 (l.take j)), .int .i64 (sumC CV.r2 (l.take j))]) ∧ ∃ p : Regrown, w'' = grow (redrawn wc p.d) p.os := fun dd os => Calls.regrown_of (requests_any _ _ _ _ _ _ _ _ _ _ _ _ (hT.all (below_regrown wc dd os)))
        have cQY : ∀ dd os, Calls Try.prog 15 #[.agg #[.string { data := #[] }, .int .i64 0, .int .i64 0, .int .i64 0, bv, .slice none 0 0, .slice none 0 0, .slice none 0 0, .slice none 0 0, .slice none 0 0]] (grow (redrawn wc dd) os) fun e w'' => e = .returned (.agg #[.int .i64 (sumC CV.r0 (l.drop j)), .int .i64 (sumC CV.r1 (l.drop j)), .int .i64 (sumC CV.r2 (l.drop j))]) ∧ ∃ p : Regrown, w'' = grow (redrawn wc p.d) p.os := fun dd os => Calls.regrown_of (requests_any _ _ _ _ _ _ _ _ _ _ _ _ (hD.all (below_regrown wc dd os)))
        have cQP : ∀ dd os, Calls Try.prog 15 #[.agg #[x0, x1, x2, x3, .slice ao l.length cap, x5, x6, x7, x8, x9]] (grow (redrawn wc dd) os) fun e w'' => e = .returned (.agg #[.int .i64 (sumC CV.r0 l), .int .i64 (sumC CV.r1 l), .int .i64 (sumC CV.r2 l)]) ∧ ∃ p : Regrown, w'' = grow (redrawn wc p.d) p.os := fun dd os => Calls.regrown_of (requests_any _ _ _ _ _ _ _ _ _ _ _ _ (hc.all (below_regrown wc dd os)))
        have cMX : ∀ dd os, Calls Try.prog 17 #[.agg #[.string { data := #[] }, .int .i64 0, .int .i64 0, .int .i64 0, .slice ao j cap, .slice none 0 0, .slice none 0 0, .slice none 0 0, .slice none 0 0, .slice none 0 0]] (grow (redrawn wc dd) os) fun e w'' => e = .returned (.agg #[.int .i64 (sumC CV.l0 (l.take j)), .int .i64 (sumC CV.l1 (l.take j)), .int .i64 (sumC CV.l2 (l.take j))]) ∧ ∃ p : Regrown, w'' = grow (redrawn wc p.d) p.os := fun dd os => Calls.regrown_of (limits_any _ _ _ _ _ _ _ _ _ _ _ _ (hT.all (below_regrown wc dd os)))
        have cMY : ∀ dd os, Calls Try.prog 17 #[.agg #[.string { data := #[] }, .int .i64 0, .int .i64 0, .int .i64 0, bv, .slice none 0 0, .slice none 0 0, .slice none 0 0, .slice none 0 0, .slice none 0 0]] (grow (redrawn wc dd) os) fun e w'' => e = .returned (.agg #[.int .i64 (sumC CV.l0 (l.drop j)), .int .i64 (sumC CV.l1 (l.drop j)), .int .i64 (sumC CV.l2 (l.drop j))]) ∧ ∃ p : Regrown, w'' = grow (redrawn wc p.d) p.os := fun dd os => Calls.regrown_of (limits_any _ _ _ _ _ _ _ _ _ _ _ _ (hD.all (below_regrown wc dd os)))
        have cMP : ∀ dd os, Calls Try.prog 17 #[.agg #[x0, x1, x2, x3, .slice ao l.length cap, x5, x6, x7, x8, x9]] (grow (redrawn wc dd) os) fun e w'' => e = .returned (.agg #[.int .i64 (sumC CV.l0 l), .int .i64 (sumC CV.l1 l), .int .i64 (sumC CV.l2 l)]) ∧ ∃ p : Regrown, w'' = grow (redrawn wc p.d) p.os := fun dd os => Calls.regrown_of (limits_any _ _ _ _ _ _ _ _ _ _ _ _ (hc.all (below_regrown wc dd os)))
        have cA1 : ∀ dd os, Calls Try.prog 9 #[.agg #[.int .i64 (sumC CV.r0 (l.take j)), .int .i64 (sumC CV.r1 (l.take j)), .int .i64 (sumC CV.r2 (l.take j))], .agg #[.int .i64 (sumC CV.r0 (l.drop j)), .int .i64 (sumC CV.r1 (l.drop j)), .int .i64 (sumC CV.r2 (l.drop j))]] (grow (redrawn wc dd) os) fun e w'' => e = .returned (.agg #[.int .i64 (sumC CV.r0 l), .int .i64 (sumC CV.r1 l), .int .i64 (sumC CV.r2 l)]) ∧ ∃ p : Regrown, w'' = grow (redrawn wc p.d) p.os := fun dd os => Calls.regrown_of (add_parts _ _ _ _ _ _)
        have cA2 : ∀ dd os, Calls Try.prog 9 #[.agg #[.int .i64 (sumC CV.l0 (l.drop j)), .int .i64 (sumC CV.l1 (l.drop j)), .int .i64 (sumC CV.l2 (l.drop j))], .agg #[.int .i64 (sumC CV.l0 (l.take j)), .int .i64 (sumC CV.l1 (l.take j)), .int .i64 (sumC CV.l2 (l.take j))]] (grow (redrawn wc dd) os) fun e w'' => e = .returned (.agg #[.int .i64 (sumC CV.l0 l), .int .i64 (sumC CV.l1 l), .int .i64 (sumC CV.l2 l)]) ∧ ∃ p : Regrown, w'' = grow (redrawn wc p.d) p.os := fun dd os => Calls.regrown_of (add_parts' _ _ _ _ _ _)
        have HH := Lib.hid (And.intro hc (And.intro hT (And.intro hD (And.intro oP (And.intro oX oY)))))
        clear hc hT hD oP oX oY
        refine wp_region_quiet_below (by kernel_rfl) (by kernel_rfl) ?_
        repeat (first | go_big_quiet_step ((first | with_reducible exact cL _ _ | with_reducible exact cQX _ _ | with_reducible exact cQY _ _ | with_reducible exact cQP _ _ | with_reducible exact cMX _ _ | with_reducible exact cMY _ _ | with_reducible exact cMP _ _ | with_reducible exact cA1 _ _ | with_reducible exact cA2 _ _)) | quiet_step (first | with_reducible exact cL _ _ | with_reducible exact cQX _ _ | with_reducible exact cQY _ _ | with_reducible exact cQP _ _ | with_reducible exact cMX _ _ | with_reducible exact cMY _ _ | with_reducible exact cMP _ _ | with_reducible exact cA1 _ _ | with_reducible exact cA2 _ _))
        refine wpQuiet_nil ?_
        intro _ hw'
        obtain ⟨⟨dq, osq⟩, hw''⟩ := hw'
        subst hw''
        go_wp2
        go_ret
        exact ⟨rfl, below_all hw2 (below_regrown wc dq osq)⟩
end Go.Proofs.Ytjjkihohmgpgdaa
