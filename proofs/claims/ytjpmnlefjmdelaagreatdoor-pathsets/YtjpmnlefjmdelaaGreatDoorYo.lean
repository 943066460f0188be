/- The reference's Alike of equal values; plain. -/
import Derived.Test.YtjpmnlefjmdelaaGreatDoorXzJ
set_option linter.unusedSimpArgs false
set_option linter.unusedVariables false
namespace Go.Proofs.YtjpmnlefjmdelaaGreatDoor
open Go.RowKit Go.Sort Go.Proofs.LawFrame

set_option maxHeartbeats 8000000 in
set_option maxRecDepth 4000 in
theorem alike_any : ∀ (N : Nat) (t : T), SizeOf.sizeOf t ≤ N → ∀ (c d : VC) (w : World), Is w c t → Is w d t →
    Calls Tryz.prog 38 #[c.val, d.val] w fun e w' => e = .returned (.bool true) ∧ Below w.heap.size w w' := by
  intro N
  induction N with
  | zero => rintro ⟨k, n, s, l, f⟩ h; simp at h
  | succ N ih =>
    rintro ⟨k, n, s, l, f⟩ hN ⟨k', n', s', la, ln, lc, fa, fn, fc⟩ ⟨k2', n2', s2', la2, ln2, lc2, fa2, fn2, fc2⟩ w hI hJ
    obtain ⟨rfl, rfl, rfl⟩ : k' = k ∧ n' = n ∧ s' = s := hI.same
    obtain ⟨rfl, rfl, rfl⟩ : k2' = k' ∧ n2' = n' ∧ s2' = s' := hJ.same
    have hl := hI.vals
    have hf := hI.flds
    have hl2 := hJ.vals
    have hf2 := hJ.flds
    clear hI hJ
    obtain ⟨rfl, hlc, hlm⟩ := hl.slice
    obtain ⟨rfl, hfc, hfm⟩ := hf.slice
    obtain ⟨rfl, hlc2, hlm2⟩ := hl2.slice
    obtain ⟨rfl, hfc2, hfm2⟩ := hf2.slice
    unfold maxLen at hlm hfm hlm2 hfm2
    have HL := Lib.hid (And.intro hl (And.intro hf (And.intro hl2 hf2)))
    clear hl hf hl2 hf2
    have hw0 : Below w.heap.size w ((w.alloc (.cells #[.int .i64 k2', .int .i64 n2', sV s2', .slice la l.length lc, .slice fa f.length fc] 25)).alloc (.cells #[.int .i64 k2', .int .i64 n2', sV s2', .slice la2 l.length lc2, .slice fa2 f.length fc2] 25)) := ((Below.refl _ _).alloc (Nat.le_refl _) _).alloc (by simp) _
    have oA : Own ((w.alloc (.cells #[.int .i64 k2', .int .i64 n2', sV s2', .slice la l.length lc, .slice fa f.length fc] 25)).alloc (.cells #[.int .i64 k2', .int .i64 n2', sV s2', .slice la2 l.length lc2, .slice fa2 f.length fc2] 25)) w.heap.size [.int .i64 k2', .int .i64 n2', sV s2', .slice la l.length lc, .slice fa f.length fc] 25 := (Own.new _ _ _).alloc _
    have oB : Own ((w.alloc (.cells #[.int .i64 k2', .int .i64 n2', sV s2', .slice la l.length lc, .slice fa f.length fc] 25)).alloc (.cells #[.int .i64 k2', .int .i64 n2', sV s2', .slice la2 l.length lc2, .slice fa2 f.length fc2] 25)) (w.heap.size + 1) [.int .i64 k2', .int .i64 n2', sV s2', .slice la2 l.length lc2, .slice fa2 f.length fc2] 25 := Own.new_at (by rw [size_alloc]) _ _
    go_enter Tryz.func38, Tryz.ntmps38
    go_upto_region 1 with (fail)
    change Code.wp Tryz.prog _ _ _ ((w.alloc (.cells #[.int .i64 k2', .int .i64 n2', sV s2', .slice la l.length lc, .slice fa f.length fc] 25)).alloc (.cells #[.int .i64 k2', .int .i64 n2', sV s2', .slice la2 l.length lc2, .slice fa2 f.length fc2] 25))
    generalize ((w.alloc (.cells #[.int .i64 k2', .int .i64 n2', sV s2', .slice la l.length lc, .slice fa f.length fc] 25)).alloc (.cells #[.int .i64 k2', .int .i64 n2', sV s2', .slice la2 l.length lc2, .slice fa2 f.length fc2] 25)) = V0 at *
    have a0 := oA.cell (i := 0) rfl
    have a1 := oA.cell (i := 1) rfl
    have a2 := oA.cell (i := 2) rfl
    have a3 := oA.cell (i := 3) rfl
    have a4 := oA.cell (i := 4) rfl
    have b0 := oB.cell (i := 0) rfl
    have b1 := oB.cell (i := 1) rfl
    have b2 := oB.cell (i := 2) rfl
    have b3 := oB.cell (i := 3) rfl
    have b4 := oB.cell (i := 4) rfl
    have HO := Lib.hid (And.intro hw0 (And.intro oA oB))
    clear hw0 oA oB
    go_wp2
    clear a0 a1 a2 a3 a4 b0 b1 b2 b3 b4
    go_loopg [5] l.length (fun g i wr => ∃ k : Nat, k ≤ l.length ∧ g = l.length - k ∧ i = .int .i64 k ∧ Below w.heap.size w wr ∧ Own wr w.heap.size [.int .i64 k2', .int .i64 n2', sV s2', .slice la l.length lc, .slice fa f.length fc] 25 ∧ Own wr (w.heap.size + 1) [.int .i64 k2', .int .i64 n2', sV s2', .slice la2 l.length lc2, .slice fa2 f.length fc2] 25)
    case atStart => exact ⟨0, Nat.zero_le _, rfl, rfl, HO.out.1, HO.out.2.1, HO.out.2.2⟩
    case round =>
      obtain ⟨k, hk, hg, rfl, hb, oA, oB⟩ := hrel
      have HG := Lib.hid hg
      clear hg HO
      have p3 := oA.cell (i := 3) rfl
      have q3 := oB.cell (i := 3) rfl
      by_cases hlt : k < l.length
      · have hx := get_some hlt
        generalize l[k] = x at hx
        obtain ⟨b, off, c, rfl, hbl, hIx, x0, x1, x2, x3, x4⟩ := HL.out.1.at hb hx
        obtain ⟨b', off', d, rfl, hbl', hIy, y0, y1, y2, y3, y4⟩ := HL.out.2.2.1.at hb hx
        have hsz : SizeOf.sizeOf x ≤ N := by have := sizeOf_l (k := k2') (n := n2') (s := s2') (f := f) (List.mem_of_getElem? hx); omega
        have cC : ∀ dd os, Calls Tryz.prog 38 #[c.val, d.val] (grow (redrawn wr dd) os) fun e w'' => e = .returned (.bool true) ∧ ∃ p : Regrown, w'' = grow (redrawn wr p.d) p.os := fun dd os => Calls.regrown_of (ih x hsz c d _ (hIx.all (below_regrown wr dd os)) (hIy.all (below_regrown wr dd os)))
        clear hx hIx hIy ih
        have HH := Lib.hid (And.intro hb (And.intro oA oB))
        clear hb oA oB
        have gp := cell_regrown p3
        have gq := cell_regrown q3
        have gx0 := cell_regrown x0
        have gy0 := cell_regrown y0
        have gx1 := cell_regrown x1
        have gy1 := cell_regrown y1
        have gx2 := cell_regrown x2
        have gy2 := cell_regrown y2
        have gx3 := cell_regrown x3
        have gy3 := cell_regrown y3
        have gx4 := cell_regrown x4
        have gy4 := cell_regrown y4
        go_upto_region 6 with (fail)
        refine wp_region_quiet_below (by kernel_rfl) (by kernel_rfl) ?_
        repeat (first | go_big_quiet_step ((with_reducible exact cC _ _)) | quiet_step (with_reducible exact cC _ _))
        refine wpQuiet_nil ?_
        intro _ hw'
        obtain ⟨⟨dq, osq⟩, hw''⟩ := hw'
        subst hw''
        have hb1 := below_all HH.out.1 (below_regrown wr dq osq)
        have oA1 := HH.out.2.1.all (below_regrown wr dq osq)
        have oB1 := HH.out.2.2.all (below_regrown wr dq osq)
        clear cC gp gq p3 q3 x0 x1 x2 x3 x4 y0 y1 y2 y3 y4 gx0 gy0 gx1 gy1 gx2 gy2 gx3 gy3 gx4 gy4
        generalize grow (redrawn wr dq) osq = W3 at *
        go_wp2
        go_roundg (l.length - (k + 1))
        case measure => have := HG.out; omega
        case rel => exact ⟨k + 1, by omega, rfl, by go_num, hb1, oA1, oB1⟩
      · obtain rfl : k = l.length := by omega
        have p4 := oA.cell (i := 4) rfl
        have HH := Lib.hid (And.intro hb (And.intro oA oB))
        clear hb oA oB q3
        go_wp2
        clear p3 p4
        go_loopg [6] f.length (fun g i wr => ∃ k : Nat, k ≤ f.length ∧ g = f.length - k ∧ i = .int .i64 k ∧ Below w.heap.size w wr ∧ Own wr w.heap.size [.int .i64 k2', .int .i64 n2', sV s2', .slice la l.length lc, .slice fa f.length fc] 25 ∧ Own wr (w.heap.size + 1) [.int .i64 k2', .int .i64 n2', sV s2', .slice la2 l.length lc2, .slice fa2 f.length fc2] 25)
        case atStart => exact ⟨0, Nat.zero_le _, rfl, rfl, HH.out.1, HH.out.2.1, HH.out.2.2⟩
        case round =>
          clear hk hlt HG
          obtain ⟨k, hk, hg, rfl, hb, oA, oB⟩ := hrel
          have HG := Lib.hid hg
          clear hg HH
          have p4 := oA.cell (i := 4) rfl
          have q4 := oB.cell (i := 4) rfl
          by_cases hlt : k < f.length
          · have hx := get_some hlt
            generalize f[k] = x at hx
            obtain ⟨b, off, c, rfl, hbl, hIx, xx, x0, x1, x2, x3, x4⟩ := HL.out.2.1.at hb hx
            obtain ⟨b', off', d, rfl, hbl', hIy, yy, y0, y1, y2, y3, y4⟩ := HL.out.2.2.2.at hb hx
            have hsz : SizeOf.sizeOf x.2 ≤ N := by have := sizeOf_f (k := k2') (n := n2') (s := s2') (l := l) (List.mem_of_getElem? hx); omega
            have cC : ∀ dd os, Calls Tryz.prog 38 #[c.val, d.val] (grow (redrawn wr dd) os) fun e w'' => e = .returned (.bool true) ∧ ∃ p : Regrown, w'' = grow (redrawn wr p.d) p.os := fun dd os => Calls.regrown_of (ih x.2 hsz c d _ (hIx.all (below_regrown wr dd os)) (hIy.all (below_regrown wr dd os)))
            clear hx hIx hIy ih
            have HH := Lib.hid (And.intro hb (And.intro oA oB))
            clear hb oA oB
            have gp := cell_regrown p4
            have gq := cell_regrown q4
            have gxx := cell_regrown xx
            have gyy := cell_regrown yy
            have gx0 := cell_regrown x0
            have gy0 := cell_regrown y0
            have gx1 := cell_regrown x1
            have gy1 := cell_regrown y1
            have gx2 := cell_regrown x2
            have gy2 := cell_regrown y2
            have gx3 := cell_regrown x3
            have gy3 := cell_regrown y3
            have gx4 := cell_regrown x4
            have gy4 := cell_regrown y4
            go_upto_region 11 with (fail)
            refine wp_region_quiet_below (by kernel_rfl) (by kernel_rfl) ?_
            repeat (first | go_big_quiet_step ((with_reducible exact cC _ _)) | quiet_step (with_reducible exact cC _ _))
            refine wpQuiet_nil ?_
            intro _ hw'
            obtain ⟨⟨dq, osq⟩, hw''⟩ := hw'
            subst hw''
            have hb1 := below_all HH.out.1 (below_regrown wr dq osq)
            have oA1 := HH.out.2.1.all (below_regrown wr dq osq)
            have oB1 := HH.out.2.2.all (below_regrown wr dq osq)
            clear cC gp gq p4 q4 xx yy gxx gyy x0 x1 x2 x3 x4 y0 y1 y2 y3 y4 gx0 gy0 gx1 gy1 gx2 gy2 gx3 gy3 gx4 gy4
            generalize grow (redrawn wr dq) osq = W3 at *
            go_wp2
            go_roundg (f.length - (k + 1))
            case measure => have := HG.out; omega
            case rel => exact ⟨k + 1, by omega, rfl, by go_num, hb1, oA1, oB1⟩
          · obtain rfl : k = f.length := by omega
            have HB := Lib.hid hb
            clear hb oA oB q4
            go_wp2
            go_ret
            exact ⟨rfl, HB.out⟩
end Go.Proofs.YtjpmnlefjmdelaaGreatDoor
