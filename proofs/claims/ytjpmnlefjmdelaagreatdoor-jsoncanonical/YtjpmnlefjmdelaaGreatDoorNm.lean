/- The law JsonCanonical, walked. -/
import Derived.Test.YtjpmnlefjmdelaaGreatDoorNl
namespace Go.Proofs.YtjpmnlefjmdelaaGreatDoor
open Go.RowKit Go.Sort Go.Proofs.LawFrame

theorem val_nice : ∀ (d : Nat) (t : T), Val d t → t.nice := by
  intro d
  induction d with
  | zero => intro t h; exact h.elim
  | succ d ih =>
    intro t h
    have hp := val_prOk _ t h
    obtain ⟨k, n, s, l, f⟩ := t
    rw [val_eq] at h
    obtain ⟨-, -, hl, hf⟩ := h
    simp only [prOk] at hp
    obtain ⟨h1, -, h3, h4⟩ := hp
    simp only [T.nice]
    refine ⟨h1, ?_, ?_⟩
    · clear h3 h4 hf
      induction l with
      | nil => simp [niceL]
      | cons a r ihr => simp only [niceL]; exact ⟨ih a (hl a List.mem_cons_self), ihr fun x hx => hl x (List.mem_cons_of_mem _ hx)⟩
    · clear h3 hl
      induction f with
      | nil => simp [niceF]
      | cons a r ihr =>
        obtain ⟨x, u⟩ := a
        simp only [prOkF] at h4
        simp only [niceF]
        exact ⟨h4.1, ih u (hf (x, u) List.mem_cons_self), ihr (fun p hp => hf p (List.mem_cons_of_mem _ hp)) h4.2.2⟩
theorem rvalid_true {t : T} {c : VC} {w : World} (hI : Is w c t) (h : Val 12 t ∧ t.size ≤ 600) : Calls Tryz.prog 21 #[c.val] w fun e w' => e = .returned (.bool true) ∧ Below w.heap.size w w' :=
  (rvalidtop_any t c w hI (val_nice 12 t h.1) (by omega)).mono fun e w' hr => by
    obtain ⟨r, rfl, hb, hr⟩ := hr.out
    rw [hr.2 h]
    exact ⟨rfl, hb⟩

set_option maxHeartbeats 8000000 in
set_option maxRecDepth 4000 in
theorem canonical_walk (s : Str) (w : World) (ht : Tab w) :
    Calls Tryz.prog 6 #[sV s] w fun e w' => e = .returned (.bool true) ∧ Below w.heap.size w w' := by
  have HT := Lib.hid ht
  clear ht
  go_enter Tryz.func6, Tryz.ntmps6
  by_cases hs : 21000 < s.length
  · have CL := Lib.hid (jlives_any w HT.out)
    go_wp2_with fail
    refine CL.out.mono ?_
    rintro e w1 ⟨rfl, hb1⟩
    go_wp2
    go_ret
    exact ⟨rfl, hb1⟩
  · rcases parse_cases s with ⟨t, hR, hV, hz, hle, hls⟩ | ⟨k, cd, hR, hk0, hk1, hc0⟩
    · have CQ := Lib.hid (parse_is hR w)
      have HV := Lib.hid (And.intro hV hz)
      clear hR hV hz
      go_wp2_with fail
      refine CQ.out.mono ?_
      rintro e w1 ⟨c, rfl, hb1, hI1⟩
      have hA1 := below_alloc w1 (.cells #[.int .i64 c.k, .int .i64 c.n, sV c.s, .slice c.la c.ln c.lc, .slice c.fa c.fn c.fc] 25)
      have o1 := Own.new w1 [.int .i64 c.k, .int .i64 c.n, sV c.s, .slice c.la c.ln c.lc, .slice c.fa c.fn c.fc] 25
      have HS1 := Lib.hid (And.intro (below_all hb1 hA1) (And.intro o1 (hI1.all hA1)))
      clear hb1 hI1 hA1 o1 CQ
      go_upto_region 4 with (fail)
      change Code.wp Tryz.prog _ _ _ (w1.alloc (.cells #[.int .i64 c.k, .int .i64 c.n, sV c.s, .slice c.la c.ln c.lc, .slice c.fa c.fn c.fc] 25))
      generalize w1.alloc (.cells #[.int .i64 c.k, .int .i64 c.n, sV c.s, .slice c.la c.ln c.lc, .slice c.fa c.fn c.fc] 25) = V1 at *
      have a0 := HS1.out.2.1.cell (i := 0) rfl
      have a1 := HS1.out.2.1.cell (i := 1) rfl
      have a2 := HS1.out.2.1.cell (i := 2) rfl
      have a3 := HS1.out.2.1.cell (i := 3) rfl
      have a4 := HS1.out.2.1.cell (i := 4) rfl
      have CP := Lib.hid (print_any c t V1 HS1.out.2.2 (HT.out.below HS1.out.1))
      go_wp2_with fail
      clear a0 a1 a2 a3 a4
      refine CP.out.mono ?_
      rintro e w2 hp
      have hb2 := hp.below
      obtain rfl := hp.ok HV.out (by omega)
      have HS2 := Lib.hid (And.intro (below_all HS1.out.1 hb2) (And.intro (HS1.out.2.1.all hb2) (HS1.out.2.2.all hb2)))
      have hpp := parse_print HV.out.1 HV.out.2 (by omega)
      clear hb2 hp CP HS1
      generalize prV t = P at hle hpp ⊢
      have CQ := Lib.hid (parse_is hpp w2)
      clear hpp
      go_wp2_with fail
      refine CQ.out.mono ?_
      rintro e w3 ⟨c2, rfl, hb3, hI3⟩
      have hA3 := below_alloc w3 (.cells #[.int .i64 c2.k, .int .i64 c2.n, sV c2.s, .slice c2.la c2.ln c2.lc, .slice c2.fa c2.fn c2.fc] 25)
      have o3 := Own.new w3 [.int .i64 c2.k, .int .i64 c2.n, sV c2.s, .slice c2.la c2.ln c2.lc, .slice c2.fa c2.fn c2.fc] 25
      have HS3 := Lib.hid (And.intro (below_all (below_all HS2.out.1 hb3) hA3) (And.intro ((HS2.out.2.1.all hb3).all hA3) (And.intro ((HS2.out.2.2.all hb3).all hA3) (And.intro o3 (hI3.all hA3)))))
      clear hb3 hI3 hA3 o3 CQ HS2
      go_upto_region 8 with (fail)
      change Code.wp Tryz.prog _ _ _ (w3.alloc (.cells #[.int .i64 c2.k, .int .i64 c2.n, sV c2.s, .slice c2.la c2.ln c2.lc, .slice c2.fa c2.fn c2.fc] 25))
      generalize w3.alloc (.cells #[.int .i64 c2.k, .int .i64 c2.n, sV c2.s, .slice c2.la c2.ln c2.lc, .slice c2.fa c2.fn c2.fc] 25) = V3 at *
      have CL := Lib.hid (jlives_any V3 (HT.out.below HS3.out.1))
      go_wp2_with fail
      refine CL.out.mono ?_
      rintro e w4 ⟨rfl, hb4⟩
      have HS4 := Lib.hid (And.intro (below_all HS3.out.1 hb4) (And.intro (HS3.out.2.1.all hb4) (And.intro (HS3.out.2.2.1.all hb4) (And.intro (HS3.out.2.2.2.1.all hb4) (HS3.out.2.2.2.2.all hb4)))))
      clear hb4 CL HS3
      have a0 := HS4.out.2.1.cell (i := 0) rfl
      have a1 := HS4.out.2.1.cell (i := 1) rfl
      have a2 := HS4.out.2.1.cell (i := 2) rfl
      have a3 := HS4.out.2.1.cell (i := 3) rfl
      have a4 := HS4.out.2.1.cell (i := 4) rfl
      have C := Lib.hid (rvalid_true HS4.out.2.2.1 HV.out)
      go_wp2_with fail
      clear a0 a1 a2 a3 a4
      refine C.out.mono ?_
      rintro e w5 ⟨rfl, hb5⟩
      have HS5 := Lib.hid (And.intro (below_all HS4.out.1 hb5) (And.intro (HS4.out.2.1.all hb5) (And.intro (HS4.out.2.2.1.all hb5) (And.intro (HS4.out.2.2.2.1.all hb5) (HS4.out.2.2.2.2.all hb5)))))
      clear hb5 C HS4
      have a0 := HS5.out.2.1.cell (i := 0) rfl
      have a1 := HS5.out.2.1.cell (i := 1) rfl
      have a2 := HS5.out.2.1.cell (i := 2) rfl
      have a3 := HS5.out.2.1.cell (i := 3) rfl
      have a4 := HS5.out.2.1.cell (i := 4) rfl
      have b0 := HS5.out.2.2.2.1.cell (i := 0) rfl
      have b1 := HS5.out.2.2.2.1.cell (i := 1) rfl
      have b2 := HS5.out.2.2.2.1.cell (i := 2) rfl
      have b3 := HS5.out.2.2.2.1.cell (i := 3) rfl
      have b4 := HS5.out.2.2.2.1.cell (i := 4) rfl
      have C := Lib.hid (eqv_true rfl HS5.out.2.2.1 HS5.out.2.2.2.2)
      go_wp2_with fail
      clear a0 a1 a2 a3 a4 b0 b1 b2 b3 b4
      refine C.out.mono ?_
      rintro e w6 ⟨rfl, hb6⟩
      have HB := Lib.hid (below_all HS5.out.1 hb6)
      clear hb6 C HS5
      go_wp2
      go_ret
      exact ⟨rfl, HB.out⟩
    · have CQ := Lib.hid (parse_is hR w)
      clear hR
      go_wp2_with fail
      refine CQ.out.mono ?_
      rintro e w1 ⟨c, rfl, hb1, hI1⟩
      have HK := Lib.hid hI1.same.1
      have hA1 := below_alloc w1 (.cells #[.int .i64 c.k, .int .i64 c.n, sV c.s, .slice c.la c.ln c.lc, .slice c.fa c.fn c.fc] 25)
      have o1 := Own.new w1 [.int .i64 c.k, .int .i64 c.n, sV c.s, .slice c.la c.ln c.lc, .slice c.fa c.fn c.fc] 25
      have HS1 := Lib.hid (And.intro (below_all hb1 hA1) o1)
      clear hb1 hI1 hA1 o1 CQ
      go_upto_region 4 with (fail)
      change Code.wp Tryz.prog _ _ _ (w1.alloc (.cells #[.int .i64 c.k, .int .i64 c.n, sV c.s, .slice c.la c.ln c.lc, .slice c.fa c.fn c.fc] 25))
      generalize w1.alloc (.cells #[.int .i64 c.k, .int .i64 c.n, sV c.s, .slice c.la c.ln c.lc, .slice c.fa c.fn c.fc] 25) = V1 at *
      have CL := Lib.hid (jlives_any V1 (HT.out.below HS1.out.1))
      go_wp2_with fail
      refine CL.out.mono ?_
      rintro e w2 ⟨rfl, hb2⟩
      have HS2 := Lib.hid (And.intro (below_all HS1.out.1 hb2) (HS1.out.2.all hb2))
      clear hb2 CL HS1
      have a0 := HS2.out.2.cell (i := 0) rfl
      rw [HK.out] at a0
      go_wp2
      go_ret
      exact ⟨rfl, HS2.out.1⟩
end Go.Proofs.YtjpmnlefjmdelaaGreatDoor
