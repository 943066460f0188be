/- The law JsonFirst, walked. -/
import Derived.Test.YtjpmnlefjmdelaaDoorJh
import Derived.Test.YtjpmnlefjmdelaaDoorNg
namespace Go.Proofs.YtjpmnlefjmdelaaDoor
open Go.RowKit Go.Sort Go.Proofs.LawFrame

theorem parse_is {s : Str} {t : T} {a b : Int} (h : parseR s = (t, a, b)) (w : World) : Calls Tryd.prog 6 #[sV s] w fun e w' => ∃ c : VC, e = .returned (.tuple #[c.val, .int .i64 a, .int .i64 b]) ∧ Below w.heap.size w w' ∧ Is w' c t :=
  (parse_any s w).mono fun e w' hq => by
    obtain ⟨c, he, hb, hI⟩ := hq.out
    rw [h] at he hI
    exact ⟨c, he, hb, hI.is⟩
theorem ext_take {l : Str} (k : Nat) : (⟨l.toArray⟩ : ByteArray).extract 0 k = ⟨(l.take k).toArray⟩ := by
  apply ByteArray.ext; rw [ByteArray.data_extract]; simp
set_option maxHeartbeats 8000000 in
set_option maxRecDepth 4000 in
theorem first_walk (s t : Str) (w : World) (ht : Tab w) :
    Calls Tryd.prog 3 #[sV s, sV t] w fun e w' => e = .returned (.bool true) ∧ Below w.heap.size w w' := by
  have HT := Lib.hid ht
  clear ht
  go_enter Tryd.func3, Tryd.ntmps3
  by_cases hs : 4000 < s.length
  · have CL := Lib.hid (jlives_any w HT.out)
    go_wp2_with fail
    refine CL.out.mono ?_
    rintro e w1 ⟨rfl, hb1⟩
    go_wp2
    go_ret
    exact ⟨rfl, hb1⟩
  by_cases hs2 : 4000 < t.length
  · have CL := Lib.hid (jlives_any w HT.out)
    go_wp2_with fail
    refine CL.out.mono ?_
    rintro e w1 ⟨rfl, hb1⟩
    go_wp2
    go_ret
    exact ⟨rfl, hb1⟩
  obtain ⟨⟨v, k, e⟩, hpe⟩ : ∃ p, parseR s = p := ⟨_, rfl⟩
  have CQ := Lib.hid (parse_is hpe w)
  have HPE := Lib.hid hpe
  clear hpe
  go_wp2_with fail
  refine CQ.out.mono ?_
  rintro e1 w1 ⟨c, rfl, hb1, -⟩
  have hA1 := below_alloc w1 (.cells #[.int .i64 c.k, .int .i64 c.n, sV c.s, .slice c.la c.ln c.lc, .slice c.fa c.fn c.fc] 26)
  have HS1 := Lib.hid (below_all hb1 hA1)
  clear hb1 hA1 CQ
  by_cases he : e = 2 ∨ e = 4
  · obtain ⟨j, hk, hj, f1, wv, n, g, hp2, hg⟩ := first_parse (by omega) HPE.out he
    obtain ⟨wu, hp1⟩ := f1 t (by omega)
    subst hk
    have HP1 := Lib.hid hp1
    have HP2 := Lib.hid hp2
    clear f1 hp1 hp2 HPE
    rcases he with rfl | rfl
    · skip
      go_upto_region 6 with (fail)
      change Code.wp Tryd.prog _ _ _ (w1.alloc (.cells #[.int .i64 c.k, .int .i64 c.n, sV c.s, .slice c.la c.ln c.lc, .slice c.fa c.fn c.fc] 26))
      generalize w1.alloc (.cells #[.int .i64 c.k, .int .i64 c.n, sV c.s, .slice c.la c.ln c.lc, .slice c.fa c.fn c.fc] 26) = V1 at *
      have C1 := Lib.hid (parse_is HP1.out V1)
      go_wp2_with fail
      rw [ext_take, strs_app]
      refine C1.out.mono ?_
      rintro e2 w2 ⟨c2, rfl, hb2, -⟩
      have hA2 := below_alloc w2 (.cells #[.int .i64 c2.k, .int .i64 c2.n, sV c2.s, .slice c2.la c2.ln c2.lc, .slice c2.fa c2.fn c2.fc] 26)
      have HS2 := Lib.hid (below_all (below_all HS1.out hb2) hA2)
      clear hb2 hA2 C1 HS1
      go_upto_region 9 with (fail)
      change Code.wp Tryd.prog _ _ _ (w2.alloc (.cells #[.int .i64 c2.k, .int .i64 c2.n, sV c2.s, .slice c2.la c2.ln c2.lc, .slice c2.fa c2.fn c2.fc] 26))
      generalize w2.alloc (.cells #[.int .i64 c2.k, .int .i64 c2.n, sV c2.s, .slice c2.la c2.ln c2.lc, .slice c2.fa c2.fn c2.fc] 26) = V2 at *
      have C2 := Lib.hid (parse_is HP2.out V2)
      go_wp2_with fail
      rw [ext_take]
      refine C2.out.mono ?_
      rintro e3 w3 ⟨c3, rfl, hb3, -⟩
      have hA3 := below_alloc w3 (.cells #[.int .i64 c3.k, .int .i64 c3.n, sV c3.s, .slice c3.la c3.ln c3.lc, .slice c3.fa c3.fn c3.fc] 26)
      have HS3 := Lib.hid (below_all (below_all HS2.out hb3) hA3)
      clear hb3 hA3 C2 HS2
      go_upto_region 10 with (fail)
      change Code.wp Tryd.prog _ _ _ (w3.alloc (.cells #[.int .i64 c3.k, .int .i64 c3.n, sV c3.s, .slice c3.la c3.ln c3.lc, .slice c3.fa c3.fn c3.fc] 26))
      generalize w3.alloc (.cells #[.int .i64 c3.k, .int .i64 c3.n, sV c3.s, .slice c3.la c3.ln c3.lc, .slice c3.fa c3.fn c3.fc] 26) = V3 at *
      have CL := Lib.hid (jlives_any V3 (HT.out.below HS3.out))
      go_wp2_with fail
      refine CL.out.mono ?_
      rintro e4 w4 ⟨rfl, hb4⟩
      have HB := Lib.hid (below_all HS3.out hb4)
      clear hb4 CL HS3
      rcases hg with rfl | ⟨rfl, rfl⟩
      · go_wp2
        go_ret
        exact ⟨rfl, HB.out⟩
      · go_wp2
        go_ret
        exact ⟨rfl, HB.out⟩
    · skip
      go_upto_region 6 with (fail)
      change Code.wp Tryd.prog _ _ _ (w1.alloc (.cells #[.int .i64 c.k, .int .i64 c.n, sV c.s, .slice c.la c.ln c.lc, .slice c.fa c.fn c.fc] 26))
      generalize w1.alloc (.cells #[.int .i64 c.k, .int .i64 c.n, sV c.s, .slice c.la c.ln c.lc, .slice c.fa c.fn c.fc] 26) = V1 at *
      have C1 := Lib.hid (parse_is HP1.out V1)
      go_wp2_with fail
      rw [ext_take, strs_app]
      refine C1.out.mono ?_
      rintro e2 w2 ⟨c2, rfl, hb2, -⟩
      have hA2 := below_alloc w2 (.cells #[.int .i64 c2.k, .int .i64 c2.n, sV c2.s, .slice c2.la c2.ln c2.lc, .slice c2.fa c2.fn c2.fc] 26)
      have HS2 := Lib.hid (below_all (below_all HS1.out hb2) hA2)
      clear hb2 hA2 C1 HS1
      go_upto_region 9 with (fail)
      change Code.wp Tryd.prog _ _ _ (w2.alloc (.cells #[.int .i64 c2.k, .int .i64 c2.n, sV c2.s, .slice c2.la c2.ln c2.lc, .slice c2.fa c2.fn c2.fc] 26))
      generalize w2.alloc (.cells #[.int .i64 c2.k, .int .i64 c2.n, sV c2.s, .slice c2.la c2.ln c2.lc, .slice c2.fa c2.fn c2.fc] 26) = V2 at *
      have C2 := Lib.hid (parse_is HP2.out V2)
      go_wp2_with fail
      rw [ext_take]
      refine C2.out.mono ?_
      rintro e3 w3 ⟨c3, rfl, hb3, -⟩
      have hA3 := below_alloc w3 (.cells #[.int .i64 c3.k, .int .i64 c3.n, sV c3.s, .slice c3.la c3.ln c3.lc, .slice c3.fa c3.fn c3.fc] 26)
      have HS3 := Lib.hid (below_all (below_all HS2.out hb3) hA3)
      clear hb3 hA3 C2 HS2
      go_upto_region 10 with (fail)
      change Code.wp Tryd.prog _ _ _ (w3.alloc (.cells #[.int .i64 c3.k, .int .i64 c3.n, sV c3.s, .slice c3.la c3.ln c3.lc, .slice c3.fa c3.fn c3.fc] 26))
      generalize w3.alloc (.cells #[.int .i64 c3.k, .int .i64 c3.n, sV c3.s, .slice c3.la c3.ln c3.lc, .slice c3.fa c3.fn c3.fc] 26) = V3 at *
      have CL := Lib.hid (jlives_any V3 (HT.out.below HS3.out))
      go_wp2_with fail
      refine CL.out.mono ?_
      rintro e4 w4 ⟨rfl, hb4⟩
      have HB := Lib.hid (below_all HS3.out hb4)
      clear hb4 CL HS3
      rcases hg with rfl | ⟨rfl, rfl⟩
      · go_wp2
        go_ret
        exact ⟨rfl, HB.out⟩
      · go_wp2
        go_ret
        exact ⟨rfl, HB.out⟩
  · have e2 : ¬ e = 2 := fun h => he (Or.inl h)
    have e4 : ¬ e = 4 := fun h => he (Or.inr h)
    have n2 : (e != 2) = true := by rw [bne_iff_ne]; exact e2
    have n4 : (e != 4) = true := by rw [bne_iff_ne]; exact e4
    clear he
    go_upto_region 4 with (fail)
    change Code.wp Tryd.prog _ _ _ (w1.alloc (.cells #[.int .i64 c.k, .int .i64 c.n, sV c.s, .slice c.la c.ln c.lc, .slice c.fa c.fn c.fc] 26))
    generalize w1.alloc (.cells #[.int .i64 c.k, .int .i64 c.n, sV c.s, .slice c.la c.ln c.lc, .slice c.fa c.fn c.fc] 26) = V1 at *
    have CL := Lib.hid (jlives_any V1 (HT.out.below HS1.out))
    go_wp2_with fail
    refine CL.out.mono ?_
    rintro e5 w2 ⟨rfl, hb2⟩
    go_wp2
    go_ret
    exact ⟨rfl, below_all HS1.out hb2⟩
end Go.Proofs.YtjpmnlefjmdelaaDoor
