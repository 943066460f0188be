/- The chapter's examples (lives). -/
import Derived.Test.YtjpmnlefjmdelaaDoorNf
import Derived.Test.YtjpmnlefjmdelaaDoorKoJ
import Derived.Test.YtjpmnlefjmdelaaDoorWx
import Derived.Test.YtjpmnlefjmdelaaDoorEc
import Derived.Test.YtjpmnlefjmdelaaDoorEh
namespace Go.Proofs.YtjpmnlefjmdelaaDoor
open Go.RowKit Go.Sort Go.Proofs.LawFrame

theorem eqv_true {t t' : T} (h : t = t') {c d : VC} {w : World} (hI : Is w c t) (hJ : Is w d t') : Calls Tryd.prog 18 #[c.val, d.val] w fun e w' => e = .returned (.bool true) ∧ Below w.heap.size w w' := by
  subst h
  have := requal_any t t c d w hI hJ
  rw [cmpT_refl] at this
  exact this
theorem vals_one {w : World} {b : Nat} {c : VC} {t : T} (o : Own w b (VC.cells c) 26) (hI : Is w c t) : Vals w (.slice (some ⟨b, 0, none⟩) 1 1) [t] :=
  ⟨[c], rfl, ⟨some ⟨b, 0, none⟩, 1, rfl, Nat.le_refl _, by decide, fun _ => ⟨b, 0, rfl, o.lt, fun j x hx => by rw [Nat.zero_add]; exact o.cell (by simpa using hx)⟩⟩, fun i x t' hx ht => by
    cases i with
    | zero => simp at hx ht; subst hx ht; exact hI
    | succ i => simp at hx⟩
theorem flds_two {w : World} {b : Nat} {x y : Str} {c d : VC} {t u : T} (o : Own w b (FC.cells ⟨x, c⟩ ++ FC.cells ⟨y, d⟩) 43) (hI : Is w c t) (hJ : Is w d u) : Flds w (.slice (some ⟨b, 0, none⟩) 2 2) [(x, t), (y, u)] :=
  ⟨[⟨x, c⟩, ⟨y, d⟩], rfl, ⟨some ⟨b, 0, none⟩, 2, rfl, Nat.le_refl _, by decide, fun _ => ⟨b, 0, rfl, o.lt, fun j z hz => by rw [Nat.zero_add]; exact o.cell (by simpa using hz)⟩⟩, fun i z p hz hp => by
    match i with
    | 0 => simp at hz hp; subst hz hp; rfl
    | 1 => simp at hz hp; subst hz hp; rfl
    | i + 2 => simp at hz, fun i z p hz hp => by
    match i with
    | 0 => simp at hz hp; subst hz hp; exact hI
    | 1 => simp at hz hp; subst hz hp; exact hJ
    | i + 2 => simp at hz⟩
def exT : T := .mk 5 0 [] [] [([97], .mk 2 (-1) [] [] []), ([98], .mk 4 0 [] [.mk 3 0 [120, 10] [] []] [])]
theorem exMap : mapL [([98], .mk 4 0 [] [.mk 3 0 [120, 10] [] []] []), ([97], .mk 2 (-1) [] [] [])] = [([97], .mk 2 (-1) [] [] []), ([98], .mk 4 0 [] [.mk 3 0 [120, 10] [] []] [])] := by kernel_rfl
theorem exParse : parseR [32, 123, 34, 98, 34, 32, 58, 32, 91, 34, 120, 92, 110, 34, 93, 44, 32, 34, 97, 34, 58, 45, 49, 125] = (exT, 0, 0) := by kernel_rfl
theorem exParse2 : parseR [123, 34, 97, 34, 58, 48, 49, 125] = (.mk 0 0 [] [] [], 6, 2) := by kernel_rfl
theorem exParse3 : parseR [91, 49, 44] = (.mk 0 0 [] [] [], 3, 3) := by kernel_rfl
theorem itoa_m1 : Lib.itoa (-1) = [45, 49] := by
  unfold Lib.itoa
  rw [if_pos (by decide), show (-1 : Int).natAbs = 1 from rfl, Lib.decDigits_one (by decide)]
  rfl
theorem exPrint : prV exT = [123, 34, 97, 34, 58, 45, 49, 44, 34, 98, 34, 58, 91, 34, 120, 92, 110, 34, 93, 125] := by
  have e : prV exT = ([123] ++ (quoteR [97] ++ [58] ++ Lib.itoa (-1) ++ ([44] ++ quoteR [98] ++ [58] ++ ([91] ++ (quoteR [120, 10]) ++ [93]))) ++ [125]) := by simp [exT, prV, prF, prL]
  rw [e, itoa_m1]
  decide
theorem exVal : Val 12 exT ∧ exT.size ≤ 600 := by
  refine ⟨?_, by simp [exT, T.size, sizeL, sizeF]⟩
  unfold exT
  rw [val_eq]
  refine ⟨⟨Or.inl rfl, Or.inl rfl, Or.inl rfl, Or.inr rfl⟩, Or.inr (Or.inr (Or.inr (Or.inr (Or.inr ⟨rfl, by simp, ?_⟩)))), by simp, ?_⟩
  · intro i p hi hp
    match i with
    | 0 => simp at hp; subst hp; exact ⟨by decide, fun q h => absurd h (by omega)⟩
    | 1 => simp at hp; subst hp; exact ⟨by decide, fun q _ hq => by simp at hq; subst hq; decide⟩
    | i + 2 => simp at hi; omega
  · intro p hp
    simp only [List.mem_cons, List.not_mem_nil, or_false] at hp
    rcases hp with rfl | rfl
    · rw [val_eq]
      exact ⟨⟨Or.inr (Or.inr rfl), Or.inl rfl, Or.inl rfl, Or.inl rfl⟩, Or.inr (Or.inr (Or.inl ⟨rfl, by decide, by decide⟩)), by simp, by simp⟩
    · rw [val_eq]
      refine ⟨⟨Or.inl rfl, Or.inl rfl, Or.inr rfl, Or.inl rfl⟩, Or.inr (Or.inr (Or.inr (Or.inr (Or.inl ⟨rfl, by simp⟩)))), ?_, by simp⟩
      intro t ht
      simp only [List.mem_singleton] at ht
      subst ht
      rw [val_eq]
      exact ⟨⟨Or.inl rfl, Or.inr rfl, Or.inl rfl, Or.inl rfl⟩, Or.inr (Or.inr (Or.inr (Or.inl ⟨rfl, by decide⟩))), by simp, by simp⟩

set_option maxHeartbeats 8000000 in
set_option maxRecDepth 4000 in
theorem jlives_any (w : World) (ht : Tab w) : Calls Tryd.prog 5 #[] w fun e w' => e = .returned (.bool true) ∧ Below w.heap.size w w' := by
  have HT := Lib.hid ht
  clear ht
  go_enter Tryd.func5, Tryd.ntmps5
  go_wp2_with fail
  refine (rstring_any [120, 10] w).mono ?_
  rintro e w1 ⟨rfl, hb1⟩
  have hA1 := below_alloc w1 (.cells #[.int .i64 3, .int .i64 0, sV [120, 10], .slice none 0 0, .slice none 0 0] 26)
  have o1 := Own.new w1 [.int .i64 3, .int .i64 0, sV [120, 10], .slice none 0 0, .slice none 0 0] 26
  have HS1 := Lib.hid (And.intro (below_all hb1 hA1) o1)
  clear hb1 hA1 o1
  go_wp2_with fail
  change Calls Tryd.prog 14 _ (w1.alloc (.cells #[.int .i64 3, .int .i64 0, sV [120, 10], .slice none 0 0, .slice none 0 0] 26)) _
  generalize w1.alloc (.cells #[.int .i64 3, .int .i64 0, sV [120, 10], .slice none 0 0, .slice none 0 0] 26) = V1 at *
  refine (rlist_any _ [.mk 3 0 [120, 10] [] []] V1 (vals_one (c := ⟨3, 0, [120, 10], none, 0, 0, none, 0, 0⟩) HS1.out.2 (isA_leaf V1 (fun _ => True) 3 0 [120, 10]).is) (by simp) (by simp [T.size, sizeL, sizeF])).mono ?_
  rintro e w2 ⟨c1, rfl, hb2, hI1⟩
  have HS2 := Lib.hid (And.intro (below_all HS1.out.1 hb2) hI1.is)
  clear HS1 hb2 hI1
  go_wp2_with fail
  refine (rint_any (-1) w2).mono ?_
  rintro e w3 ⟨rfl, hb3⟩
  have hA3 := below_alloc w3 (.cells #[.string ⟨#[98]⟩, .int .i64 c1.k, .int .i64 c1.n, sV c1.s, .slice c1.la c1.ln c1.lc, .slice c1.fa c1.fn c1.fc, .string ⟨#[97]⟩, .int .i64 2, .int .i64 (-1), .string ⟨#[]⟩, .slice none 0 0, .slice none 0 0] 43)
  have o3 := Own.new w3 [.string ⟨#[98]⟩, .int .i64 c1.k, .int .i64 c1.n, sV c1.s, .slice c1.la c1.ln c1.lc, .slice c1.fa c1.fn c1.fc, .string ⟨#[97]⟩, .int .i64 2, .int .i64 (-1), .string ⟨#[]⟩, .slice none 0 0, .slice none 0 0] 43
  have HS3 := Lib.hid (And.intro (below_all (below_all HS2.out.1 hb3) hA3) (And.intro ((HS2.out.2.all hb3).all hA3) o3))
  clear hb3 hA3 o3 HS2
  go_wp2_with fail
  change Calls Tryd.prog 13 _ (w3.alloc (.cells #[.string ⟨#[98]⟩, .int .i64 c1.k, .int .i64 c1.n, sV c1.s, .slice c1.la c1.ln c1.lc, .slice c1.fa c1.fn c1.fc, .string ⟨#[97]⟩, .int .i64 2, .int .i64 (-1), .string ⟨#[]⟩, .slice none 0 0, .slice none 0 0] 43)) _
  generalize w3.alloc (.cells #[.string ⟨#[98]⟩, .int .i64 c1.k, .int .i64 c1.n, sV c1.s, .slice c1.la c1.ln c1.lc, .slice c1.fa c1.fn c1.fc, .string ⟨#[97]⟩, .int .i64 2, .int .i64 (-1), .string ⟨#[]⟩, .slice none 0 0, .slice none 0 0] 43) = V3 at *
  refine (rmap_any _ [([98], .mk 4 0 [] [.mk 3 0 [120, 10] [] []] []), ([97], .mk 2 (-1) [] [] [])] V3 (flds_two (x := [98]) (y := [97]) (c := c1) (d := ⟨2, -1, [], none, 0, 0, none, 0, 0⟩) HS3.out.2.2 HS3.out.2.1 (isA_leaf V3 (fun _ => True) 2 (-1) []).is) (by simp) (by simp [T.size, sizeL, sizeF])).mono ?_
  rintro e w4 ⟨c2, M, rfl, hb4, hI2, hM⟩
  obtain rfl : M = [([97], .mk 2 (-1) [] [] []), ([98], .mk 4 0 [] [.mk 3 0 [120, 10] [] []] [])] := by rw [hM.unique (mapL_of _), exMap]
  have hA4 := below_alloc w4 (.cells #[.int .i64 c2.k, .int .i64 c2.n, sV c2.s, .slice c2.la c2.ln c2.lc, .slice c2.fa c2.fn c2.fc] 26)
  have o4 := Own.new w4 [.int .i64 c2.k, .int .i64 c2.n, sV c2.s, .slice c2.la c2.ln c2.lc, .slice c2.fa c2.fn c2.fc] 26
  have HS4 := Lib.hid (And.intro (below_all (below_all HS3.out.1 hb4) hA4) (And.intro (show Is _ c2 exT from hI2.is.all hA4) o4))
  clear hb4 hA4 o4 HS3 hI2 hM
  go_upto_region 2 with (fail)
  change Code.wp Tryd.prog _ _ _ (w4.alloc (.cells #[.int .i64 c2.k, .int .i64 c2.n, sV c2.s, .slice c2.la c2.ln c2.lc, .slice c2.fa c2.fn c2.fc] 26))
  generalize w4.alloc (.cells #[.int .i64 c2.k, .int .i64 c2.n, sV c2.s, .slice c2.la c2.ln c2.lc, .slice c2.fa c2.fn c2.fc] 26) = V4 at *
  have a0 := HS4.out.2.2.cell (i := 0) rfl
  have a1 := HS4.out.2.2.cell (i := 1) rfl
  have a2 := HS4.out.2.2.cell (i := 2) rfl
  have a3 := HS4.out.2.2.cell (i := 3) rfl
  have a4 := HS4.out.2.2.cell (i := 4) rfl
  go_wp2_with fail
  clear a0 a1 a2 a3 a4
  refine (print_any c2 exT V4 HS4.out.2.1 (HT.out.below HS4.out.1)).mono ?_
  rintro e w5 hp
  obtain rfl := hp.ok exVal (by rw [exPrint]; decide)
  rw [exPrint]
  have HS5 := Lib.hid (And.intro (below_all HS4.out.1 hp.below) (And.intro (HS4.out.2.1.all hp.below) (HS4.out.2.2.all hp.below)))
  clear HS4 hp
  go_wp2_with fail
  refine (parse_any [32, 123, 34, 98, 34, 32, 58, 32, 91, 34, 120, 92, 110, 34, 93, 44, 32, 34, 97, 34, 58, 45, 49, 125] w5).mono ?_
  rintro e w6 hq
  obtain ⟨c3, he, hb6, hI3⟩ := hq.out
  rw [exParse] at he hI3
  subst he
  have hA6 := below_alloc w6 (.cells #[.int .i64 c3.k, .int .i64 c3.n, sV c3.s, .slice c3.la c3.ln c3.lc, .slice c3.fa c3.fn c3.fc] 26)
  have o6 := Own.new w6 [.int .i64 c3.k, .int .i64 c3.n, sV c3.s, .slice c3.la c3.ln c3.lc, .slice c3.fa c3.fn c3.fc] 26
  have HS6 := Lib.hid (And.intro (below_all (below_all HS5.out.1 hb6) hA6) (And.intro ((HS5.out.2.1.all hb6).all hA6) (And.intro ((HS5.out.2.2.all hb6).all hA6) (And.intro (hI3.is.all hA6) o6))))
  clear hq hb6 hI3 hA6 o6 HS5
  go_upto_region 4 with (fail)
  change Code.wp Tryd.prog _ _ _ (w6.alloc (.cells #[.int .i64 c3.k, .int .i64 c3.n, sV c3.s, .slice c3.la c3.ln c3.lc, .slice c3.fa c3.fn c3.fc] 26))
  generalize w6.alloc (.cells #[.int .i64 c3.k, .int .i64 c3.n, sV c3.s, .slice c3.la c3.ln c3.lc, .slice c3.fa c3.fn c3.fc] 26) = V6 at *
  go_wp2_with fail
  refine (parse_any [123, 34, 97, 34, 58, 48, 49, 125] V6).mono ?_
  rintro e w7 hq
  obtain ⟨c4, he, hb7, -⟩ := hq.out
  rw [exParse2] at he
  subst he
  have hA7 := below_alloc w7 (.cells #[.int .i64 c4.k, .int .i64 c4.n, sV c4.s, .slice c4.la c4.ln c4.lc, .slice c4.fa c4.fn c4.fc] 26)
  have HS7 := Lib.hid (And.intro (below_all (below_all HS6.out.1 hb7) hA7) (And.intro ((HS6.out.2.1.all hb7).all hA7) (And.intro ((HS6.out.2.2.1.all hb7).all hA7) (And.intro ((HS6.out.2.2.2.1.all hb7).all hA7) ((HS6.out.2.2.2.2.all hb7).all hA7)))))
  clear hq hb7 hA7 HS6
  go_upto_region 5 with (fail)
  change Code.wp Tryd.prog _ _ _ (w7.alloc (.cells #[.int .i64 c4.k, .int .i64 c4.n, sV c4.s, .slice c4.la c4.ln c4.lc, .slice c4.fa c4.fn c4.fc] 26))
  generalize w7.alloc (.cells #[.int .i64 c4.k, .int .i64 c4.n, sV c4.s, .slice c4.la c4.ln c4.lc, .slice c4.fa c4.fn c4.fc] 26) = V7 at *
  go_wp2_with fail
  refine (parse_any [91, 49, 44] V7).mono ?_
  rintro e w8 hq
  obtain ⟨c5, he, hb8, -⟩ := hq.out
  rw [exParse3] at he
  subst he
  have hA8 := below_alloc w8 (.cells #[.int .i64 c5.k, .int .i64 c5.n, sV c5.s, .slice c5.la c5.ln c5.lc, .slice c5.fa c5.fn c5.fc] 26)
  have HS8 := Lib.hid (And.intro (below_all (below_all HS7.out.1 hb8) hA8) (And.intro ((HS7.out.2.1.all hb8).all hA8) (And.intro ((HS7.out.2.2.1.all hb8).all hA8) (And.intro ((HS7.out.2.2.2.1.all hb8).all hA8) ((HS7.out.2.2.2.2.all hb8).all hA8)))))
  clear hq hb8 hA8 HS7
  go_upto_region 6 with (fail)
  change Code.wp Tryd.prog _ _ _ (w8.alloc (.cells #[.int .i64 c5.k, .int .i64 c5.n, sV c5.s, .slice c5.la c5.ln c5.lc, .slice c5.fa c5.fn c5.fc] 26))
  generalize w8.alloc (.cells #[.int .i64 c5.k, .int .i64 c5.n, sV c5.s, .slice c5.la c5.ln c5.lc, .slice c5.fa c5.fn c5.fc] 26) = V8 at *
  have a0 := HS8.out.2.2.1.cell (i := 0) rfl
  have b0 := HS8.out.2.2.2.2.cell (i := 0) rfl
  have a1 := HS8.out.2.2.1.cell (i := 1) rfl
  have b1 := HS8.out.2.2.2.2.cell (i := 1) rfl
  have a2 := HS8.out.2.2.1.cell (i := 2) rfl
  have b2 := HS8.out.2.2.2.2.cell (i := 2) rfl
  have a3 := HS8.out.2.2.1.cell (i := 3) rfl
  have b3 := HS8.out.2.2.2.2.cell (i := 3) rfl
  have a4 := HS8.out.2.2.1.cell (i := 4) rfl
  have b4 := HS8.out.2.2.2.2.cell (i := 4) rfl
  have C := Lib.hid (eqv_true rfl HS8.out.2.1 HS8.out.2.2.2.1)
  go_wp2_with fail
  clear a0 a1 a2 a3 a4 b0 b1 b2 b3 b4
  refine C.out.mono ?_
  rintro e w9 ⟨rfl, hb9⟩
  have HB := Lib.hid (below_all HS8.out.1 hb9)
  clear C hb9 HS8
  go_wp2
  go_ret
  exact ⟨rfl, HB.out⟩
end Go.Proofs.YtjpmnlefjmdelaaDoor
