/- The examples of chapter 9. -/
import Derived.Test.YtinenbgdkchghaaIa
import Derived.Test.YtinenbgdkchghaaRq
set_option linter.unusedSimpArgs false
set_option linter.unusedVariables false
namespace Go.Proofs.Ytinenbgdkchghaa
open Go.RowKit Go.Sort Go.Proofs.LawFrame

theorem alike_true {t t' : T} (h : t = t') {c d : VC} {w : World} (hI : Is w c t) (hJ : Is w d t') : Calls Try.prog 12 #[c.val, d.val] w fun e w' => e = .returned (.bool true) ∧ Below w.heap.size w w' := by
  subst h
  have := alikeB_any _ t t (Nat.le_refl _) c d w hI hJ
  rw [al_yes rfl] at this
  exact this
/- maps in order, decided -/
mutual
def mpB : T → Bool
  | .mk k n s l f => if k = 5 then n == 0 && s.isEmpty && l.isEmpty && srtB f && mpL f else true
def mpL : List (Str × T) → Bool
  | [] => true
  | p :: r => mpB p.2 && mpL r
def srtB : List (Str × T) → Bool
  | [] => true
  | p :: r => r.all (fun q => cmpS p.1 q.1 == -1) && srtB r
end
theorem srt_dec : ∀ {f : List (Str × T)}, srtB f = true → SSrt f
  | [], _ => List.Pairwise.nil
  | p :: r, h => by
    rw [srtB, Bool.and_eq_true, List.all_eq_true] at h
    exact List.pairwise_cons.2 ⟨fun q hq => by simpa using h.1 q hq, srt_dec h.2⟩
theorem mpL_mem : ∀ {f : List (Str × T)}, mpL f = true → ∀ p ∈ f, mpB p.2 = true
  | [], _, p, h => by cases h
  | q :: r, h, p, hp => by
    rw [mpL, Bool.and_eq_true] at h
    rcases List.mem_cons.1 hp with rfl | hp
    · exact h.1
    · exact mpL_mem h.2 p hp
theorem mp_decN : ∀ (N : Nat) (t : T), SizeOf.sizeOf t ≤ N → mpB t = true → Mp t := by
  intro N
  induction N with
  | zero => intro t h; cases t; simp at h
  | succ N ih =>
    rintro ⟨k, n, s, l, f⟩ hN h
    by_cases h5 : k = 5
    · subst h5
      rw [mpB, if_pos rfl] at h
      simp only [Bool.and_eq_true] at h
      obtain ⟨⟨⟨⟨h1, h2⟩, h3⟩, h4⟩, h6⟩ := h
      obtain rfl : n = 0 := by simpa using h1
      obtain rfl : s = [] := by simpa using h2
      obtain rfl : l = [] := by simpa using h3
      exact .map (srt_dec h4) (fun p hp => ih p.2 (by have := kid_lt (t := .mk 5 0 [] [] f) (s := p.1) (u := p.2) (by rw [fls_is rfl]; exact hp); omega) (mpL_mem h6 p hp))
    · exact .leaf h5
theorem mp_dec {t : T} (h : mpB t = true) : Mp t := mp_decN _ t (Nat.le_refl _) h
theorem lives_mrg : mrgT (tm [([97], T0), ([99], (tm [([100], (tn 3)), ([101], T0)]))]) (tm [([97], (tn 1)), ([98], (tn 2))]) = (tm [([98], (tn 2)), ([99], (tm [([100], (tn 3))]))]) := by kernel_rfl
theorem lives_dif : difT (tm [([98], (tn 2)), ([99], (tm [([100], (tn 3))]))]) (tm [([97], (tn 1)), ([98], (tn 2))]) = (tm [([97], T0), ([99], (tm [([100], (tn 3))]))]) := by kernel_rfl
theorem lives_cpo : cpoT (tm [([98], (tm [([100], T0)]))]) (tm [([98], (tm [([99], (tn 2))]))]) = (tm [([98], tm [([99], tn 2), ([100], T0)])]) := by kernel_rfl
theorem exIs_up {u : Value} {t : T} {w w' : World} (h : ∃ c' : VC, u = c'.val ∧ Is w c' t) (hb : Below w.heap.size w w') : ∃ c' : VC, u = c'.val ∧ Is w' c' t := by
  obtain ⟨c', a1, a2⟩ := h; exact ⟨c', a1, a2.all hb⟩
theorem exFl_up {u : Value} {n : Nat} {l : List (Str × T)} {w w' : World} (h : ∃ b : Nat, u = .slice (some ⟨b, 0, none⟩) n n ∧ Flds w u l) (hb : Below w.heap.size w w') : ∃ b : Nat, u = .slice (some ⟨b, 0, none⟩) n n ∧ Flds w' u l := by
  obtain ⟨c', a1, a2⟩ := h; exact ⟨c', a1, a2.all hb⟩
theorem exAg_up {u : Value} {t : T} {x : Str} {w w' : World} (h : ∃ c' : VC, u = .agg #[sV x, .int .i64 c'.k, .int .i64 c'.n, sV c'.s, .slice c'.la c'.ln c'.lc, .slice c'.fa c'.fn c'.fc] ∧ Is w c' t) (hb : Below w.heap.size w w') : ∃ c' : VC, u = .agg #[sV x, .int .i64 c'.k, .int .i64 c'.n, sV c'.s, .slice c'.la c'.ln c'.lc, .slice c'.fa c'.fn c'.fc] ∧ Is w' c' t := by
  obtain ⟨c', a1, a2⟩ := h; exact ⟨c', a1, a2.all hb⟩
/- what is known of the values that region 6 makes -/
def LV (i : Nat) (u : Value) (w : World) : Prop :=
  if i = 2 then ∃ c' : VC, u = c'.val ∧ Is w c' (tm [([98], (tn 2)), ([99], (tm [([100], (tn 3))]))])
  else if i = 8 then ∃ c' : VC, u = c'.val ∧ Is w c' (tm [([97], T0), ([99], (tm [([100], (tn 3))]))])
  else if i = 18 then ∃ c' : VC, u = c'.val ∧ Is w c' (tm [([99], tn 2), ([100], T0)])
  else if i = 21 then ∃ c' : VC, u = c'.val ∧ Is w c' (tm [([98], tm [([99], tn 2), ([100], T0)])])
  else if i = 17 then ∃ b : Nat, u = .slice (some ⟨b, 0, none⟩) 2 2 ∧ Flds w u [([99], tn 2), ([100], T0)]
  else if i = 20 then ∃ b : Nat, u = .slice (some ⟨b, 0, none⟩) 1 1 ∧ Flds w u [([98], tm [([99], tn 2), ([100], T0)])]
  else if i = 19 then ∃ c' : VC, u = .agg #[sV [98], .int .i64 c'.k, .int .i64 c'.n, sV c'.s, .slice c'.la c'.ln c'.lc, .slice c'.fa c'.fn c'.fc] ∧ Is w c' (tm [([99], tn 2), ([100], T0)]) else True
theorem LV.up {i : Nat} {u : Value} {w w' : World} (h : LV i u w) (hb : Below w.heap.size w w') : LV i u w' := by
  revert h
  unfold LV
  by_cases e2 : i = 2
  · simp only [if_pos e2]; exact fun h => exIs_up h hb
  simp only [if_neg e2]
  by_cases e8 : i = 8
  · simp only [if_pos e8]; exact fun h => exIs_up h hb
  simp only [if_neg e8]
  by_cases e18 : i = 18
  · simp only [if_pos e18]; exact fun h => exIs_up h hb
  simp only [if_neg e18]
  by_cases e21 : i = 21
  · simp only [if_pos e21]; exact fun h => exIs_up h hb
  simp only [if_neg e21]
  by_cases e17 : i = 17
  · simp only [if_pos e17]; exact fun h => exFl_up h hb
  simp only [if_neg e17]
  by_cases e20 : i = 20
  · simp only [if_pos e20]; exact fun h => exFl_up h hb
  simp only [if_neg e20]
  by_cases e19 : i = 19
  · simp only [if_pos e19]; exact fun h => exAg_up h hb
  simp only [if_neg e19]
  exact fun h => h
def LS (i : Nat) (u : Value) : Prop :=
  if i = 2 ∨ i = 8 ∨ i = 18 ∨ i = 21 then ∃ c' : VC, u = c'.val else if i = 17 then ∃ b : Nat, u = .slice (some ⟨b, 0, none⟩) 2 2 else if i = 20 then ∃ b : Nat, u = .slice (some ⟨b, 0, none⟩) 1 1 else if i = 19 then ∃ c' : VC, u = .agg #[sV [98], .int .i64 c'.k, .int .i64 c'.n, sV c'.s, .slice c'.la c'.ln c'.lc, .slice c'.fa c'.fn c'.fc] else if i = 14 then u = .agg #[.int .i64 2, .int .i64 2, .string ⟨#[]⟩, .slice none 0 0, .slice none 0 0] else u = .bool true

set_option maxHeartbeats 32000000 in
set_option maxRecDepth 4000 in
theorem lives_any (w : World) : Calls Try.prog 11 #[] w fun e w' => e = .returned (.bool true) ∧ Below w.heap.size w w' := by
  have hB : Below w.heap.size w w := Below.refl _ _
  go_enter Try.func11, Try.ntmps11
  have HS := Lib.hid hB
  clear hB
  go_wp2_with fail
  have hB := HS.out
  clear HS
  refine (num_any 1 _).mono ?_
  rintro e w1 ⟨rfl, hb⟩
  replace hB := below_all hB hb
  clear hb
  have HS := Lib.hid hB
  clear hB
  go_wp2_with fail
  have hB := HS.out
  clear HS
  refine (num_any 2 _).mono ?_
  rintro e w2 ⟨rfl, hb⟩
  replace hB := below_all hB hb
  clear hb
  have HS := Lib.hid hB
  clear hB
  go_wp2_with fail
  have hB := HS.out
  clear HS
  have hbN := below_alloc w2 (.cells #[sV [97], .int .i64 2, .int .i64 1, .string ⟨#[]⟩, .slice none 0 0, .slice none 0 0, sV [98], .int .i64 2, .int .i64 2, .string ⟨#[]⟩, .slice none 0 0, .slice none 0 0] 33)
  replace hB := below_all hB hbN
  clear hbN
  have os1 : Own (w2.alloc (.cells #[sV [97], .int .i64 2, .int .i64 1, .string ⟨#[]⟩, .slice none 0 0, .slice none 0 0, sV [98], .int .i64 2, .int .i64 2, .string ⟨#[]⟩, .slice none 0 0, .slice none 0 0] 33)) w2.heap.size (FC.cells ⟨[97], ⟨2, 1, [], none, 0, 0, none, 0, 0⟩⟩ ++ FC.cells ⟨[98], ⟨2, 2, [], none, 0, 0, none, 0, 0⟩⟩) 33 := Own.new _ _ _
  refine (object_any _ 2 2 _).mono ?_
  rintro e w4 ⟨rfl, hb⟩
  replace hB := below_all hB hb
  replace os1 := os1.all hb
  clear hb
  have is1 : Is w4 ⟨5, 0, [], none, 0, 0, some ⟨w2.heap.size, 0, none⟩, 2, 2⟩ (tm [([97], (tn 1)), ([98], (tn 2))]) := is_mapV (flds_two os1 (is_num _ _) (is_num _ _))
  clear os1
  have hbN := below_alloc w4 (.cells #[.int .i64 5, .int .i64 0, .string ⟨#[]⟩, .slice none 0 0, .slice (some ⟨w2.heap.size, 0, none⟩) 2 2] 25)
  replace hB := below_all hB hbN
  replace is1 := is1.all hbN
  clear hbN
  have ov1 : Own (w4.alloc (.cells #[.int .i64 5, .int .i64 0, .string ⟨#[]⟩, .slice none 0 0, .slice (some ⟨w2.heap.size, 0, none⟩) 2 2] 25)) w4.heap.size [.int .i64 5, .int .i64 0, .string ⟨#[]⟩, .slice none 0 0, .slice (some ⟨w2.heap.size, 0, none⟩) 2 2] 25 := Own.new _ _ _
  have HS := Lib.hid (And.intro hB (And.intro is1 ov1))
  clear hB is1 ov1
  go_upto_region 2 with (fail)
  change Code.wp Try.prog _ _ _ (w4.alloc (.cells #[.int .i64 5, .int .i64 0, .string ⟨#[]⟩, .slice none 0 0, .slice (some ⟨w2.heap.size, 0, none⟩) 2 2] 25))
  generalize (w4.alloc (.cells #[.int .i64 5, .int .i64 0, .string ⟨#[]⟩, .slice none 0 0, .slice (some ⟨w2.heap.size, 0, none⟩) 2 2] 25)) = V2 at *
  obtain ⟨hB, is1, ov1⟩ := HS.out
  clear HS
  have HS := Lib.hid (And.intro hB (And.intro is1 ov1))
  clear hB is1 ov1
  go_wp2_with fail
  obtain ⟨hB, is1, ov1⟩ := HS.out
  clear HS
  refine (num_any 3 _).mono ?_
  rintro e w6 ⟨rfl, hb⟩
  replace hB := below_all hB hb
  replace is1 := is1.all hb
  replace ov1 := ov1.all hb
  clear hb
  have HS := Lib.hid (And.intro hB (And.intro is1 ov1))
  clear hB is1 ov1
  go_wp2_with fail
  obtain ⟨hB, is1, ov1⟩ := HS.out
  clear HS
  have hbN := below_alloc w6 (.cells #[sV [100], .int .i64 2, .int .i64 3, .string ⟨#[]⟩, .slice none 0 0, .slice none 0 0, sV [101], .int .i64 0, .int .i64 0, .string ⟨#[]⟩, .slice none 0 0, .slice none 0 0] 33)
  replace hB := below_all hB hbN
  replace is1 := is1.all hbN
  replace ov1 := ov1.all hbN
  clear hbN
  have os2 : Own (w6.alloc (.cells #[sV [100], .int .i64 2, .int .i64 3, .string ⟨#[]⟩, .slice none 0 0, .slice none 0 0, sV [101], .int .i64 0, .int .i64 0, .string ⟨#[]⟩, .slice none 0 0, .slice none 0 0] 33)) w6.heap.size (FC.cells ⟨[100], ⟨2, 3, [], none, 0, 0, none, 0, 0⟩⟩ ++ FC.cells ⟨[101], VC0⟩) 33 := Own.new _ _ _
  refine (object_any _ 2 2 _).mono ?_
  rintro e w8 ⟨rfl, hb⟩
  replace hB := below_all hB hb
  replace is1 := is1.all hb
  replace ov1 := ov1.all hb
  replace os2 := os2.all hb
  clear hb
  have is2 : Is w8 ⟨5, 0, [], none, 0, 0, some ⟨w6.heap.size, 0, none⟩, 2, 2⟩ (tm [([100], (tn 3)), ([101], T0)]) := is_mapV (flds_two os2 (is_num _ _) (is_vc0 _))
  clear os2
  have HS := Lib.hid (And.intro hB (And.intro is1 (And.intro ov1 is2)))
  clear hB is1 ov1 is2
  go_wp2_with fail
  obtain ⟨hB, is1, ov1, is2⟩ := HS.out
  clear HS
  have hbN := below_alloc w8 (.cells #[sV [97], .int .i64 0, .int .i64 0, .string ⟨#[]⟩, .slice none 0 0, .slice none 0 0, sV [99], .int .i64 5, .int .i64 0, .string ⟨#[]⟩, .slice none 0 0, .slice (some ⟨w6.heap.size, 0, none⟩) 2 2] 33)
  replace hB := below_all hB hbN
  replace is1 := is1.all hbN
  replace ov1 := ov1.all hbN
  replace is2 := is2.all hbN
  clear hbN
  have os3 : Own (w8.alloc (.cells #[sV [97], .int .i64 0, .int .i64 0, .string ⟨#[]⟩, .slice none 0 0, .slice none 0 0, sV [99], .int .i64 5, .int .i64 0, .string ⟨#[]⟩, .slice none 0 0, .slice (some ⟨w6.heap.size, 0, none⟩) 2 2] 33)) w8.heap.size (FC.cells ⟨[97], VC0⟩ ++ FC.cells ⟨[99], ⟨5, 0, [], none, 0, 0, some ⟨w6.heap.size, 0, none⟩, 2, 2⟩⟩) 33 := Own.new _ _ _
  refine (object_any _ 2 2 _).mono ?_
  rintro e w10 ⟨rfl, hb⟩
  replace hB := below_all hB hb
  replace is1 := is1.all hb
  replace ov1 := ov1.all hb
  replace is2 := is2.all hb
  replace os3 := os3.all hb
  clear hb
  have is3 : Is w10 ⟨5, 0, [], none, 0, 0, some ⟨w8.heap.size, 0, none⟩, 2, 2⟩ (tm [([97], T0), ([99], (tm [([100], (tn 3)), ([101], T0)]))]) := is_mapV (flds_two os3 (is_vc0 _) (is2))
  clear os3
  clear is2
  have hbN := below_alloc w10 (.cells #[.int .i64 5, .int .i64 0, .string ⟨#[]⟩, .slice none 0 0, .slice (some ⟨w8.heap.size, 0, none⟩) 2 2] 25)
  replace hB := below_all hB hbN
  replace is1 := is1.all hbN
  replace ov1 := ov1.all hbN
  replace is3 := is3.all hbN
  clear hbN
  have ov2 : Own (w10.alloc (.cells #[.int .i64 5, .int .i64 0, .string ⟨#[]⟩, .slice none 0 0, .slice (some ⟨w8.heap.size, 0, none⟩) 2 2] 25)) w10.heap.size [.int .i64 5, .int .i64 0, .string ⟨#[]⟩, .slice none 0 0, .slice (some ⟨w8.heap.size, 0, none⟩) 2 2] 25 := Own.new _ _ _
  have HS := Lib.hid (And.intro hB (And.intro is1 (And.intro ov1 (And.intro is3 ov2))))
  clear hB is1 ov1 is3 ov2
  go_upto_region 3 with (fail)
  change Code.wp Try.prog _ _ _ (w10.alloc (.cells #[.int .i64 5, .int .i64 0, .string ⟨#[]⟩, .slice none 0 0, .slice (some ⟨w8.heap.size, 0, none⟩) 2 2] 25))
  generalize (w10.alloc (.cells #[.int .i64 5, .int .i64 0, .string ⟨#[]⟩, .slice none 0 0, .slice (some ⟨w8.heap.size, 0, none⟩) 2 2] 25)) = V3 at *
  obtain ⟨hB, is1, ov1, is3, ov2⟩ := HS.out
  clear HS
  have HS := Lib.hid (And.intro hB (And.intro is1 (And.intro ov1 (And.intro is3 ov2))))
  clear hB is1 ov1 is3 ov2
  go_wp2_with fail
  obtain ⟨hB, is1, ov1, is3, ov2⟩ := HS.out
  clear HS
  refine (num_any 2 _).mono ?_
  rintro e w12 ⟨rfl, hb⟩
  replace hB := below_all hB hb
  replace is1 := is1.all hb
  replace ov1 := ov1.all hb
  replace is3 := is3.all hb
  replace ov2 := ov2.all hb
  clear hb
  have HS := Lib.hid (And.intro hB (And.intro is1 (And.intro ov1 (And.intro is3 ov2))))
  clear hB is1 ov1 is3 ov2
  go_wp2_with fail
  obtain ⟨hB, is1, ov1, is3, ov2⟩ := HS.out
  clear HS
  refine (num_any 3 _).mono ?_
  rintro e w13 ⟨rfl, hb⟩
  replace hB := below_all hB hb
  replace is1 := is1.all hb
  replace ov1 := ov1.all hb
  replace is3 := is3.all hb
  replace ov2 := ov2.all hb
  clear hb
  have HS := Lib.hid (And.intro hB (And.intro is1 (And.intro ov1 (And.intro is3 ov2))))
  clear hB is1 ov1 is3 ov2
  go_wp2_with fail
  obtain ⟨hB, is1, ov1, is3, ov2⟩ := HS.out
  clear HS
  have hbN := below_alloc w13 (.cells #[sV [100], .int .i64 2, .int .i64 3, .string ⟨#[]⟩, .slice none 0 0, .slice none 0 0] 33)
  replace hB := below_all hB hbN
  replace is1 := is1.all hbN
  replace ov1 := ov1.all hbN
  replace is3 := is3.all hbN
  replace ov2 := ov2.all hbN
  clear hbN
  have os4 : Own (w13.alloc (.cells #[sV [100], .int .i64 2, .int .i64 3, .string ⟨#[]⟩, .slice none 0 0, .slice none 0 0] 33)) w13.heap.size (FC.cells ⟨[100], ⟨2, 3, [], none, 0, 0, none, 0, 0⟩⟩) 33 := Own.new _ _ _
  refine (object_any _ 1 1 _).mono ?_
  rintro e w15 ⟨rfl, hb⟩
  replace hB := below_all hB hb
  replace is1 := is1.all hb
  replace ov1 := ov1.all hb
  replace is3 := is3.all hb
  replace ov2 := ov2.all hb
  replace os4 := os4.all hb
  clear hb
  have is4 : Is w15 ⟨5, 0, [], none, 0, 0, some ⟨w13.heap.size, 0, none⟩, 1, 1⟩ (tm [([100], (tn 3))]) := is_mapV (flds_one os4 (is_num _ _))
  clear os4
  have HS := Lib.hid (And.intro hB (And.intro is1 (And.intro ov1 (And.intro is3 (And.intro ov2 is4)))))
  clear hB is1 ov1 is3 ov2 is4
  go_wp2_with fail
  obtain ⟨hB, is1, ov1, is3, ov2, is4⟩ := HS.out
  clear HS
  have hbN := below_alloc w15 (.cells #[sV [98], .int .i64 2, .int .i64 2, .string ⟨#[]⟩, .slice none 0 0, .slice none 0 0, sV [99], .int .i64 5, .int .i64 0, .string ⟨#[]⟩, .slice none 0 0, .slice (some ⟨w13.heap.size, 0, none⟩) 1 1] 33)
  replace hB := below_all hB hbN
  replace is1 := is1.all hbN
  replace ov1 := ov1.all hbN
  replace is3 := is3.all hbN
  replace ov2 := ov2.all hbN
  replace is4 := is4.all hbN
  clear hbN
  have os5 : Own (w15.alloc (.cells #[sV [98], .int .i64 2, .int .i64 2, .string ⟨#[]⟩, .slice none 0 0, .slice none 0 0, sV [99], .int .i64 5, .int .i64 0, .string ⟨#[]⟩, .slice none 0 0, .slice (some ⟨w13.heap.size, 0, none⟩) 1 1] 33)) w15.heap.size (FC.cells ⟨[98], ⟨2, 2, [], none, 0, 0, none, 0, 0⟩⟩ ++ FC.cells ⟨[99], ⟨5, 0, [], none, 0, 0, some ⟨w13.heap.size, 0, none⟩, 1, 1⟩⟩) 33 := Own.new _ _ _
  refine (object_any _ 2 2 _).mono ?_
  rintro e w17 ⟨rfl, hb⟩
  replace hB := below_all hB hb
  replace is1 := is1.all hb
  replace ov1 := ov1.all hb
  replace is3 := is3.all hb
  replace ov2 := ov2.all hb
  replace is4 := is4.all hb
  replace os5 := os5.all hb
  clear hb
  have is5 : Is w17 ⟨5, 0, [], none, 0, 0, some ⟨w15.heap.size, 0, none⟩, 2, 2⟩ (tm [([98], (tn 2)), ([99], (tm [([100], (tn 3))]))]) := is_mapV (flds_two os5 (is_num _ _) (is4))
  clear os5
  clear is4
  have hbN := below_alloc w17 (.cells #[.int .i64 5, .int .i64 0, .string ⟨#[]⟩, .slice none 0 0, .slice (some ⟨w15.heap.size, 0, none⟩) 2 2] 25)
  replace hB := below_all hB hbN
  replace is1 := is1.all hbN
  replace ov1 := ov1.all hbN
  replace is3 := is3.all hbN
  replace ov2 := ov2.all hbN
  replace is5 := is5.all hbN
  clear hbN
  have ov3 : Own (w17.alloc (.cells #[.int .i64 5, .int .i64 0, .string ⟨#[]⟩, .slice none 0 0, .slice (some ⟨w15.heap.size, 0, none⟩) 2 2] 25)) w17.heap.size [.int .i64 5, .int .i64 0, .string ⟨#[]⟩, .slice none 0 0, .slice (some ⟨w15.heap.size, 0, none⟩) 2 2] 25 := Own.new _ _ _
  have HS := Lib.hid (And.intro hB (And.intro is1 (And.intro ov1 (And.intro is3 (And.intro ov2 (And.intro is5 ov3))))))
  clear hB is1 ov1 is3 ov2 is5 ov3
  go_upto_region 4 with (fail)
  change Code.wp Try.prog _ _ _ (w17.alloc (.cells #[.int .i64 5, .int .i64 0, .string ⟨#[]⟩, .slice none 0 0, .slice (some ⟨w15.heap.size, 0, none⟩) 2 2] 25))
  generalize (w17.alloc (.cells #[.int .i64 5, .int .i64 0, .string ⟨#[]⟩, .slice none 0 0, .slice (some ⟨w15.heap.size, 0, none⟩) 2 2] 25)) = V4 at *
  obtain ⟨hB, is1, ov1, is3, ov2, is5, ov3⟩ := HS.out
  clear HS
  have HS := Lib.hid (And.intro hB (And.intro is1 (And.intro ov1 (And.intro is3 (And.intro ov2 (And.intro is5 ov3))))))
  clear hB is1 ov1 is3 ov2 is5 ov3
  go_wp2_with fail
  obtain ⟨hB, is1, ov1, is3, ov2, is5, ov3⟩ := HS.out
  clear HS
  refine (num_any 3 _).mono ?_
  rintro e w19 ⟨rfl, hb⟩
  replace hB := below_all hB hb
  replace is1 := is1.all hb
  replace ov1 := ov1.all hb
  replace is3 := is3.all hb
  replace ov2 := ov2.all hb
  replace is5 := is5.all hb
  replace ov3 := ov3.all hb
  clear hb
  have HS := Lib.hid (And.intro hB (And.intro is1 (And.intro ov1 (And.intro is3 (And.intro ov2 (And.intro is5 ov3))))))
  clear hB is1 ov1 is3 ov2 is5 ov3
  go_wp2_with fail
  obtain ⟨hB, is1, ov1, is3, ov2, is5, ov3⟩ := HS.out
  clear HS
  have hbN := below_alloc w19 (.cells #[sV [100], .int .i64 2, .int .i64 3, .string ⟨#[]⟩, .slice none 0 0, .slice none 0 0] 33)
  replace hB := below_all hB hbN
  replace is1 := is1.all hbN
  replace ov1 := ov1.all hbN
  replace is3 := is3.all hbN
  replace ov2 := ov2.all hbN
  replace is5 := is5.all hbN
  replace ov3 := ov3.all hbN
  clear hbN
  have os6 : Own (w19.alloc (.cells #[sV [100], .int .i64 2, .int .i64 3, .string ⟨#[]⟩, .slice none 0 0, .slice none 0 0] 33)) w19.heap.size (FC.cells ⟨[100], ⟨2, 3, [], none, 0, 0, none, 0, 0⟩⟩) 33 := Own.new _ _ _
  refine (object_any _ 1 1 _).mono ?_
  rintro e w21 ⟨rfl, hb⟩
  replace hB := below_all hB hb
  replace is1 := is1.all hb
  replace ov1 := ov1.all hb
  replace is3 := is3.all hb
  replace ov2 := ov2.all hb
  replace is5 := is5.all hb
  replace ov3 := ov3.all hb
  replace os6 := os6.all hb
  clear hb
  have is6 : Is w21 ⟨5, 0, [], none, 0, 0, some ⟨w19.heap.size, 0, none⟩, 1, 1⟩ (tm [([100], (tn 3))]) := is_mapV (flds_one os6 (is_num _ _))
  clear os6
  have HS := Lib.hid (And.intro hB (And.intro is1 (And.intro ov1 (And.intro is3 (And.intro ov2 (And.intro is5 (And.intro ov3 is6)))))))
  clear hB is1 ov1 is3 ov2 is5 ov3 is6
  go_wp2_with fail
  obtain ⟨hB, is1, ov1, is3, ov2, is5, ov3, is6⟩ := HS.out
  clear HS
  have hbN := below_alloc w21 (.cells #[sV [97], .int .i64 0, .int .i64 0, .string ⟨#[]⟩, .slice none 0 0, .slice none 0 0, sV [99], .int .i64 5, .int .i64 0, .string ⟨#[]⟩, .slice none 0 0, .slice (some ⟨w19.heap.size, 0, none⟩) 1 1] 33)
  replace hB := below_all hB hbN
  replace is1 := is1.all hbN
  replace ov1 := ov1.all hbN
  replace is3 := is3.all hbN
  replace ov2 := ov2.all hbN
  replace is5 := is5.all hbN
  replace ov3 := ov3.all hbN
  replace is6 := is6.all hbN
  clear hbN
  have os7 : Own (w21.alloc (.cells #[sV [97], .int .i64 0, .int .i64 0, .string ⟨#[]⟩, .slice none 0 0, .slice none 0 0, sV [99], .int .i64 5, .int .i64 0, .string ⟨#[]⟩, .slice none 0 0, .slice (some ⟨w19.heap.size, 0, none⟩) 1 1] 33)) w21.heap.size (FC.cells ⟨[97], VC0⟩ ++ FC.cells ⟨[99], ⟨5, 0, [], none, 0, 0, some ⟨w19.heap.size, 0, none⟩, 1, 1⟩⟩) 33 := Own.new _ _ _
  refine (object_any _ 2 2 _).mono ?_
  rintro e w23 ⟨rfl, hb⟩
  replace hB := below_all hB hb
  replace is1 := is1.all hb
  replace ov1 := ov1.all hb
  replace is3 := is3.all hb
  replace ov2 := ov2.all hb
  replace is5 := is5.all hb
  replace ov3 := ov3.all hb
  replace is6 := is6.all hb
  replace os7 := os7.all hb
  clear hb
  have is7 : Is w23 ⟨5, 0, [], none, 0, 0, some ⟨w21.heap.size, 0, none⟩, 2, 2⟩ (tm [([97], T0), ([99], (tm [([100], (tn 3))]))]) := is_mapV (flds_two os7 (is_vc0 _) (is6))
  clear os7
  clear is6
  have hbN := below_alloc w23 (.cells #[.int .i64 5, .int .i64 0, .string ⟨#[]⟩, .slice none 0 0, .slice (some ⟨w21.heap.size, 0, none⟩) 2 2] 25)
  replace hB := below_all hB hbN
  replace is1 := is1.all hbN
  replace ov1 := ov1.all hbN
  replace is3 := is3.all hbN
  replace ov2 := ov2.all hbN
  replace is5 := is5.all hbN
  replace ov3 := ov3.all hbN
  replace is7 := is7.all hbN
  clear hbN
  have ov4 : Own (w23.alloc (.cells #[.int .i64 5, .int .i64 0, .string ⟨#[]⟩, .slice none 0 0, .slice (some ⟨w21.heap.size, 0, none⟩) 2 2] 25)) w23.heap.size [.int .i64 5, .int .i64 0, .string ⟨#[]⟩, .slice none 0 0, .slice (some ⟨w21.heap.size, 0, none⟩) 2 2] 25 := Own.new _ _ _
  have HS := Lib.hid (And.intro hB (And.intro is1 (And.intro ov1 (And.intro is3 (And.intro ov2 (And.intro is5 (And.intro ov3 (And.intro is7 ov4))))))))
  clear hB is1 ov1 is3 ov2 is5 ov3 is7 ov4
  go_upto_region 5 with (fail)
  change Code.wp Try.prog _ _ _ (w23.alloc (.cells #[.int .i64 5, .int .i64 0, .string ⟨#[]⟩, .slice none 0 0, .slice (some ⟨w21.heap.size, 0, none⟩) 2 2] 25))
  generalize (w23.alloc (.cells #[.int .i64 5, .int .i64 0, .string ⟨#[]⟩, .slice none 0 0, .slice (some ⟨w21.heap.size, 0, none⟩) 2 2] 25)) = V5 at *
  obtain ⟨hB, is1, ov1, is3, ov2, is5, ov3, is7, ov4⟩ := HS.out
  clear HS
  have HS := Lib.hid (And.intro hB (And.intro is1 (And.intro ov1 (And.intro is3 (And.intro ov2 (And.intro is5 (And.intro ov3 (And.intro is7 ov4))))))))
  clear hB is1 ov1 is3 ov2 is5 ov3 is7 ov4
  go_wp2_with fail
  obtain ⟨hB, is1, ov1, is3, ov2, is5, ov3, is7, ov4⟩ := HS.out
  clear HS
  refine (num_any 2 _).mono ?_
  rintro e w25 ⟨rfl, hb⟩
  replace hB := below_all hB hb
  replace is1 := is1.all hb
  replace ov1 := ov1.all hb
  replace is3 := is3.all hb
  replace ov2 := ov2.all hb
  replace is5 := is5.all hb
  replace ov3 := ov3.all hb
  replace is7 := is7.all hb
  replace ov4 := ov4.all hb
  clear hb
  have HS := Lib.hid (And.intro hB (And.intro is1 (And.intro ov1 (And.intro is3 (And.intro ov2 (And.intro is5 (And.intro ov3 (And.intro is7 ov4))))))))
  clear hB is1 ov1 is3 ov2 is5 ov3 is7 ov4
  go_wp2_with fail
  obtain ⟨hB, is1, ov1, is3, ov2, is5, ov3, is7, ov4⟩ := HS.out
  clear HS
  have hbN := below_alloc w25 (.cells #[sV [99], .int .i64 2, .int .i64 2, .string ⟨#[]⟩, .slice none 0 0, .slice none 0 0] 33)
  replace hB := below_all hB hbN
  replace is1 := is1.all hbN
  replace ov1 := ov1.all hbN
  replace is3 := is3.all hbN
  replace ov2 := ov2.all hbN
  replace is5 := is5.all hbN
  replace ov3 := ov3.all hbN
  replace is7 := is7.all hbN
  replace ov4 := ov4.all hbN
  clear hbN
  have os8 : Own (w25.alloc (.cells #[sV [99], .int .i64 2, .int .i64 2, .string ⟨#[]⟩, .slice none 0 0, .slice none 0 0] 33)) w25.heap.size (FC.cells ⟨[99], ⟨2, 2, [], none, 0, 0, none, 0, 0⟩⟩) 33 := Own.new _ _ _
  refine (object_any _ 1 1 _).mono ?_
  rintro e w27 ⟨rfl, hb⟩
  replace hB := below_all hB hb
  replace is1 := is1.all hb
  replace ov1 := ov1.all hb
  replace is3 := is3.all hb
  replace ov2 := ov2.all hb
  replace is5 := is5.all hb
  replace ov3 := ov3.all hb
  replace is7 := is7.all hb
  replace ov4 := ov4.all hb
  replace os8 := os8.all hb
  clear hb
  have is8 : Is w27 ⟨5, 0, [], none, 0, 0, some ⟨w25.heap.size, 0, none⟩, 1, 1⟩ (tm [([99], (tn 2))]) := is_mapV (flds_one os8 (is_num _ _))
  clear os8
  have HS := Lib.hid (And.intro hB (And.intro is1 (And.intro ov1 (And.intro is3 (And.intro ov2 (And.intro is5 (And.intro ov3 (And.intro is7 (And.intro ov4 is8)))))))))
  clear hB is1 ov1 is3 ov2 is5 ov3 is7 ov4 is8
  go_wp2_with fail
  obtain ⟨hB, is1, ov1, is3, ov2, is5, ov3, is7, ov4, is8⟩ := HS.out
  clear HS
  have hbN := below_alloc w27 (.cells #[sV [98], .int .i64 5, .int .i64 0, .string ⟨#[]⟩, .slice none 0 0, .slice (some ⟨w25.heap.size, 0, none⟩) 1 1] 33)
  replace hB := below_all hB hbN
  replace is1 := is1.all hbN
  replace ov1 := ov1.all hbN
  replace is3 := is3.all hbN
  replace ov2 := ov2.all hbN
  replace is5 := is5.all hbN
  replace ov3 := ov3.all hbN
  replace is7 := is7.all hbN
  replace ov4 := ov4.all hbN
  replace is8 := is8.all hbN
  clear hbN
  have os9 : Own (w27.alloc (.cells #[sV [98], .int .i64 5, .int .i64 0, .string ⟨#[]⟩, .slice none 0 0, .slice (some ⟨w25.heap.size, 0, none⟩) 1 1] 33)) w27.heap.size (FC.cells ⟨[98], ⟨5, 0, [], none, 0, 0, some ⟨w25.heap.size, 0, none⟩, 1, 1⟩⟩) 33 := Own.new _ _ _
  refine (object_any _ 1 1 _).mono ?_
  rintro e w29 ⟨rfl, hb⟩
  replace hB := below_all hB hb
  replace is1 := is1.all hb
  replace ov1 := ov1.all hb
  replace is3 := is3.all hb
  replace ov2 := ov2.all hb
  replace is5 := is5.all hb
  replace ov3 := ov3.all hb
  replace is7 := is7.all hb
  replace ov4 := ov4.all hb
  replace is8 := is8.all hb
  replace os9 := os9.all hb
  clear hb
  have is9 : Is w29 ⟨5, 0, [], none, 0, 0, some ⟨w27.heap.size, 0, none⟩, 1, 1⟩ (tm [([98], (tm [([99], (tn 2))]))]) := is_mapV (flds_one os9 (is8))
  clear os9
  clear is8
  have HS := Lib.hid (And.intro hB (And.intro is1 (And.intro ov1 (And.intro is3 (And.intro ov2 (And.intro is5 (And.intro ov3 (And.intro is7 (And.intro ov4 is9)))))))))
  clear hB is1 ov1 is3 ov2 is5 ov3 is7 ov4 is9
  go_wp2_with fail
  obtain ⟨hB, is1, ov1, is3, ov2, is5, ov3, is7, ov4, is9⟩ := HS.out
  clear HS
  have hbN := below_alloc w29 (.cells #[sV [100], .int .i64 0, .int .i64 0, .string ⟨#[]⟩, .slice none 0 0, .slice none 0 0] 33)
  replace hB := below_all hB hbN
  replace is1 := is1.all hbN
  replace ov1 := ov1.all hbN
  replace is3 := is3.all hbN
  replace ov2 := ov2.all hbN
  replace is5 := is5.all hbN
  replace ov3 := ov3.all hbN
  replace is7 := is7.all hbN
  replace ov4 := ov4.all hbN
  replace is9 := is9.all hbN
  clear hbN
  have os10 : Own (w29.alloc (.cells #[sV [100], .int .i64 0, .int .i64 0, .string ⟨#[]⟩, .slice none 0 0, .slice none 0 0] 33)) w29.heap.size (FC.cells ⟨[100], VC0⟩) 33 := Own.new _ _ _
  refine (object_any _ 1 1 _).mono ?_
  rintro e w31 ⟨rfl, hb⟩
  replace hB := below_all hB hb
  replace is1 := is1.all hb
  replace ov1 := ov1.all hb
  replace is3 := is3.all hb
  replace ov2 := ov2.all hb
  replace is5 := is5.all hb
  replace ov3 := ov3.all hb
  replace is7 := is7.all hb
  replace ov4 := ov4.all hb
  replace is9 := is9.all hb
  replace os10 := os10.all hb
  clear hb
  have is10 : Is w31 ⟨5, 0, [], none, 0, 0, some ⟨w29.heap.size, 0, none⟩, 1, 1⟩ (tm [([100], T0)]) := is_mapV (flds_one os10 (is_vc0 _))
  clear os10
  have HS := Lib.hid (And.intro hB (And.intro is1 (And.intro ov1 (And.intro is3 (And.intro ov2 (And.intro is5 (And.intro ov3 (And.intro is7 (And.intro ov4 (And.intro is9 is10))))))))))
  clear hB is1 ov1 is3 ov2 is5 ov3 is7 ov4 is9 is10
  go_wp2_with fail
  obtain ⟨hB, is1, ov1, is3, ov2, is5, ov3, is7, ov4, is9, is10⟩ := HS.out
  clear HS
  have hbN := below_alloc w31 (.cells #[sV [98], .int .i64 5, .int .i64 0, .string ⟨#[]⟩, .slice none 0 0, .slice (some ⟨w29.heap.size, 0, none⟩) 1 1] 33)
  replace hB := below_all hB hbN
  replace is1 := is1.all hbN
  replace ov1 := ov1.all hbN
  replace is3 := is3.all hbN
  replace ov2 := ov2.all hbN
  replace is5 := is5.all hbN
  replace ov3 := ov3.all hbN
  replace is7 := is7.all hbN
  replace ov4 := ov4.all hbN
  replace is9 := is9.all hbN
  replace is10 := is10.all hbN
  clear hbN
  have os11 : Own (w31.alloc (.cells #[sV [98], .int .i64 5, .int .i64 0, .string ⟨#[]⟩, .slice none 0 0, .slice (some ⟨w29.heap.size, 0, none⟩) 1 1] 33)) w31.heap.size (FC.cells ⟨[98], ⟨5, 0, [], none, 0, 0, some ⟨w29.heap.size, 0, none⟩, 1, 1⟩⟩) 33 := Own.new _ _ _
  refine (object_any _ 1 1 _).mono ?_
  rintro e w33 ⟨rfl, hb⟩
  replace hB := below_all hB hb
  replace is1 := is1.all hb
  replace ov1 := ov1.all hb
  replace is3 := is3.all hb
  replace ov2 := ov2.all hb
  replace is5 := is5.all hb
  replace ov3 := ov3.all hb
  replace is7 := is7.all hb
  replace ov4 := ov4.all hb
  replace is9 := is9.all hb
  replace is10 := is10.all hb
  replace os11 := os11.all hb
  clear hb
  have is11 : Is w33 ⟨5, 0, [], none, 0, 0, some ⟨w31.heap.size, 0, none⟩, 1, 1⟩ (tm [([98], (tm [([100], T0)]))]) := is_mapV (flds_one os11 (is10))
  clear os11
  clear is10
  have HS := Lib.hid (And.intro hB (And.intro is1 (And.intro ov1 (And.intro is3 (And.intro ov2 (And.intro is5 (And.intro ov3 (And.intro is7 (And.intro ov4 (And.intro is9 is11))))))))))
  clear hB is1 ov1 is3 ov2 is5 ov3 is7 ov4 is9 is11
  go_wp2_with fail
  obtain ⟨hB, is1, ov1, is3, ov2, is5, ov3, is7, ov4, is9, is11⟩ := HS.out
  clear HS
  refine (compose_any _ (tm [([98], (tm [([100], T0)]))]) (tm [([98], (tm [([99], (tn 2))]))]) (Nat.le_refl _) (by decide) (by decide) (mp_dec (by decide)) (mp_dec (by decide)) ⟨5, 0, [], none, 0, 0, some ⟨w27.heap.size, 0, none⟩, 1, 1⟩ ⟨5, 0, [], none, 0, 0, some ⟨w31.heap.size, 0, none⟩, 1, 1⟩ _ is9 is11).mono ?_
  rintro e w34 ⟨g5, rfl, hb, hi5⟩
  have i5 := hi5.is
  replace hB := below_all hB hb
  replace is1 := is1.all hb
  replace ov1 := ov1.all hb
  replace is3 := is3.all hb
  replace ov2 := ov2.all hb
  replace is5 := is5.all hb
  replace ov3 := ov3.all hb
  replace is7 := is7.all hb
  replace ov4 := ov4.all hb
  replace is9 := is9.all hb
  replace is11 := is11.all hb
  clear hb hi5 is9 is11
  have hbN := below_alloc w34 (.cells #[.int .i64 g5.k, .int .i64 g5.n, sV g5.s, .slice g5.la g5.ln g5.lc, .slice g5.fa g5.fn g5.fc] 25)
  replace hB := below_all hB hbN
  replace is1 := is1.all hbN
  replace ov1 := ov1.all hbN
  replace is3 := is3.all hbN
  replace ov2 := ov2.all hbN
  replace is5 := is5.all hbN
  replace ov3 := ov3.all hbN
  replace is7 := is7.all hbN
  replace ov4 := ov4.all hbN
  replace i5 := i5.all hbN
  clear hbN
  have ov5 : Own (w34.alloc (.cells #[.int .i64 g5.k, .int .i64 g5.n, sV g5.s, .slice g5.la g5.ln g5.lc, .slice g5.fa g5.fn g5.fc] 25)) w34.heap.size [.int .i64 g5.k, .int .i64 g5.n, sV g5.s, .slice g5.la g5.ln g5.lc, .slice g5.fa g5.fn g5.fc] 25 := Own.new _ _ _
  have HS := Lib.hid (And.intro hB (And.intro is1 (And.intro ov1 (And.intro is3 (And.intro ov2 (And.intro is5 (And.intro ov3 (And.intro is7 (And.intro ov4 (And.intro i5 ov5))))))))))
  clear hB is1 ov1 is3 ov2 is5 ov3 is7 ov4 i5 ov5
  go_upto_region 6 with (fail)
  change Code.wp Try.prog _ _ _ (w34.alloc (.cells #[.int .i64 g5.k, .int .i64 g5.n, sV g5.s, .slice g5.la g5.ln g5.lc, .slice g5.fa g5.fn g5.fc] 25))
  generalize (w34.alloc (.cells #[.int .i64 g5.k, .int .i64 g5.n, sV g5.s, .slice g5.la g5.ln g5.lc, .slice g5.fa g5.fn g5.fc] 25)) = V6 at *
  obtain ⟨hB, is1, ov1, is3, ov2, is5, ov3, is7, ov4, i5, ov5⟩ := HS.out
  clear HS
  have a10 := cell_regrown (ov1.cell (i := 0) rfl)
  have a11 := cell_regrown (ov1.cell (i := 1) rfl)
  have a12 := cell_regrown (ov1.cell (i := 2) rfl)
  have a13 := cell_regrown (ov1.cell (i := 3) rfl)
  have a14 := cell_regrown (ov1.cell (i := 4) rfl)
  have a20 := cell_regrown (ov2.cell (i := 0) rfl)
  have a21 := cell_regrown (ov2.cell (i := 1) rfl)
  have a22 := cell_regrown (ov2.cell (i := 2) rfl)
  have a23 := cell_regrown (ov2.cell (i := 3) rfl)
  have a24 := cell_regrown (ov2.cell (i := 4) rfl)
  have a30 := cell_regrown (ov3.cell (i := 0) rfl)
  have a31 := cell_regrown (ov3.cell (i := 1) rfl)
  have a32 := cell_regrown (ov3.cell (i := 2) rfl)
  have a33 := cell_regrown (ov3.cell (i := 3) rfl)
  have a34 := cell_regrown (ov3.cell (i := 4) rfl)
  have a40 := cell_regrown (ov4.cell (i := 0) rfl)
  have a41 := cell_regrown (ov4.cell (i := 1) rfl)
  have a42 := cell_regrown (ov4.cell (i := 2) rfl)
  have a43 := cell_regrown (ov4.cell (i := 3) rfl)
  have a44 := cell_regrown (ov4.cell (i := 4) rfl)
  have a50 := cell_regrown (ov5.cell (i := 0) rfl)
  have a51 := cell_regrown (ov5.cell (i := 1) rfl)
  have a52 := cell_regrown (ov5.cell (i := 2) rfl)
  have a53 := cell_regrown (ov5.cell (i := 3) rfl)
  have a54 := cell_regrown (ov5.cell (i := 4) rfl)
  have HS := Lib.hid (And.intro hB (And.intro is1 (And.intro ov1 (And.intro is3 (And.intro ov2 (And.intro is5 (And.intro ov3 (And.intro is7 (And.intro ov4 (And.intro i5 ov5))))))))))
  clear hB is1 ov1 is3 ov2 is5 ov3 is7 ov4 i5 ov5
  refine Dep.wp_region_multi 24 (fun i => i == 2 || i == 4 || i == 8 || i == 10 || i == 14 || i == 17 || i == 18 || i == 19 || i == 20 || i == 21 || i == 22)
    (fun i _ u w' => LV i u w') LS (fun i => if i = 4 then [2] else if i = 10 then [8] else if i = 18 then [17] else if i = 19 then [18] else if i = 20 then [19] else if i = 21 then [20] else if i = 22 then [21] else []) (by kernel_rfl) (by kernel_rfl) (by kernel_rfl)
    (fun i xs u w1 w2 h hb => LV.up h hb)
    (fun i => by
      unfold LS
      repeat' split
      · exact ⟨VC0.val, VC0, rfl⟩
      · exact ⟨_, 0, rfl⟩
      · exact ⟨_, 0, rfl⟩
      · exact ⟨_, VC0, rfl⟩
      · exact ⟨_, rfl⟩
      · exact ⟨_, rfl⟩) ?_
  simp only [List.take_succ_cons, List.take_zero, List.drop_succ_cons, List.drop_zero]
  refine Dep.wpM_stretch 2 rfl rfl rfl rfl ?_
  simp only [List.take_succ_cons, List.take_zero, List.drop_succ_cons, List.drop_zero]
  repeat (first | go_big_quiet_step (fail) | quiet_step (fail))
  refine wpQuiet_nil ?_
  refine Dep.wpM_dem rfl rfl rfl ?_ ?_
  · rintro _ ⟨pp, rfl⟩ hd
    go_simp
    simp only [demUpon]
    obtain ⟨hB, is1, ov1, is3, ov2, is5, ov3, is7, ov4, i5, ov5⟩ := HS.out
    clear HS
    refine ⟨trivial, (merge_any _ (tm [([97], T0), ([99], (tm [([100], (tn 3)), ([101], T0)]))]) (tm [([97], (tn 1)), ([98], (tn 2))]) (Nat.le_refl _) (by decide) (by decide) (mp_dec (by decide)) (mp_dec (by decide)) ⟨5, 0, [], none, 0, 0, some ⟨w2.heap.size, 0, none⟩, 2, 2⟩ ⟨5, 0, [], none, 0, 0, some ⟨w8.heap.size, 0, none⟩, 2, 2⟩ _ (is1.all (below_regrown V6 pp.d pp.os)) (is3.all (below_regrown V6 pp.d pp.os))).mono ?_⟩
    rintro e wA ⟨c', rfl, hbA, hN⟩
    exact ⟨_, rfl, ⟨c', rfl⟩, hbA, c', rfl, by have h := hN.is; rw [lives_mrg] at h; exact h⟩
  rintro u hu
  obtain ⟨m1, rfl⟩ : ∃ c' : VC, u = c'.val := hu
  try clear hu
  refine Dep.wpM_stretch 1 rfl rfl rfl rfl ?_
  simp only [List.take_succ_cons, List.take_zero, List.drop_succ_cons, List.drop_zero]
  repeat (first | go_big_quiet_step (fail) | quiet_step (fail))
  refine wpQuiet_nil ?_
  refine Dep.wpM_dem rfl rfl rfl ?_ ?_
  · rintro _ ⟨pp, rfl⟩ hd
    go_simp
    simp only [demUpon]
    obtain ⟨hB, is1, ov1, is3, ov2, is5, ov3, is7, ov4, i5, ov5⟩ := HS.out
    clear HS
    obtain ⟨e1, he1, hI1⟩ := (show ∃ c' : VC, m1.val = c'.val ∧ Is (grow (redrawn V6 pp.d) pp.os) c' (tm [([98], (tn 2)), ([99], (tm [([100], (tn 3))]))]) from hd 2 (by decide))
    obtain rfl := VC.val_inj he1
    refine ⟨trivial, (alike_true rfl hI1 (is5.all (below_regrown V6 pp.d pp.os))).mono ?_⟩
    rintro e wA ⟨rfl, hbA⟩
    exact ⟨_, rfl, rfl, hbA, trivial⟩
  rintro u hu
  obtain rfl : u = .bool true := hu
  try clear hu
  refine Dep.wpM_stretch 3 rfl rfl rfl rfl ?_
  simp only [List.take_succ_cons, List.take_zero, List.drop_succ_cons, List.drop_zero]
  repeat (first | go_big_quiet_step (fail) | quiet_step (fail))
  refine wpQuiet_nil ?_
  refine Dep.wpM_dem rfl rfl rfl ?_ ?_
  · rintro _ ⟨pp, rfl⟩ hd
    go_simp
    simp only [demUpon]
    obtain ⟨hB, is1, ov1, is3, ov2, is5, ov3, is7, ov4, i5, ov5⟩ := HS.out
    clear HS
    refine ⟨trivial, (diff_any _ (tm [([98], (tn 2)), ([99], (tm [([100], (tn 3))]))]) (tm [([97], (tn 1)), ([98], (tn 2))]) (Nat.le_refl _) (by decide) (by decide) (mp_dec (by decide)) (mp_dec (by decide)) ⟨5, 0, [], none, 0, 0, some ⟨w2.heap.size, 0, none⟩, 2, 2⟩ ⟨5, 0, [], none, 0, 0, some ⟨w15.heap.size, 0, none⟩, 2, 2⟩ _ (is1.all (below_regrown V6 pp.d pp.os)) (is5.all (below_regrown V6 pp.d pp.os))).mono ?_⟩
    rintro e wA ⟨c', rfl, hbA, hN⟩
    exact ⟨_, rfl, ⟨c', rfl⟩, hbA, c', rfl, by have h := hN.is; rw [lives_dif] at h; exact h⟩
  rintro u hu
  obtain ⟨m2, rfl⟩ : ∃ c' : VC, u = c'.val := hu
  try clear hu
  refine Dep.wpM_stretch 1 rfl rfl rfl rfl ?_
  simp only [List.take_succ_cons, List.take_zero, List.drop_succ_cons, List.drop_zero]
  repeat (first | go_big_quiet_step (fail) | quiet_step (fail))
  refine wpQuiet_nil ?_
  refine Dep.wpM_dem rfl rfl rfl ?_ ?_
  · rintro _ ⟨pp, rfl⟩ hd
    go_simp
    simp only [demUpon]
    obtain ⟨hB, is1, ov1, is3, ov2, is5, ov3, is7, ov4, i5, ov5⟩ := HS.out
    clear HS
    obtain ⟨e1, he1, hI1⟩ := (show ∃ c' : VC, m2.val = c'.val ∧ Is (grow (redrawn V6 pp.d) pp.os) c' (tm [([97], T0), ([99], (tm [([100], (tn 3))]))]) from hd 8 (by decide))
    obtain rfl := VC.val_inj he1
    refine ⟨trivial, (alike_true rfl hI1 (is7.all (below_regrown V6 pp.d pp.os))).mono ?_⟩
    rintro e wA ⟨rfl, hbA⟩
    exact ⟨_, rfl, rfl, hbA, trivial⟩
  rintro u hu
  obtain rfl : u = .bool true := hu
  try clear hu
  refine Dep.wpM_stretch 3 rfl rfl rfl rfl ?_
  simp only [List.take_succ_cons, List.take_zero, List.drop_succ_cons, List.drop_zero]
  repeat (first | go_big_quiet_step (fail) | quiet_step (fail))
  refine wpQuiet_nil ?_
  refine Dep.wpM_dem rfl rfl rfl ?_ ?_
  · rintro _ ⟨pp, rfl⟩ hd
    go_simp
    simp only [demUpon]
    obtain ⟨hB, is1, ov1, is3, ov2, is5, ov3, is7, ov4, i5, ov5⟩ := HS.out
    clear HS
    refine ⟨trivial, (num_any 2 _).mono ?_⟩
    rintro e wA ⟨rfl, hbA⟩
    exact ⟨_, rfl, rfl, hbA, trivial⟩
  rintro u hu
  obtain rfl : u = .agg #[.int .i64 2, .int .i64 2, .string ⟨#[]⟩, .slice none 0 0, .slice none 0 0] := hu
  try clear hu
  refine Dep.wpM_stretch 2 rfl rfl rfl rfl ?_
  simp only [List.take_succ_cons, List.take_zero, List.drop_succ_cons, List.drop_zero]
  repeat (first | go_big_quiet_step (fail) | quiet_step (fail))
  refine wpQuiet_nil ?_
  refine Dep.wpM_dem rfl rfl rfl ?_ ?_
  · rintro _ ⟨pp, rfl⟩ hd
    go_simp
    simp only [demUpon]
    obtain ⟨hB, is1, ov1, is3, ov2, is5, ov3, is7, ov4, i5, ov5⟩ := HS.out
    clear HS
    exact ⟨⟨_, rfl⟩, below_alloc _ _, _, rfl, flds_two (x := [99]) (y := [100]) (c := ⟨2, 2, [], none, 0, 0, none, 0, 0⟩) (d := VC0) (Own.new_at (by simp [grow, redrawn]) _ _) (is_num _ _) (is_vc0 _)⟩
  rintro u hu
  obtain ⟨sb, rfl⟩ : ∃ b : Nat, u = .slice (some ⟨b, 0, none⟩) 2 2 := hu
  try clear hu
  refine Dep.wpM_dem rfl rfl rfl ?_ ?_
  · rintro _ ⟨pp, rfl⟩ hd
    go_simp
    simp only [demUpon]
    obtain ⟨hB, is1, ov1, is3, ov2, is5, ov3, is7, ov4, i5, ov5⟩ := HS.out
    clear HS
    obtain ⟨b', -, hF⟩ := (show ∃ b : Nat, (Value.slice (some ⟨sb, 0, none⟩) 2 2) = .slice (some ⟨b, 0, none⟩) 2 2 ∧ Flds (grow (redrawn V6 pp.d) pp.os) (.slice (some ⟨sb, 0, none⟩) 2 2) [([99], tn 2), ([100], T0)] from hd 17 (by decide))
    refine ⟨trivial, (object_any _ 2 2 _).mono ?_⟩
    rintro e wA ⟨rfl, hbA⟩
    exact ⟨_, rfl, ⟨⟨5, 0, [], none, 0, 0, some ⟨sb, 0, none⟩, 2, 2⟩, rfl⟩, hbA, ⟨5, 0, [], none, 0, 0, some ⟨sb, 0, none⟩, 2, 2⟩, rfl, is_mapV (hF.all hbA)⟩
  rintro u hu
  obtain ⟨m3, rfl⟩ : ∃ c' : VC, u = c'.val := hu
  try clear hu
  refine Dep.wpM_dem rfl rfl rfl ?_ ?_
  · rintro _ ⟨pp, rfl⟩ hd
    go_simp
    simp only [demUpon]
    obtain ⟨hB, is1, ov1, is3, ov2, is5, ov3, is7, ov4, i5, ov5⟩ := HS.out
    clear HS
    obtain ⟨e1, he1, hI1⟩ := (show ∃ c' : VC, m3.val = c'.val ∧ Is (grow (redrawn V6 pp.d) pp.os) c' (tm [([99], tn 2), ([100], T0)]) from hd 18 (by decide))
    obtain rfl := VC.val_inj he1
    exact ⟨⟨m3, rfl⟩, Below.refl _ _, m3, rfl, hI1⟩
  rintro u hu
  obtain ⟨m5, rfl⟩ : ∃ c' : VC, u = .agg #[sV [98], .int .i64 c'.k, .int .i64 c'.n, sV c'.s, .slice c'.la c'.ln c'.lc, .slice c'.fa c'.fn c'.fc] := hu
  try clear hu
  refine Dep.wpM_dem rfl rfl rfl ?_ ?_
  · rintro _ ⟨pp, rfl⟩ hd
    go_simp
    simp only [demUpon]
    obtain ⟨hB, is1, ov1, is3, ov2, is5, ov3, is7, ov4, i5, ov5⟩ := HS.out
    clear HS
    obtain ⟨e1, he1, hI1⟩ := (show ∃ c' : VC, Value.agg #[sV [98], .int .i64 m5.k, .int .i64 m5.n, sV m5.s, .slice m5.la m5.ln m5.lc, .slice m5.fa m5.fn m5.fc] = .agg #[sV [98], .int .i64 c'.k, .int .i64 c'.n, sV c'.s, .slice c'.la c'.ln c'.lc, .slice c'.fa c'.fn c'.fc] ∧ Is (grow (redrawn V6 pp.d) pp.os) c' (tm [([99], tn 2), ([100], T0)]) from hd 19 (by decide))
    obtain rfl := aggF_inj (congrArg (fun u => [u]) he1)
    exact ⟨⟨_, rfl⟩, below_alloc _ _, _, rfl, flds_one (x := [98]) (c := m5) (Own.new_at (by simp [grow, redrawn]) _ _) (hI1.all (below_alloc _ _))⟩
  rintro u hu
  obtain ⟨sc, rfl⟩ : ∃ b : Nat, u = .slice (some ⟨b, 0, none⟩) 1 1 := hu
  try clear hu
  refine Dep.wpM_dem rfl rfl rfl ?_ ?_
  · rintro _ ⟨pp, rfl⟩ hd
    go_simp
    simp only [demUpon]
    obtain ⟨hB, is1, ov1, is3, ov2, is5, ov3, is7, ov4, i5, ov5⟩ := HS.out
    clear HS
    obtain ⟨b', -, hF⟩ := (show ∃ b : Nat, (Value.slice (some ⟨sc, 0, none⟩) 1 1) = .slice (some ⟨b, 0, none⟩) 1 1 ∧ Flds (grow (redrawn V6 pp.d) pp.os) (.slice (some ⟨sc, 0, none⟩) 1 1) [([98], tm [([99], tn 2), ([100], T0)])] from hd 20 (by decide))
    refine ⟨trivial, (object_any _ 1 1 _).mono ?_⟩
    rintro e wA ⟨rfl, hbA⟩
    exact ⟨_, rfl, ⟨⟨5, 0, [], none, 0, 0, some ⟨sc, 0, none⟩, 1, 1⟩, rfl⟩, hbA, ⟨5, 0, [], none, 0, 0, some ⟨sc, 0, none⟩, 1, 1⟩, rfl, is_mapV (hF.all hbA)⟩
  rintro u hu
  obtain ⟨m4, rfl⟩ : ∃ c' : VC, u = c'.val := hu
  try clear hu
  refine Dep.wpM_dem rfl rfl rfl ?_ ?_
  · rintro _ ⟨pp, rfl⟩ hd
    go_simp
    simp only [demUpon]
    obtain ⟨hB, is1, ov1, is3, ov2, is5, ov3, is7, ov4, i5, ov5⟩ := HS.out
    clear HS
    obtain ⟨e1, he1, hI1⟩ := (show ∃ c' : VC, m4.val = c'.val ∧ Is (grow (redrawn V6 pp.d) pp.os) c' (tm [([98], tm [([99], tn 2), ([100], T0)])]) from hd 21 (by decide))
    obtain rfl := VC.val_inj he1
    refine ⟨trivial, (alike_true lives_cpo (i5.all (below_regrown V6 pp.d pp.os)) hI1).mono ?_⟩
    rintro e wA ⟨rfl, hbA⟩
    exact ⟨_, rfl, rfl, hbA, trivial⟩
  rintro u hu
  obtain rfl : u = .bool true := hu
  try clear hu
  refine Dep.wpM_stretch 1 rfl rfl rfl rfl ?_
  simp only [List.take_succ_cons, List.take_zero, List.drop_succ_cons, List.drop_zero]
  repeat (first | go_big_quiet_step (fail) | quiet_step (fail))
  refine wpQuiet_nil ?_
  refine Dep.wpM_end ?_
  rintro U hbU -
  obtain ⟨hB, is1, ov1, is3, ov2, is5, ov3, is7, ov4, i5, ov5⟩ := HS.out
  clear HS
  go_wp2
  go_ret
  exact ⟨rfl, below_all hB hbU⟩
end Go.Proofs.Ytinenbgdkchghaa
