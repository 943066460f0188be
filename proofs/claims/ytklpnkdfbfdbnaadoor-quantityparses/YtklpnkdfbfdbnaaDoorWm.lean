/- The reference's Parse answers as the specification says; the walk of the law on Parse. -/
import Derived.Test.YtklpnkdfbfdbnaaDoorWk
import Derived.Test.YtklpnkdfbfdbnaaDoorWl
import Derived.Test.YtklpnkdfbfdbnaaDoorWf
namespace Go.Proofs.YtklpnkdfbfdbnaaDoor
open Go.RowKit

theorem take_tw (t : List UInt8) : t.take (t.takeWhile isDig).length = t.takeWhile isDig := by
  have h := List.takeWhile_append_dropWhile (p := isDig) (l := t)
  conv => lhs; rw [← h]
  rw [List.takeWhile_append_dropWhile]
  conv => lhs; arg 2; rw [← h]
  exact List.take_left' rfl
theorem drop_tw (t : List UInt8) : t.drop (t.takeWhile isDig).length = t.dropWhile isDig := by
  have h := List.takeWhile_append_dropWhile (p := isDig) (l := t)
  conv => lhs; arg 2; rw [← h]
  exact List.drop_left' rfl
theorem tw_head {t : List UInt8} (hp : 0 < t.length) (hk : 0 < (t.takeWhile isDig).length) : (t.takeWhile isDig).head? = some (t[0]'hp) := by
  cases t with
  | nil => simp at hp
  | cons c r =>
    by_cases hc : isDig c = true
    · rw [List.takeWhile_cons_of_pos hc]; rfl
    · rw [List.takeWhile_cons_of_neg hc] at hk; simp at hk
theorem byte48 {t : List UInt8} (hp : 0 < t.length) : ((((⟨t.toArray⟩ : ByteArray)[0]'hp).toNat : Int) == 48) = (t[0]'hp == 48) := by
  show (((t[0]'hp).toNat : Int) == 48) = _
  rw [Bool.eq_iff_iff]; simp only [beq_iff_eq]; exact u8_48 _
theorem u8_46 (c : UInt8) : (c.toNat : Int) = 46 ↔ c = 46 :=
  ⟨fun h => UInt8.toNat_inj.1 (by simpa using (by omega : c.toNat = 46)), fun h => by rw [h]; rfl⟩
theorem byte46 {t : List UInt8} (hp : 0 < t.length) : ((((⟨t.toArray⟩ : ByteArray)[0]'hp).toNat : Int) == 46) = (t[0]'hp == 46) := by
  show (((t[0]'hp).toNat : Int) == 46) = _
  rw [Bool.eq_iff_iff]; simp only [beq_iff_eq]; exact u8_46 _
theorem dotted_iff {rest : List UInt8} : Lib.hasPrefix rest [46] = true ↔ ∃ tail, rest = 46 :: tail := by
  cases rest with
  | nil => simp [Lib.hasPrefix, List.isPrefixOf]
  | cons c r =>
    have e : Lib.hasPrefix (c :: r) [46] = (46 == c) := by simp [Lib.hasPrefix, List.isPrefixOf]
    rw [e, beq_iff_eq]
    exact ⟨fun h => ⟨r, by rw [h]⟩, fun ⟨tl, h⟩ => (List.cons.inj h).1.symm⟩
theorem facR_zero {l : List UInt8} : facR l = 0 ↔ l = [109] ∨ facOf l = 0 := by
  unfold facR; by_cases h : l = [109] <;> simp [h]
theorem facR_eq {l : List UInt8} (h : l ≠ [109]) : facR l = facOf l := by unfold facR; rw [if_neg h]
theorem ext_mid {l : List UInt8} (a b : Nat) : (⟨l.toArray⟩ : ByteArray).extract a b = ⟨((l.drop a).take (b - a)).toArray⟩ := by
  apply ByteArray.ext; rw [ByteArray.data_extract]; simp

/-- the reference's reading of a text without a sign -/
theorem runsigned_any (t : List UInt8) (w : World) (hl : t.length ≤ 9223372036854775807) :
    Calls Tryd.prog 25 #[.string ⟨t.toArray⟩] w fun e w' => e = .returned (.tuple #[.int .i64 (parseU t).1, .int .i64 (parseU t).2]) ∧ ∃ n, w' = w.drewN n := by
  have q2 := tw_len t
  have q3 := dw_len t
  have q4 := all_takeWhile t
  have e1 := take_tw t
  have e2 := drop_tw t
  have eh : ∀ hp : 0 < t.length, 0 < (t.takeWhile isDig).length → (t.takeWhile isDig).head? = some (t[0]'hp) := fun hp hk => tw_head hp hk
  unfold parseU
  generalize hwh : t.takeWhile isDig = wh at *
  generalize hr : t.dropWhile isDig = rest at *
  by_cases hk1 : wh.length < 1 ∨ 15 < wh.length
  · have hbad : wholeOk wh = false := by unfold wholeOk; rcases hk1 with h | h <;> simp <;> omega
    rw [if_pos hbad]
    exact rbad_k t wh w hl hwh hk1
  have hp : 0 < t.length := by omega
  have hh := eh hp (by omega)
  by_cases hz : 1 < wh.length ∧ (t[0]'hp == 48) = true
  · have hbad : wholeOk wh = false := by
      unfold wholeOk
      have n1 : (wh == [48]) = false := by
        simp only [beq_eq_false_iff_ne, ne_eq]; intro e; rw [e] at hz; simp at hz
      have n2 : (wh.head? != some 48) = false := by
        rw [hh]; simpa using hz.2
      rw [n1, n2]; simp
    rw [if_pos hbad]
    exact rbad_zero t wh w hl hwh hz.1 (by omega) hp ((byte48 hp).trans hz.2)
  have hok : wholeOk wh = true := by
    unfold wholeOk
    by_cases h1 : wh.length = 1
    · match wh, h1 with
      | [c], _ => by_cases hc : c = 48 <;> simp [hc]
    · have : (t[0]'hp == 48) = false := by
        cases hx : (t[0]'hp == 48) with
        | false => rfl
        | true => exact absurd ⟨by omega, hx⟩ hz
      have n2 : (wh.head? != some 48) = true := by rw [hh]; simpa using this
      rw [n2]; simp; omega
  rw [if_neg (by rw [hok]; decide)]
  have h48 : wh.length ≤ 1 ∨ 1 < wh.length ∧ ((((⟨t.toArray⟩ : ByteArray)[0]'hp).toNat : Int) == 48) = false := by
    by_cases h1 : wh.length ≤ 1
    · exact Or.inl h1
    · refine Or.inr ⟨by omega, (byte48 hp).trans ?_⟩
      cases hx : (t[0]'hp == 48) with
      | false => rfl
      | true => exact absurd ⟨by omega, hx⟩ hz
  have x1 : (⟨t.toArray⟩ : ByteArray).extract 0 wh.length = ⟨wh.toArray⟩ := by rw [ext_take, e1]
  have x2 : (⟨t.toArray⟩ : ByteArray).extract wh.length t.length = ⟨rest.toArray⟩ := by rw [ext_drop, e2]
  have hD1 : decN wh < 1000000000000000 := by
    have h1 := decN_lt q4
    have h2 : 10 ^ wh.length ≤ 10 ^ 15 := Nat.pow_le_pow_right (by decide) (by omega)
    omega
  have CN : Hid (∀ w, Calls Tryd.prog 32 #[.string ⟨wh.toArray⟩] w fun e w' => e = .returned (.int .i64 (decN wh : Nat)) ∧ w' = w) :=
    Lib.hid fun w => (rnumber_any wh w (by omega) q4).mono fun _ _ h => ⟨h.1, h.2.symm⟩
  by_cases hm : rest = [109]
  · subst hm
    rw [rest_m _ (by omega)]
    exact rmilli t wh w hl hwh (by omega) (by omega) q2 hp h48 [109] x1 x2 (decN wh) hD1 CN rfl
  have hm' : (rest == [109]) = false := by simpa using hm
  unfold parseRest
  by_cases hdot : Lib.hasPrefix rest [46] = true
  · rw [if_pos hdot]
    obtain ⟨tail, rfl⟩ := dotted_iff.1 hdot
    have htp : Lib.trimPrefix (46 :: tail) [46] = tail := by unfold Lib.trimPrefix; rw [hdot]; rfl
    rw [htp]
    have q6 := tw_len tail
    have q7 := all_takeWhile tail
    have d1 := take_tw tail
    have d2 := drop_tw tail
    generalize hfr : tail.takeWhile isDig = fr at *
    generalize hsf : tail.dropWhile isDig = sf at *
    have q8 : tail.length + 1 ≤ t.length := q3
    have hd46 : ((((⟨(46 :: tail).toArray⟩ : ByteArray)[0]'(by exact Nat.succ_pos _)).toNat : Int) == 46) = true := rfl
    have x3 : (⟨(46 :: tail).toArray⟩ : ByteArray).extract 1 (46 :: tail).length = ⟨tail.toArray⟩ := by rw [ext_drop]; rfl
    show Calls Tryd.prog 25 _ w fun e w' => e = .returned (.tuple #[.int .i64 (if fracOk fr = false ∨ sf = [109] ∨ facOf sf = 0 then (0, 2) else scaled (decN wh * 1000 + thouN fr) (facOf sf)).1, .int .i64 (if fracOk fr = false ∨ sf = [109] ∨ facOf sf = 0 then (0, 2) else scaled (decN wh * 1000 + thouN fr) (facOf sf)).2]) ∧ ∃ n, w' = w.drewN n
    by_cases hfo : fracOk fr = false
    · rw [if_pos (Or.inl hfo)]
      have hj : (fr.length : Int) < 1 ∨ 3 < (fr.length : Int) := by
        unfold fracOk at hfo
        simp at hfo
        omega
      exact rfrac t wh w hl hwh (by omega) (by omega) q2 hp h48 _ x1 x2 (decN wh) CN hm' (by simp only [List.length_cons]; omega) (by simp) hd46 tail fr (by omega) x3 hfr hj
    have hfo' : fracOk fr = true := by simpa using hfo
    obtain ⟨f1, f3⟩ := fracOk_le hfo'
    have x4 : (⟨(46 :: tail).toArray⟩ : ByteArray).extract 1 (1 + fr.length) = ⟨fr.toArray⟩ := by
      rw [ext_mid, Nat.add_sub_cancel_left]
      show (⟨(tail.take fr.length).toArray⟩ : ByteArray) = _
      rw [d1]
    have x6 : (⟨(46 :: tail).toArray⟩ : ByteArray).extract (1 + fr.length) (46 :: tail).length = ⟨sf.toArray⟩ := by
      rw [ext_drop, Nat.add_comm, List.drop_succ_cons, d2]
    have CT : Hid (∀ w, Calls Tryd.prog 32 #[.string ((⟨fr.toArray⟩ ++ ⟨#[48, 48]⟩ : ByteArray).extract 0 3)] w fun e w' => e = .returned (.int .i64 (thouN fr : Nat)) ∧ w = w') :=
      Lib.hid fun w => by
        have h := rnumber_any ((fr ++ [48, 48]).take 3) w (by simp; omega) (thou_take_all q7)
        rw [thou_take f1 f3, ← ext_take, ← str_app] at h
        exact h
    have hT := thouN_lt q7 f3
    by_cases hf : facR sf = 0
    · rw [if_pos (Or.inr (facR_zero.1 hf))]
      exact rdot_fac t wh w hl hwh (by omega) (by omega) q2 hp h48 _ x1 x2 (decN wh) CN hm' (by simp only [List.length_cons]; omega) (by simp) hd46 tail fr (by omega) x3 hfr f1 f3 (by simp only [List.length_cons]; omega) sf x4 x6 (thouN fr) CT hf
    have hne : sf ≠ [109] := fun e => hf (facR_zero.2 (Or.inl e))
    have hfe := facR_eq hne
    have hf0 : facOf sf ≠ 0 := fun e => hf (facR_zero.2 (Or.inr e))
    rw [if_neg (by simp [hfo', hne, hf0])]
    have hF0 : 0 < facOf sf := by have := facOf_nonneg sf; omega
    have hFb : (facOf sf == 0) = false := by simpa using hf0
    by_cases hbig : 1000000000000 < (decN wh : Int)
    · rw [scaled_early hbig (by omega)]
      exact rdot_big t wh w hl hwh (by omega) (by omega) q2 hp h48 _ x1 x2 (decN wh) CN hm' (by simp only [List.length_cons]; omega) (by simp) hd46 tail fr (by omega) x3 hfr f1 f3 (by simp only [List.length_cons]; omega) sf x4 x6 (thouN fr) CT (facOf sf) hfe hFb hbig
    by_cases hlt : 1000000000000000 / facOf sf < (decN wh : Int) * 1000 + thouN fr
    · rw [scaled_big hlt]
      exact rdot_range t wh w hl hwh (by omega) (by omega) q2 hp h48 _ x1 x2 (decN wh) CN hm' (by simp only [List.length_cons]; omega) (by simp) hd46 tail fr (by omega) x3 hfr f1 f3 (by simp only [List.length_cons]; omega) sf x4 x6 (thouN fr) hT CT (facOf sf) hfe hF0 hFb (by omega) hlt
    · obtain ⟨b0, b1⟩ := scale_bd (n := (decN wh : Int) * 1000 + thouN fr) hF0 (by omega) (by omega)
      rw [scaled_ok (by omega)]
      exact rdot_ok t wh w hl hwh (by omega) (by omega) q2 hp h48 _ x1 x2 (decN wh) CN hm' (by simp only [List.length_cons]; omega) (by simp) hd46 tail fr (by omega) x3 hfr f1 f3 (by simp only [List.length_cons]; omega) sf x4 x6 (thouN fr) hT CT (facOf sf) hfe hF0 hFb (by omega) (by omega) b0 b1
  · rw [if_neg hdot]
    have hnd : rest.length ≤ 0 ∨ ∃ hp2 : 0 < rest.length, ((((⟨rest.toArray⟩ : ByteArray)[0]'hp2).toNat : Int) == 46) = false := by
      cases rest with
      | nil => exact Or.inl (Nat.le_refl _)
      | cons c r =>
        refine Or.inr ⟨by simp, (byte46 (by simp)).trans ?_⟩
        cases hx : ((c :: r)[0] == 46) with
        | false => rfl
        | true =>
          have hc : c = 46 := by simpa using hx
          exact absurd (dotted_iff.2 ⟨r, by rw [hc]⟩) hdot
    have hfe := facR_eq hm
    by_cases hf : facOf rest = 0
    · rw [if_pos hf]
      exact rnodot_fac t wh w hl hwh (by omega) (by omega) q2 hp h48 rest x1 x2 (decN wh) CN hm' (by omega) hnd (hfe.trans hf)
    rw [if_neg hf, if_neg hm]
    have hF0 : 0 < facOf rest := by have := facOf_nonneg rest; omega
    have hFb : (facOf rest == 0) = false := by simpa using hf
    by_cases hbig : 1000000000000 < (decN wh : Int)
    · have := scaled_early (T := 0) (F := facOf rest) hbig (by omega)
      rw [Int.add_zero] at this
      rw [this]
      exact rnodot_big t wh w hl hwh (by omega) (by omega) q2 hp h48 rest x1 x2 (decN wh) CN hm' (by omega) hnd (facOf rest) hfe hFb hbig
    by_cases hlt : 1000000000000000 / facOf rest < (decN wh : Int) * 1000
    · rw [scaled_big hlt]
      exact rnodot_range t wh w hl hwh (by omega) (by omega) q2 hp h48 rest x1 x2 (decN wh) CN hm' (by omega) hnd (facOf rest) hfe hF0 hFb (by omega) hlt
    · obtain ⟨b0, b1⟩ := scale_bd (n := (decN wh : Int) * 1000) hF0 (by omega) (by omega)
      rw [scaled_ok (by omega)]
      exact rnodot_ok t wh w hl hwh (by omega) (by omega) q2 hp h48 rest x1 x2 (decN wh) CN hm' (by omega) hnd (facOf rest) hfe hF0 hFb (by omega) (by omega) b0 b1
end Go.Proofs.YtklpnkdfbfdbnaaDoor
