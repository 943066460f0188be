/- The reference's reader of paths: brackets and steps. The reference's reader of paths: steps. The reference's Parse of paths. -/
import Derived.Test.YtjpmnlefjmdelaaGreatDoorYhJ
import Derived.Test.YtjpmnlefjmdelaaGreatDoorYcJ
import Derived.Test.YtjpmnlefjmdelaaGreatDoorXeJ
set_option linter.unusedSimpArgs false
set_option linter.unusedVariables false
namespace Go.Proofs.YtjpmnlefjmdelaaGreatDoor
open Go.RowKit Go.Sort Go.Proofs.LawFrame

def put6 (W : World) (b : Nat) (v0 v1 v2 v3 v4 v5 : Value) : World := (((((W.setCell ⟨b, 0, none⟩ v0).setCell ⟨b, 1, none⟩ v1).setCell ⟨b, 2, none⟩ v2).setCell ⟨b, 3, none⟩ v3).setCell ⟨b, 4, none⟩ v4).setCell ⟨b, 5, none⟩ v5
theorem own_put6 {W : World} {b : Nat} {a0 a1 a2 a3 a4 a5 : Value} {t : TypeId} (o : Own W b [a0, a1, a2, a3, a4, a5] t) (v0 v1 v2 v3 v4 v5 : Value) : Own (put6 W b v0 v1 v2 v3 v4 v5) b [v0, v1, v2, v3, v4, v5] t :=
  (((((o.set 0 v0).set 1 v1).set 2 v2).set 3 v3).set 4 v4).set 5 v5
theorem below_put6 {B b : Nat} {w W : World} (h : Below B w W) (hb : B ≤ b) (v0 v1 v2 v3 v4 v5 : Value) : Below B w (put6 W b v0 v1 v2 v3 v4 v5) := below_set (below_set (below_set (below_set (below_set (below_set h hb _) hb _) hb _) hb _) hb _) hb _
/-- a step read, the offset behind it, and whether there is none -/
abbrev gotV (st : S) (i : Int) (b : Bool) : Value := .agg #[.int .i64 st.k, sV st.nm, .int .i64 st.ix, sV st.vl, .int .i64 i, .bool b]
/-- what bracket and step answer -/
structure QBr (s : Str) (w : World) (res : Option (S × Str)) (e : Ending) (w' : World) : Prop where
  below : Below w.heap.size w w'
  ok : ∀ st q, res = some (st, q) → ∃ j : Nat, e = .returned (gotV st j false) ∧ j ≤ s.length ∧ s.drop j = q
  no : res = none → ∃ (st : S) (j : Int), e = .returned (gotV st j true)
theorem QBr.mkNo {s : Str} {w w' : World} {res : Option (S × Str)} (st : S) (j : Int) (h : Below w.heap.size w w') (hr : res = none) : QBr s w res (.returned (gotV st j true)) w' :=
  ⟨h, fun v q h => (by rw [hr] at h; cases h), fun _ => ⟨st, j, rfl⟩⟩
theorem QBr.mkOk {s : Str} {w w' : World} {res : Option (S × Str)} {st : S} {q : Str} {j : Nat} (h : Below w.heap.size w w') (hr : res = some (st, q)) (hj : j ≤ s.length) (hd : s.drop j = q) : QBr s w res (.returned (gotV st j false)) w' :=
  ⟨h, fun v q h => (by rw [hr] at h; cases h; exact ⟨j, rfl, hj, hd⟩), fun h => (by rw [hr] at h; cases h)⟩
theorem cut1_no {a c : UInt8} {r u : Str} (h : ¬ c.toNat = a.toNat) : cutP (a :: u) (c :: r) = none := by
  rw [cutP, if_neg (fun e => h (by rw [e]))]
theorem cut1_yes {a c : UInt8} {r u : Str} (h : c.toNat = a.toNat) : cutP (a :: u) (c :: r) = cutP u r := by
  rw [cutP, if_pos (UInt8.toNat_inj.1 h.symm)]
theorem cut1_nil {a : UInt8} {u : Str} : cutP (a :: u) [] = none := by rw [cutP]
theorem keyP_quo {n r2 : Str} {c : UInt8} (h : c.toNat = 61) : keyP n (c :: r2) = match quoI r2 with
    | none => none
    | some (v, q2) => match cutP [93] q2 with
      | none => none
      | some q3 => some (⟨3, n, 0, v⟩, q3) := by
  unfold keyP quoI
  rw [cut1_yes (a := 61) h]
  cases cutP [34] r2 with
  | none => rfl
  | some q => rfl

set_option maxHeartbeats 8000000 in
set_option maxRecDepth 4000 in
theorem pbracket_any {s : Str} {i : Nat} {c0 : UInt8} {r : Str} (hl : s.length ≤ 1000000) (hd : s.drop i = c0 :: r) (w : World) : Calls Tryz.prog 110 #[sV s, .int .i64 i] w (QBr s w (brkP r)) := by
  obtain ⟨hlt0, -, hd1, hlen1⟩ := dropB hd
  have hb0 := below_alloc w (.cells #[.int .i64 0, .string ⟨#[]⟩, .int .i64 0, .string ⟨#[]⟩, .int .i64 0, .bool false] 86)
  have o0 := Own.new w [.int .i64 0, .string ⟨#[]⟩, .int .i64 0, .string ⟨#[]⟩, .int .i64 0, .bool false] 86
  have HO := Lib.hid (And.intro hb0 o0)
  clear hb0 o0 hd
  go_enter Tryz.func110, Tryz.ntmps110
  go_upto_region 1 with (fail)
  change Code.wp Tryz.prog _ _ _ (w.alloc (.cells #[.int .i64 0, .string ⟨#[]⟩, .int .i64 0, .string ⟨#[]⟩, .int .i64 0, .bool false] 86))
  generalize w.alloc (.cells #[.int .i64 0, .string ⟨#[]⟩, .int .i64 0, .string ⟨#[]⟩, .int .i64 0, .bool false] 86) = V at *
  have C := Lib.hid (pname_any hl (i := i + 1) (r := r) (by omega) hd1 V)
  have hi1 : i + 1 ≤ s.length := by omega
  have hnl := nlen_le r
  have hdn := dropA (nlen r) hd1
  rw [drop_nlen] at hdn
  have hx : (⟨s.toArray⟩ : ByteArray).extract (i + 1) (i + 1 + nlen r) = ⟨(r.takeWhile nmByte).toArray⟩ := by
    rw [ext_mid (i + 1) (nlen r), hd1, take_nlen]
  have hwl : (r.takeWhile nmByte).length = nlen r := rfl
  have hB : Hid (brkP r = brkN (r.takeWhile nmByte) (r.dropWhile nmByte)) := Lib.hid rfl
  generalize r.takeWhile nmByte = wd at *
  generalize r.dropWhile nmByte = rest at *
  generalize nlen r = n at *
  have hn2 : i + 1 + n ≤ s.length := by omega
  have HH := Lib.hid (And.intro hd1 (And.intro hlen1 hwl))
  clear hd1 hlen1 hnl hwl
  go_wp2_with fail
  refine C.out.mono ?_
  rintro e w' ⟨rfl, rfl⟩
  clear C
  by_cases hn0 : n = 0
  · subst hn0
    have hwd : wd = [] := List.eq_nil_of_length_eq_zero HH.out.2.2
    have HF : Hid (brkP r = none) := Lib.hid (by
      rw [hB.out, hwd]; unfold brkN; cases cutP [93] rest with
      | none => rfl
      | some q => rfl)
    clear hdn hx hwd
    by_cases hend : s.length ≤ i + 1
    · have hend2 : s.length = i + 1 := by omega
      have oFin := HO.out.2
      have q0 := oFin.cell (i := 0) rfl
      have q1 := oFin.cell (i := 1) rfl
      have q2 := oFin.cell (i := 2) rfl
      have q3 := oFin.cell (i := 3) rfl
      have q4 := oFin.cell (i := 4) rfl
      have q5 := oFin.cell (i := 5) rfl
      have g0 := oFin.frozen 0
      have g1 := oFin.frozen 1
      have g2 := oFin.frozen 2
      have g3 := oFin.frozen 3
      have g4 := oFin.frozen 4
      have g5 := oFin.frozen 5
      have HU := Lib.hid (And.intro (own_put6 oFin (.int .i64 0) (.string ⟨#[]⟩) (.int .i64 0) (.string ⟨#[]⟩) (.int .i64 0) (.bool true)) (below_put6 HO.out.1 (Nat.le_refl _) (.int .i64 0) (.string ⟨#[]⟩) (.int .i64 0) (.string ⟨#[]⟩) (.int .i64 0) (.bool true)))
      clear oFin
      go_wp2
      clear q0 q1 q2 q3 q4 q5 g0 g1 g2 g3 g4 g5
      change bodyPost Tryz.prog Tryz.f110 _ _ _ (put6 V (w.heap.size) (.int .i64 0) (.string ⟨#[]⟩) (.int .i64 0) (.string ⟨#[]⟩) (.int .i64 0) (.bool true))
      generalize put6 V (w.heap.size) (.int .i64 0) (.string ⟨#[]⟩) (.int .i64 0) (.string ⟨#[]⟩) (.int .i64 0) (.bool true) = U at *
      have c0 := HU.out.1.cell (i := 0) rfl
      have c1 := HU.out.1.cell (i := 1) rfl
      have c2 := HU.out.1.cell (i := 2) rfl
      have c3 := HU.out.1.cell (i := 3) rfl
      have c4 := HU.out.1.cell (i := 4) rfl
      have c5 := HU.out.1.cell (i := 5) rfl
      exact bodyPost_ret (v := .agg #[.int .i64 0, .string ⟨#[]⟩, .int .i64 0, .string ⟨#[]⟩, .int .i64 0, .bool true]) (by simp [results, Tryz.results110, go_sem, c0, c1, c2, c3, c4, c5]) rfl (QBr.mkNo ⟨0, [], 0, []⟩ 0 HU.out.2 HF.out)
    · have hend2 : i + 1 < s.length := by omega
      have oFin := HO.out.2
      have q0 := oFin.cell (i := 0) rfl
      have q1 := oFin.cell (i := 1) rfl
      have q2 := oFin.cell (i := 2) rfl
      have q3 := oFin.cell (i := 3) rfl
      have q4 := oFin.cell (i := 4) rfl
      have q5 := oFin.cell (i := 5) rfl
      have g0 := oFin.frozen 0
      have g1 := oFin.frozen 1
      have g2 := oFin.frozen 2
      have g3 := oFin.frozen 3
      have g4 := oFin.frozen 4
      have g5 := oFin.frozen 5
      have HU := Lib.hid (And.intro (own_put6 oFin (.int .i64 0) (.string ⟨#[]⟩) (.int .i64 0) (.string ⟨#[]⟩) (.int .i64 0) (.bool true)) (below_put6 HO.out.1 (Nat.le_refl _) (.int .i64 0) (.string ⟨#[]⟩) (.int .i64 0) (.string ⟨#[]⟩) (.int .i64 0) (.bool true)))
      clear oFin
      go_wp2
      clear q0 q1 q2 q3 q4 q5 g0 g1 g2 g3 g4 g5
      change bodyPost Tryz.prog Tryz.f110 _ _ _ (put6 V (w.heap.size) (.int .i64 0) (.string ⟨#[]⟩) (.int .i64 0) (.string ⟨#[]⟩) (.int .i64 0) (.bool true))
      generalize put6 V (w.heap.size) (.int .i64 0) (.string ⟨#[]⟩) (.int .i64 0) (.string ⟨#[]⟩) (.int .i64 0) (.bool true) = U at *
      have c0 := HU.out.1.cell (i := 0) rfl
      have c1 := HU.out.1.cell (i := 1) rfl
      have c2 := HU.out.1.cell (i := 2) rfl
      have c3 := HU.out.1.cell (i := 3) rfl
      have c4 := HU.out.1.cell (i := 4) rfl
      have c5 := HU.out.1.cell (i := 5) rfl
      exact bodyPost_ret (v := .agg #[.int .i64 0, .string ⟨#[]⟩, .int .i64 0, .string ⟨#[]⟩, .int .i64 0, .bool true]) (by simp [results, Tryz.results110, go_sem, c0, c1, c2, c3, c4, c5]) rfl (QBr.mkNo ⟨0, [], 0, []⟩ 0 HU.out.2 HF.out)
  have hwn : ¬ wd = [] := fun e => hn0 (by have := HH.out.2.2; rw [e] at this; exact this.symm)
  cases rest with
  | nil =>
    have HF : Hid (brkP r = none) := Lib.hid (by
      rw [hB.out]; unfold brkN; rw [cut1_nil]; simp only; rw [if_neg hwn]; unfold keyP; rw [cut1_nil])
    have hend := dropE hdn hn2
    clear hdn hx
    have oFin := HO.out.2
    have q0 := oFin.cell (i := 0) rfl
    have q1 := oFin.cell (i := 1) rfl
    have q2 := oFin.cell (i := 2) rfl
    have q3 := oFin.cell (i := 3) rfl
    have q4 := oFin.cell (i := 4) rfl
    have q5 := oFin.cell (i := 5) rfl
    have g0 := oFin.frozen 0
    have g1 := oFin.frozen 1
    have g2 := oFin.frozen 2
    have g3 := oFin.frozen 3
    have g4 := oFin.frozen 4
    have g5 := oFin.frozen 5
    have HU := Lib.hid (And.intro (own_put6 oFin (.int .i64 0) (.string ⟨#[]⟩) (.int .i64 0) (.string ⟨#[]⟩) (.int .i64 0) (.bool true)) (below_put6 HO.out.1 (Nat.le_refl _) (.int .i64 0) (.string ⟨#[]⟩) (.int .i64 0) (.string ⟨#[]⟩) (.int .i64 0) (.bool true)))
    clear oFin
    go_wp2
    clear q0 q1 q2 q3 q4 q5 g0 g1 g2 g3 g4 g5
    change bodyPost Tryz.prog Tryz.f110 _ _ _ (put6 V (w.heap.size) (.int .i64 0) (.string ⟨#[]⟩) (.int .i64 0) (.string ⟨#[]⟩) (.int .i64 0) (.bool true))
    generalize put6 V (w.heap.size) (.int .i64 0) (.string ⟨#[]⟩) (.int .i64 0) (.string ⟨#[]⟩) (.int .i64 0) (.bool true) = U at *
    have c0 := HU.out.1.cell (i := 0) rfl
    have c1 := HU.out.1.cell (i := 1) rfl
    have c2 := HU.out.1.cell (i := 2) rfl
    have c3 := HU.out.1.cell (i := 3) rfl
    have c4 := HU.out.1.cell (i := 4) rfl
    have c5 := HU.out.1.cell (i := 5) rfl
    exact bodyPost_ret (v := .agg #[.int .i64 0, .string ⟨#[]⟩, .int .i64 0, .string ⟨#[]⟩, .int .i64 0, .bool true]) (by simp [results, Tryz.results110, go_sem, c0, c1, c2, c3, c4, c5]) rfl (QBr.mkNo ⟨0, [], 0, []⟩ 0 HU.out.2 HF.out)
  | cons c r2 =>
    obtain ⟨hlt, hc, hd2, hlen2⟩ := dropB hdn
    have hm : ((⟨s.toArray⟩ : ByteArray)[i + 1 + n]'hlt).toNat = c.toNat := by rw [← hc]; rfl
    have hwl : wd.length ≤ 1000000 := by have := HH.out.2.2; omega
    have HD2 := Lib.hid (And.intro hd2 hlen2)
    have HWN := Lib.hid hwn
    have hj1 : i + 1 + n + 1 ≤ s.length := by omega
    have n1 : decide ((s.length : Int) ≤ (i : Int) + 1 + (n : Int)) = false := decide_eq_false (by omega)
    have n2 : (((i : Int) + 1 + (n : Int)) == ((i : Int) + 1)) = false := by rw [beq_eq_false_iff_ne]; omega
    clear hdn hc hd2 hlen2 hwn
    by_cases h93 : c.toNat = 93
    · have CN := pnumber_any wd V hwl
      have CD := pdigits_any wd V hwl
      have hBr : brkP r = if idxOk wd then some (⟨2, [], idxN 0 wd, []⟩, r2) else none := by rw [hB.out]; unfold brkN; rw [cut1_yes (a := 93) h93, cutP]
      have hnum : idxOk wd = true → numI 0 wd = idxN 0 wd := fun h => by
        rw [idxOk_iff] at h
        simp only [Bool.and_eq_true] at h
        rw [numI_idx h.2 (by omega)]; rfl
      obtain ⟨ob, hob⟩ : ∃ b, idxOk wd = b := ⟨_, rfl⟩
      rw [hob] at CD hBr hnum
      have HBR := Lib.hid (And.intro hBr hnum)
      have CN := Lib.hid CN
      have CD := Lib.hid CD
      clear hBr hnum hob
      rw [h93] at hm
      clear h93
      generalize numI 0 wd = nv at *
      have oFin := HO.out.2
      have q0 := oFin.cell (i := 0) rfl
      have q1 := oFin.cell (i := 1) rfl
      have q2 := oFin.cell (i := 2) rfl
      have q3 := oFin.cell (i := 3) rfl
      have q4 := oFin.cell (i := 4) rfl
      have q5 := oFin.cell (i := 5) rfl
      have g0 := oFin.frozen 0
      have g1 := oFin.frozen 1
      have g2 := oFin.frozen 2
      have g3 := oFin.frozen 3
      have g4 := oFin.frozen 4
      have g5 := oFin.frozen 5
      have HU := Lib.hid (And.intro (own_put6 oFin (.int .i64 2) (.string ⟨#[]⟩) (.int .i64 nv) (.string ⟨#[]⟩) (.int .i64 ((i + 1 + n + 1 : Nat) : Int)) (.bool (!ob))) (below_put6 HO.out.1 (Nat.le_refl _) (.int .i64 2) (.string ⟨#[]⟩) (.int .i64 nv) (.string ⟨#[]⟩) (.int .i64 ((i + 1 + n + 1 : Nat) : Int)) (.bool (!ob))))
      clear oFin
      go_wp2_with fail
      refine CN.out.mono ?_
      rintro e w' ⟨rfl, rfl⟩
      go_wp2_with fail
      refine CD.out.mono ?_
      rintro e w' ⟨rfl, rfl⟩
      go_wp2
      clear q0 q1 q2 q3 q4 q5 g0 g1 g2 g3 g4 g5
      change bodyPost Tryz.prog Tryz.f110 _ _ _ (put6 V (w.heap.size) (.int .i64 2) (.string ⟨#[]⟩) (.int .i64 nv) (.string ⟨#[]⟩) (.int .i64 ((i + 1 + n + 1 : Nat) : Int)) (.bool (!ob)))
      generalize put6 V (w.heap.size) (.int .i64 2) (.string ⟨#[]⟩) (.int .i64 nv) (.string ⟨#[]⟩) (.int .i64 ((i + 1 + n + 1 : Nat) : Int)) (.bool (!ob)) = U at *
      have c0 := HU.out.1.cell (i := 0) rfl
      have c1 := HU.out.1.cell (i := 1) rfl
      have c2 := HU.out.1.cell (i := 2) rfl
      have c3 := HU.out.1.cell (i := 3) rfl
      have c4 := HU.out.1.cell (i := 4) rfl
      have c5 := HU.out.1.cell (i := 5) rfl
      refine bodyPost_ret (v := gotV ⟨2, [], nv, []⟩ ((i + 1 + n + 1 : Nat) : Int) (!ob)) (by simp [results, Tryz.results110, go_sem, c0, c1, c2, c3, c4, c5]) rfl ?_
      cases ob with
      | false => exact QBr.mkNo _ _ HU.out.2 HBR.out.1
      | true =>
        have h1 := HBR.out.1
        have h2 := HBR.out.2 rfl
        rw [h2]
        exact QBr.mkOk HU.out.2 h1 hj1 HD2.out.1
    have hBk : brkP r = keyP wd (c :: r2) := by rw [hB.out]; unfold brkN; rw [cut1_no (a := 93) h93]; simp only; rw [if_neg HWN.out]
    by_cases h61 : c.toNat = 61
    case neg =>
      have HF : Hid (brkP r = none) := Lib.hid (by rw [hBk]; unfold keyP; rw [cut1_no (a := 61) h61])
      generalize hcm : c.toNat = m at *
      have b1 : ((m : Int) != 61) = true := by rw [bne_iff_ne]; omega
      clear hcm hBk
      have oFin := HO.out.2
      have q0 := oFin.cell (i := 0) rfl
      have q1 := oFin.cell (i := 1) rfl
      have q2 := oFin.cell (i := 2) rfl
      have q3 := oFin.cell (i := 3) rfl
      have q4 := oFin.cell (i := 4) rfl
      have q5 := oFin.cell (i := 5) rfl
      have g0 := oFin.frozen 0
      have g1 := oFin.frozen 1
      have g2 := oFin.frozen 2
      have g3 := oFin.frozen 3
      have g4 := oFin.frozen 4
      have g5 := oFin.frozen 5
      have HU := Lib.hid (And.intro (own_put6 oFin (.int .i64 0) (.string ⟨#[]⟩) (.int .i64 0) (.string ⟨#[]⟩) (.int .i64 0) (.bool true)) (below_put6 HO.out.1 (Nat.le_refl _) (.int .i64 0) (.string ⟨#[]⟩) (.int .i64 0) (.string ⟨#[]⟩) (.int .i64 0) (.bool true)))
      clear oFin
      go_wp2
      clear q0 q1 q2 q3 q4 q5 g0 g1 g2 g3 g4 g5
      change bodyPost Tryz.prog Tryz.f110 _ _ _ (put6 V (w.heap.size) (.int .i64 0) (.string ⟨#[]⟩) (.int .i64 0) (.string ⟨#[]⟩) (.int .i64 0) (.bool true))
      generalize put6 V (w.heap.size) (.int .i64 0) (.string ⟨#[]⟩) (.int .i64 0) (.string ⟨#[]⟩) (.int .i64 0) (.bool true) = U at *
      have c0 := HU.out.1.cell (i := 0) rfl
      have c1 := HU.out.1.cell (i := 1) rfl
      have c2 := HU.out.1.cell (i := 2) rfl
      have c3 := HU.out.1.cell (i := 3) rfl
      have c4 := HU.out.1.cell (i := 4) rfl
      have c5 := HU.out.1.cell (i := 5) rfl
      exact bodyPost_ret (v := .agg #[.int .i64 0, .string ⟨#[]⟩, .int .i64 0, .string ⟨#[]⟩, .int .i64 0, .bool true]) (by simp [results, Tryz.results110, go_sem, c0, c1, c2, c3, c4, c5]) rfl (QBr.mkNo ⟨0, [], 0, []⟩ 0 HU.out.2 HF.out)
    rw [keyP_quo h61] at hBk
    have CQ := Lib.hid (pquoted_any hl (i := i + 1 + n + 1) (r := r2) hj1 HD2.out.1 V)
    have HBK := Lib.hid hBk
    rw [h61] at hm
    clear h93 h61 hBk
    go_wp2_with fail
    refine CQ.out.mono ?_
    intro e w1 hres
    clear CQ
    obtain rfl := hres.same
    cases hq : quoI r2 with
    | none =>
      obtain ⟨v, j, rfl⟩ := hres.no hq
      have HF : Hid (brkP r = none) := Lib.hid (by rw [HBK.out, hq])
      clear hres hq
      have oFin := HO.out.2
      have q0 := oFin.cell (i := 0) rfl
      have q1 := oFin.cell (i := 1) rfl
      have q2 := oFin.cell (i := 2) rfl
      have q3 := oFin.cell (i := 3) rfl
      have q4 := oFin.cell (i := 4) rfl
      have q5 := oFin.cell (i := 5) rfl
      have g0 := oFin.frozen 0
      have g1 := oFin.frozen 1
      have g2 := oFin.frozen 2
      have g3 := oFin.frozen 3
      have g4 := oFin.frozen 4
      have g5 := oFin.frozen 5
      have HU := Lib.hid (And.intro (own_put6 oFin (.int .i64 0) (.string ⟨#[]⟩) (.int .i64 0) (.string ⟨#[]⟩) (.int .i64 0) (.bool true)) (below_put6 HO.out.1 (Nat.le_refl _) (.int .i64 0) (.string ⟨#[]⟩) (.int .i64 0) (.string ⟨#[]⟩) (.int .i64 0) (.bool true)))
      clear oFin
      go_wp2
      clear q0 q1 q2 q3 q4 q5 g0 g1 g2 g3 g4 g5
      change bodyPost Tryz.prog Tryz.f110 _ _ _ (put6 V (w.heap.size) (.int .i64 0) (.string ⟨#[]⟩) (.int .i64 0) (.string ⟨#[]⟩) (.int .i64 0) (.bool true))
      generalize put6 V (w.heap.size) (.int .i64 0) (.string ⟨#[]⟩) (.int .i64 0) (.string ⟨#[]⟩) (.int .i64 0) (.bool true) = U at *
      have c0 := HU.out.1.cell (i := 0) rfl
      have c1 := HU.out.1.cell (i := 1) rfl
      have c2 := HU.out.1.cell (i := 2) rfl
      have c3 := HU.out.1.cell (i := 3) rfl
      have c4 := HU.out.1.cell (i := 4) rfl
      have c5 := HU.out.1.cell (i := 5) rfl
      exact bodyPost_ret (v := .agg #[.int .i64 0, .string ⟨#[]⟩, .int .i64 0, .string ⟨#[]⟩, .int .i64 0, .bool true]) (by simp [results, Tryz.results110, go_sem, c0, c1, c2, c3, c4, c5]) rfl (QBr.mkNo ⟨0, [], 0, []⟩ 0 HU.out.2 HF.out)
    | some p =>
      obtain ⟨v, q2⟩ := p
      obtain ⟨j, rfl, hjl, hjd⟩ := hres.ok v q2 hq
      have hB2 : brkP r = match cutP [93] q2 with
        | none => none
        | some q3 => some (⟨3, wd, 0, v⟩, q3) := by rw [HBK.out, hq]
      clear hres hq hx hm
      cases q2 with
      | nil =>
        obtain rfl := dropE hjd hjl
        have HF : Hid (brkP r = none) := Lib.hid (by rw [hB2, cut1_nil])
        clear hB2 hjd
        have oFin := HO.out.2
        have q0 := oFin.cell (i := 0) rfl
        have q1 := oFin.cell (i := 1) rfl
        have q2 := oFin.cell (i := 2) rfl
        have q3 := oFin.cell (i := 3) rfl
        have q4 := oFin.cell (i := 4) rfl
        have q5 := oFin.cell (i := 5) rfl
        have g0 := oFin.frozen 0
        have g1 := oFin.frozen 1
        have g2 := oFin.frozen 2
        have g3 := oFin.frozen 3
        have g4 := oFin.frozen 4
        have g5 := oFin.frozen 5
        have HU := Lib.hid (And.intro (own_put6 oFin (.int .i64 0) (.string ⟨#[]⟩) (.int .i64 0) (.string ⟨#[]⟩) (.int .i64 0) (.bool true)) (below_put6 HO.out.1 (Nat.le_refl _) (.int .i64 0) (.string ⟨#[]⟩) (.int .i64 0) (.string ⟨#[]⟩) (.int .i64 0) (.bool true)))
        clear oFin
        go_wp2
        clear q0 q1 q2 q3 q4 q5 g0 g1 g2 g3 g4 g5
        change bodyPost Tryz.prog Tryz.f110 _ _ _ (put6 V (w.heap.size) (.int .i64 0) (.string ⟨#[]⟩) (.int .i64 0) (.string ⟨#[]⟩) (.int .i64 0) (.bool true))
        generalize put6 V (w.heap.size) (.int .i64 0) (.string ⟨#[]⟩) (.int .i64 0) (.string ⟨#[]⟩) (.int .i64 0) (.bool true) = U at *
        have c0 := HU.out.1.cell (i := 0) rfl
        have c1 := HU.out.1.cell (i := 1) rfl
        have c2 := HU.out.1.cell (i := 2) rfl
        have c3 := HU.out.1.cell (i := 3) rfl
        have c4 := HU.out.1.cell (i := 4) rfl
        have c5 := HU.out.1.cell (i := 5) rfl
        exact bodyPost_ret (v := .agg #[.int .i64 0, .string ⟨#[]⟩, .int .i64 0, .string ⟨#[]⟩, .int .i64 0, .bool true]) (by simp [results, Tryz.results110, go_sem, c0, c1, c2, c3, c4, c5]) rfl (QBr.mkNo ⟨0, [], 0, []⟩ 0 HU.out.2 HF.out)
      | cons e q3 =>
        obtain ⟨hltj, hcj, hdj, hlenj⟩ := dropB hjd
        have hm : ((⟨s.toArray⟩ : ByteArray)[j]'hltj).toNat = e.toNat := by rw [← hcj]; rfl
        have HDJ := Lib.hid hdj
        have hjj : j + 1 ≤ s.length := hltj
        by_cases h93 : e.toNat = 93
        · have HF : Hid (brkP r = some (⟨3, wd, 0, v⟩, q3)) := Lib.hid (by rw [hB2, cut1_yes (a := 93) h93, cutP])
          rw [h93] at hm
          clear hB2 hjd hcj hdj hlenj h93
          have oFin := HO.out.2
          have q0 := oFin.cell (i := 0) rfl
          have q1 := oFin.cell (i := 1) rfl
          have q2 := oFin.cell (i := 2) rfl
          have q3 := oFin.cell (i := 3) rfl
          have q4 := oFin.cell (i := 4) rfl
          have q5 := oFin.cell (i := 5) rfl
          have g0 := oFin.frozen 0
          have g1 := oFin.frozen 1
          have g2 := oFin.frozen 2
          have g3 := oFin.frozen 3
          have g4 := oFin.frozen 4
          have g5 := oFin.frozen 5
          have HU := Lib.hid (And.intro (own_put6 oFin (.int .i64 3) (sV wd) (.int .i64 0) (sV v) (.int .i64 ((j + 1 : Nat) : Int)) (.bool false)) (below_put6 HO.out.1 (Nat.le_refl _) (.int .i64 3) (sV wd) (.int .i64 0) (sV v) (.int .i64 ((j + 1 : Nat) : Int)) (.bool false)))
          clear oFin
          go_wp2
          clear q0 q1 q2 q3 q4 q5 g0 g1 g2 g3 g4 g5
          change bodyPost Tryz.prog Tryz.f110 _ _ _ (put6 V (w.heap.size) (.int .i64 3) (sV wd) (.int .i64 0) (sV v) (.int .i64 ((j + 1 : Nat) : Int)) (.bool false))
          generalize put6 V (w.heap.size) (.int .i64 3) (sV wd) (.int .i64 0) (sV v) (.int .i64 ((j + 1 : Nat) : Int)) (.bool false) = U at *
          have c0 := HU.out.1.cell (i := 0) rfl
          have c1 := HU.out.1.cell (i := 1) rfl
          have c2 := HU.out.1.cell (i := 2) rfl
          have c3 := HU.out.1.cell (i := 3) rfl
          have c4 := HU.out.1.cell (i := 4) rfl
          have c5 := HU.out.1.cell (i := 5) rfl
          exact bodyPost_ret (v := .agg #[.int .i64 3, sV wd, .int .i64 0, sV v, .int .i64 ((j + 1 : Nat) : Int), .bool false]) (by simp [results, Tryz.results110, go_sem, c0, c1, c2, c3, c4, c5]) rfl (QBr.mkOk (st := ⟨3, wd, 0, v⟩) HU.out.2 HF.out hjj HDJ.out)
        · have HF : Hid (brkP r = none) := Lib.hid (by rw [hB2, cut1_no (a := 93) h93])
          generalize hcm : e.toNat = m at *
          have b1 : ((m : Int) != 93) = true := by rw [bne_iff_ne]; omega
          clear hB2 hjd hcj hdj hlenj hcm
          have oFin := HO.out.2
          have q0 := oFin.cell (i := 0) rfl
          have q1 := oFin.cell (i := 1) rfl
          have q2 := oFin.cell (i := 2) rfl
          have q3 := oFin.cell (i := 3) rfl
          have q4 := oFin.cell (i := 4) rfl
          have q5 := oFin.cell (i := 5) rfl
          have g0 := oFin.frozen 0
          have g1 := oFin.frozen 1
          have g2 := oFin.frozen 2
          have g3 := oFin.frozen 3
          have g4 := oFin.frozen 4
          have g5 := oFin.frozen 5
          have HU := Lib.hid (And.intro (own_put6 oFin (.int .i64 0) (.string ⟨#[]⟩) (.int .i64 0) (.string ⟨#[]⟩) (.int .i64 0) (.bool true)) (below_put6 HO.out.1 (Nat.le_refl _) (.int .i64 0) (.string ⟨#[]⟩) (.int .i64 0) (.string ⟨#[]⟩) (.int .i64 0) (.bool true)))
          clear oFin
          go_wp2
          clear q0 q1 q2 q3 q4 q5 g0 g1 g2 g3 g4 g5
          change bodyPost Tryz.prog Tryz.f110 _ _ _ (put6 V (w.heap.size) (.int .i64 0) (.string ⟨#[]⟩) (.int .i64 0) (.string ⟨#[]⟩) (.int .i64 0) (.bool true))
          generalize put6 V (w.heap.size) (.int .i64 0) (.string ⟨#[]⟩) (.int .i64 0) (.string ⟨#[]⟩) (.int .i64 0) (.bool true) = U at *
          have c0 := HU.out.1.cell (i := 0) rfl
          have c1 := HU.out.1.cell (i := 1) rfl
          have c2 := HU.out.1.cell (i := 2) rfl
          have c3 := HU.out.1.cell (i := 3) rfl
          have c4 := HU.out.1.cell (i := 4) rfl
          have c5 := HU.out.1.cell (i := 5) rfl
          exact bodyPost_ret (v := .agg #[.int .i64 0, .string ⟨#[]⟩, .int .i64 0, .string ⟨#[]⟩, .int .i64 0, .bool true]) (by simp [results, Tryz.results110, go_sem, c0, c1, c2, c3, c4, c5]) rfl (QBr.mkNo ⟨0, [], 0, []⟩ 0 HU.out.2 HF.out)

end Go.Proofs.YtjpmnlefjmdelaaGreatDoor
namespace Go.Proofs.YtjpmnlefjmdelaaGreatDoor
open Go.RowKit Go.Sort Go.Proofs.LawFrame

set_option maxHeartbeats 8000000 in
set_option maxRecDepth 4000 in
theorem pstep_any {s : Str} {i : Nat} {c0 : UInt8} {r : Str} (hl : s.length ≤ 1000000) (hd : s.drop i = c0 :: r) (w : World) : Calls Tryz.prog 66 #[sV s, .int .i64 i] w (QBr s w (stpP (decide (i = 0)) (c0 :: r))) := by
  obtain ⟨hlt0, hc0, hd1, hlen1⟩ := dropB hd
  have hm : ((⟨s.toArray⟩ : ByteArray)[i]'hlt0).toNat = c0.toNat := by rw [← hc0]; rfl
  have hb0 := below_alloc w (.cells #[.int .i64 0, .string ⟨#[]⟩, .int .i64 0, .string ⟨#[]⟩, .int .i64 0, .bool false] 86)
  have o0 := Own.new w [.int .i64 0, .string ⟨#[]⟩, .int .i64 0, .string ⟨#[]⟩, .int .i64 0, .bool false] 86
  have HO := Lib.hid (And.intro hb0 o0)
  have HD := Lib.hid (And.intro hd (And.intro hd1 hlen1))
  clear hb0 o0 hc0
  go_enter Tryz.func66, Tryz.ntmps66
  go_upto_region 1 with (fail)
  change Code.wp Tryz.prog _ _ _ (w.alloc (.cells #[.int .i64 0, .string ⟨#[]⟩, .int .i64 0, .string ⟨#[]⟩, .int .i64 0, .bool false] 86))
  generalize w.alloc (.cells #[.int .i64 0, .string ⟨#[]⟩, .int .i64 0, .string ⟨#[]⟩, .int .i64 0, .bool false] 86) = V at *
  by_cases h91 : c0.toNat = 91
  · have HF : Hid (stpP (decide (i = 0)) (c0 :: r) = brkP r) := Lib.hid (by unfold stpP; rw [cut1_yes (a := 91) h91, cutP])
    have C := Lib.hid (pbracket_any hl hd V)
    rw [h91] at hm
    clear hd hd1 hlen1 h91
    go_wp2_with fail
    refine C.out.mono ?_
    intro e w1 hres
    clear C
    cases hq : brkP r with
    | none =>
      obtain ⟨⟨sk, sn, si, sv⟩, j, rfl⟩ := hres.no hq
      have HB := Lib.hid (And.intro (below_all HO.out.1 hres.below) (HO.out.2.all hres.below))
      have HQ := Lib.hid (HF.out.trans hq)
      clear hres hq hm
      have oFin := HB.out.2
      have q0 := oFin.cell (i := 0) rfl
      have q1 := oFin.cell (i := 1) rfl
      have q2 := oFin.cell (i := 2) rfl
      have q3 := oFin.cell (i := 3) rfl
      have q4 := oFin.cell (i := 4) rfl
      have q5 := oFin.cell (i := 5) rfl
      have g0 := oFin.frozen 0
      have g1 := oFin.frozen 1
      have g2 := oFin.frozen 2
      have g3 := oFin.frozen 3
      have g4 := oFin.frozen 4
      have g5 := oFin.frozen 5
      have HU := Lib.hid (And.intro (own_put6 oFin (.int .i64 sk) (sV sn) (.int .i64 si) (sV sv) (.int .i64 j) (.bool true)) (below_put6 HB.out.1 (Nat.le_refl _) (.int .i64 sk) (sV sn) (.int .i64 si) (sV sv) (.int .i64 j) (.bool true)))
      clear oFin
      go_wp2
      clear q0 q1 q2 q3 q4 q5 g0 g1 g2 g3 g4 g5
      change bodyPost Tryz.prog Tryz.f66 _ _ _ (put6 w1 (w.heap.size) (.int .i64 sk) (sV sn) (.int .i64 si) (sV sv) (.int .i64 j) (.bool true))
      generalize put6 w1 (w.heap.size) (.int .i64 sk) (sV sn) (.int .i64 si) (sV sv) (.int .i64 j) (.bool true) = U at *
      have c0 := HU.out.1.cell (i := 0) rfl
      have c1 := HU.out.1.cell (i := 1) rfl
      have c2 := HU.out.1.cell (i := 2) rfl
      have c3 := HU.out.1.cell (i := 3) rfl
      have c4 := HU.out.1.cell (i := 4) rfl
      have c5 := HU.out.1.cell (i := 5) rfl
      exact bodyPost_ret (v := .agg #[.int .i64 sk, sV sn, .int .i64 si, sV sv, .int .i64 j, .bool true]) (by simp [results, Tryz.results66, go_sem, c0, c1, c2, c3, c4, c5]) rfl (QBr.mkNo ⟨sk, sn, si, sv⟩ j HU.out.2 HQ.out)
    | some p =>
      obtain ⟨⟨sk, sn, si, sv⟩, q⟩ := p
      obtain ⟨j, rfl, hjl, hjd⟩ := hres.ok _ q hq
      have HB := Lib.hid (And.intro (below_all HO.out.1 hres.below) (HO.out.2.all hres.below))
      have HQ := Lib.hid (And.intro (HF.out.trans hq) (And.intro hjl hjd))
      clear hres hq hm hjl hjd
      have oFin := HB.out.2
      have q0 := oFin.cell (i := 0) rfl
      have q1 := oFin.cell (i := 1) rfl
      have q2 := oFin.cell (i := 2) rfl
      have q3 := oFin.cell (i := 3) rfl
      have q4 := oFin.cell (i := 4) rfl
      have q5 := oFin.cell (i := 5) rfl
      have g0 := oFin.frozen 0
      have g1 := oFin.frozen 1
      have g2 := oFin.frozen 2
      have g3 := oFin.frozen 3
      have g4 := oFin.frozen 4
      have g5 := oFin.frozen 5
      have HU := Lib.hid (And.intro (own_put6 oFin (.int .i64 sk) (sV sn) (.int .i64 si) (sV sv) (.int .i64 ((j : Nat) : Int)) (.bool false)) (below_put6 HB.out.1 (Nat.le_refl _) (.int .i64 sk) (sV sn) (.int .i64 si) (sV sv) (.int .i64 ((j : Nat) : Int)) (.bool false)))
      clear oFin
      go_wp2
      clear q0 q1 q2 q3 q4 q5 g0 g1 g2 g3 g4 g5
      change bodyPost Tryz.prog Tryz.f66 _ _ _ (put6 w1 (w.heap.size) (.int .i64 sk) (sV sn) (.int .i64 si) (sV sv) (.int .i64 ((j : Nat) : Int)) (.bool false))
      generalize put6 w1 (w.heap.size) (.int .i64 sk) (sV sn) (.int .i64 si) (sV sv) (.int .i64 ((j : Nat) : Int)) (.bool false) = U at *
      have c0 := HU.out.1.cell (i := 0) rfl
      have c1 := HU.out.1.cell (i := 1) rfl
      have c2 := HU.out.1.cell (i := 2) rfl
      have c3 := HU.out.1.cell (i := 3) rfl
      have c4 := HU.out.1.cell (i := 4) rfl
      have c5 := HU.out.1.cell (i := 5) rfl
      exact bodyPost_ret (v := .agg #[.int .i64 sk, sV sn, .int .i64 si, sV sv, .int .i64 ((j : Nat) : Int), .bool false]) (by simp [results, Tryz.results66, go_sem, c0, c1, c2, c3, c4, c5]) rfl (QBr.mkOk (st := ⟨sk, sn, si, sv⟩) HU.out.2 HQ.out.1 HQ.out.2.1 HQ.out.2.2)
  have hST : stpP (decide (i = 0)) (c0 :: r) = if decide (i = 0) then fldP (c0 :: r) else match cutP [46] (c0 :: r) with
      | some q => fldP q
      | none => none := by unfold stpP; rw [cut1_no (a := 91) h91]; rfl
  by_cases hi0 : i = 0
  · have hF : stpP (decide (i = 0)) (c0 :: r) = fldP (c0 :: r) := by rw [hST, decide_eq_true hi0]; rfl
    have hdd : s.drop i = c0 :: r := hd
    have hij : i ≤ s.length := by omega
    generalize hcm : c0.toNat = m at *
    have HH := Lib.hid hF
    clear hF hST hd hd1 hlen1
    generalize c0 :: r = rr at *
    clear hcm
    subst hi0
    have C0 := pname_any hl (i := 0) (r := rr) hij hdd V
    rw [Nat.zero_add] at C0
    have C : Hid (Calls Tryz.prog 111 #[sV s, .int .i64 0] V fun e w' => e = .returned (.int .i64 ((nlen rr : Nat) : Int)) ∧ V = w') := Lib.hid C0
    clear C0
    have hnl := nlen_le rr
    have hdn : s.drop (nlen rr) = rr.drop (nlen rr) := by rw [← hdd, List.drop_zero]
    rw [drop_nlen] at hdn
    have hle := dropL hdd hij
    have hx : (⟨s.toArray⟩ : ByteArray).extract (0) (nlen rr) = ⟨(rr.takeWhile nmByte).toArray⟩ := by
      rw [ext_pre, show s = rr by simpa using hdd, take_nlen]
    have hFL : fldP rr = if rr.takeWhile nmByte = [] then none else some (⟨1, rr.takeWhile nmByte, 0, []⟩, rr.dropWhile nmByte) := rfl
    have hwl : (rr.takeWhile nmByte).length = nlen rr := rfl
    have hFF := HH.out.trans hFL
    generalize rr.takeWhile nmByte = wd at *
    generalize rr.dropWhile nmByte = rest at *
    generalize nlen rr = n at *
    have hn2 : n ≤ s.length := by omega
    have HFF := Lib.hid (And.intro hFF (And.intro hwl hdn))
    clear hFF hwl hdn hFL
    go_wp2_with fail
    refine C.out.mono ?_
    rintro e w' ⟨rfl, rfl⟩
    clear C
    by_cases hn0 : n = 0
    · subst hn0
      have hwd : wd = [] := List.eq_nil_of_length_eq_zero HFF.out.2.1
      have HF := Lib.hid (HFF.out.1.trans (if_pos hwd))
      subst hwd
      have oFin := HO.out.2
      have q0 := oFin.cell (i := 0) rfl
      have q1 := oFin.cell (i := 1) rfl
      have q2 := oFin.cell (i := 2) rfl
      have q3 := oFin.cell (i := 3) rfl
      have q4 := oFin.cell (i := 4) rfl
      have q5 := oFin.cell (i := 5) rfl
      have g0 := oFin.frozen 0
      have g1 := oFin.frozen 1
      have g2 := oFin.frozen 2
      have g3 := oFin.frozen 3
      have g4 := oFin.frozen 4
      have g5 := oFin.frozen 5
      have HU := Lib.hid (And.intro (own_put6 oFin (.int .i64 1) (sV []) (.int .i64 0) (.string ⟨#[]⟩) (.int .i64 0) (.bool true)) (below_put6 HO.out.1 (Nat.le_refl _) (.int .i64 1) (sV []) (.int .i64 0) (.string ⟨#[]⟩) (.int .i64 0) (.bool true)))
      clear oFin
      go_wp2
      clear q0 q1 q2 q3 q4 q5 g0 g1 g2 g3 g4 g5
      change bodyPost Tryz.prog Tryz.f66 _ _ _ (put6 V (w.heap.size) (.int .i64 1) (sV []) (.int .i64 0) (.string ⟨#[]⟩) (.int .i64 0) (.bool true))
      generalize put6 V (w.heap.size) (.int .i64 1) (sV []) (.int .i64 0) (.string ⟨#[]⟩) (.int .i64 0) (.bool true) = U at *
      have c0 := HU.out.1.cell (i := 0) rfl
      have c1 := HU.out.1.cell (i := 1) rfl
      have c2 := HU.out.1.cell (i := 2) rfl
      have c3 := HU.out.1.cell (i := 3) rfl
      have c4 := HU.out.1.cell (i := 4) rfl
      have c5 := HU.out.1.cell (i := 5) rfl
      exact bodyPost_ret (v := .agg #[.int .i64 1, sV [], .int .i64 0, .string ⟨#[]⟩, .int .i64 0, .bool true]) (by simp [results, Tryz.results66, go_sem, c0, c1, c2, c3, c4, c5]) rfl (QBr.mkNo ⟨1, [], 0, []⟩ (0) HU.out.2 HF.out)
    · have hwd : ¬ wd = [] := fun e => hn0 (by have := HFF.out.2.1; rw [e] at this; exact this.symm)
      have HF := Lib.hid (HFF.out.1.trans (if_neg hwd))
      have hne2 : (((n : Nat) : Int) == 0) = false := by rw [beq_eq_false_iff_ne]; omega
      have oFin := HO.out.2
      have q0 := oFin.cell (i := 0) rfl
      have q1 := oFin.cell (i := 1) rfl
      have q2 := oFin.cell (i := 2) rfl
      have q3 := oFin.cell (i := 3) rfl
      have q4 := oFin.cell (i := 4) rfl
      have q5 := oFin.cell (i := 5) rfl
      have g0 := oFin.frozen 0
      have g1 := oFin.frozen 1
      have g2 := oFin.frozen 2
      have g3 := oFin.frozen 3
      have g4 := oFin.frozen 4
      have g5 := oFin.frozen 5
      have HU := Lib.hid (And.intro (own_put6 oFin (.int .i64 1) (sV wd) (.int .i64 0) (.string ⟨#[]⟩) (.int .i64 ((n : Nat) : Int)) (.bool false)) (below_put6 HO.out.1 (Nat.le_refl _) (.int .i64 1) (sV wd) (.int .i64 0) (.string ⟨#[]⟩) (.int .i64 ((n : Nat) : Int)) (.bool false)))
      clear oFin
      go_wp2
      clear q0 q1 q2 q3 q4 q5 g0 g1 g2 g3 g4 g5
      change bodyPost Tryz.prog Tryz.f66 _ _ _ (put6 V (w.heap.size) (.int .i64 1) (sV wd) (.int .i64 0) (.string ⟨#[]⟩) (.int .i64 ((n : Nat) : Int)) (.bool false))
      generalize put6 V (w.heap.size) (.int .i64 1) (sV wd) (.int .i64 0) (.string ⟨#[]⟩) (.int .i64 ((n : Nat) : Int)) (.bool false) = U at *
      have c0 := HU.out.1.cell (i := 0) rfl
      have c1 := HU.out.1.cell (i := 1) rfl
      have c2 := HU.out.1.cell (i := 2) rfl
      have c3 := HU.out.1.cell (i := 3) rfl
      have c4 := HU.out.1.cell (i := 4) rfl
      have c5 := HU.out.1.cell (i := 5) rfl
      exact bodyPost_ret (v := .agg #[.int .i64 1, sV wd, .int .i64 0, .string ⟨#[]⟩, .int .i64 ((n : Nat) : Int), .bool false]) (by simp [results, Tryz.results66, go_sem, c0, c1, c2, c3, c4, c5]) rfl (QBr.mkOk (st := ⟨1, wd, 0, []⟩) HU.out.2 HF.out hn2 HFF.out.2.2)
  · have hi1 : 0 < i := by omega
    by_cases h46 : c0.toNat = 46
    case neg =>
      have HF : Hid (stpP (decide (i = 0)) (c0 :: r) = none) := Lib.hid (by rw [hST, decide_eq_false hi0, cut1_no (a := 46) h46]; rfl)
      generalize hcm : c0.toNat = m at *
      have b1 : ((m : Int) != 46) = true := by rw [bne_iff_ne]; omega
      clear hST hd hd1 hlen1 hcm
      have oFin := HO.out.2
      have q0 := oFin.cell (i := 0) rfl
      have q1 := oFin.cell (i := 1) rfl
      have q2 := oFin.cell (i := 2) rfl
      have q3 := oFin.cell (i := 3) rfl
      have q4 := oFin.cell (i := 4) rfl
      have q5 := oFin.cell (i := 5) rfl
      have g0 := oFin.frozen 0
      have g1 := oFin.frozen 1
      have g2 := oFin.frozen 2
      have g3 := oFin.frozen 3
      have g4 := oFin.frozen 4
      have g5 := oFin.frozen 5
      have HU := Lib.hid (And.intro (own_put6 oFin (.int .i64 0) (.string ⟨#[]⟩) (.int .i64 0) (.string ⟨#[]⟩) (.int .i64 0) (.bool true)) (below_put6 HO.out.1 (Nat.le_refl _) (.int .i64 0) (.string ⟨#[]⟩) (.int .i64 0) (.string ⟨#[]⟩) (.int .i64 0) (.bool true)))
      clear oFin
      go_wp2
      clear q0 q1 q2 q3 q4 q5 g0 g1 g2 g3 g4 g5
      change bodyPost Tryz.prog Tryz.f66 _ _ _ (put6 V (w.heap.size) (.int .i64 0) (.string ⟨#[]⟩) (.int .i64 0) (.string ⟨#[]⟩) (.int .i64 0) (.bool true))
      generalize put6 V (w.heap.size) (.int .i64 0) (.string ⟨#[]⟩) (.int .i64 0) (.string ⟨#[]⟩) (.int .i64 0) (.bool true) = U at *
      have c0 := HU.out.1.cell (i := 0) rfl
      have c1 := HU.out.1.cell (i := 1) rfl
      have c2 := HU.out.1.cell (i := 2) rfl
      have c3 := HU.out.1.cell (i := 3) rfl
      have c4 := HU.out.1.cell (i := 4) rfl
      have c5 := HU.out.1.cell (i := 5) rfl
      exact bodyPost_ret (v := .agg #[.int .i64 0, .string ⟨#[]⟩, .int .i64 0, .string ⟨#[]⟩, .int .i64 0, .bool true]) (by simp [results, Tryz.results66, go_sem, c0, c1, c2, c3, c4, c5]) rfl (QBr.mkNo ⟨0, [], 0, []⟩ 0 HU.out.2 HF.out)
    have hF : stpP (decide (i = 0)) (c0 :: r) = fldP r := by rw [hST, decide_eq_false hi0, cut1_yes (a := 46) h46, cutP]; rfl
    rw [h46] at hm
    have hij : i + 1 ≤ s.length := hlt0
    have HH := Lib.hid hF
    clear hF hST hd hlen1 h91 h46
    have C := Lib.hid (pname_any hl (i := i + 1) (r := r) hij hd1 V)
    have hnl := nlen_le r
    have hdn := dropA (nlen r) hd1
    rw [drop_nlen] at hdn
    have hle := dropL hd1 hij
    have hx : (⟨s.toArray⟩ : ByteArray).extract (i + 1) (i + 1 + nlen r) = ⟨(r.takeWhile nmByte).toArray⟩ := by
      rw [ext_mid (i + 1) (nlen r), hd1, take_nlen]
    have hFL : fldP r = if r.takeWhile nmByte = [] then none else some (⟨1, r.takeWhile nmByte, 0, []⟩, r.dropWhile nmByte) := rfl
    have hwl : (r.takeWhile nmByte).length = nlen r := rfl
    have hFF := HH.out.trans hFL
    generalize r.takeWhile nmByte = wd at *
    generalize r.dropWhile nmByte = rest at *
    generalize nlen r = n at *
    have hn2 : i + 1 + n ≤ s.length := by omega
    have HFF := Lib.hid (And.intro hFF (And.intro hwl hdn))
    clear hFF hwl hdn hFL
    go_wp2_with fail
    refine C.out.mono ?_
    rintro e w' ⟨rfl, rfl⟩
    clear C
    by_cases hn0 : n = 0
    · subst hn0
      have hwd : wd = [] := List.eq_nil_of_length_eq_zero HFF.out.2.1
      have HF := Lib.hid (HFF.out.1.trans (if_pos hwd))
      subst hwd
      have oFin := HO.out.2
      have q0 := oFin.cell (i := 0) rfl
      have q1 := oFin.cell (i := 1) rfl
      have q2 := oFin.cell (i := 2) rfl
      have q3 := oFin.cell (i := 3) rfl
      have q4 := oFin.cell (i := 4) rfl
      have q5 := oFin.cell (i := 5) rfl
      have g0 := oFin.frozen 0
      have g1 := oFin.frozen 1
      have g2 := oFin.frozen 2
      have g3 := oFin.frozen 3
      have g4 := oFin.frozen 4
      have g5 := oFin.frozen 5
      have HU := Lib.hid (And.intro (own_put6 oFin (.int .i64 1) (sV []) (.int .i64 0) (.string ⟨#[]⟩) (.int .i64 ((i + 1 + 0 : Nat) : Int)) (.bool true)) (below_put6 HO.out.1 (Nat.le_refl _) (.int .i64 1) (sV []) (.int .i64 0) (.string ⟨#[]⟩) (.int .i64 ((i + 1 + 0 : Nat) : Int)) (.bool true)))
      clear oFin
      go_wp2
      clear q0 q1 q2 q3 q4 q5 g0 g1 g2 g3 g4 g5
      change bodyPost Tryz.prog Tryz.f66 _ _ _ (put6 V (w.heap.size) (.int .i64 1) (sV []) (.int .i64 0) (.string ⟨#[]⟩) (.int .i64 ((i + 1 + 0 : Nat) : Int)) (.bool true))
      generalize put6 V (w.heap.size) (.int .i64 1) (sV []) (.int .i64 0) (.string ⟨#[]⟩) (.int .i64 ((i + 1 + 0 : Nat) : Int)) (.bool true) = U at *
      have c0 := HU.out.1.cell (i := 0) rfl
      have c1 := HU.out.1.cell (i := 1) rfl
      have c2 := HU.out.1.cell (i := 2) rfl
      have c3 := HU.out.1.cell (i := 3) rfl
      have c4 := HU.out.1.cell (i := 4) rfl
      have c5 := HU.out.1.cell (i := 5) rfl
      exact bodyPost_ret (v := .agg #[.int .i64 1, sV [], .int .i64 0, .string ⟨#[]⟩, .int .i64 ((i + 1 + 0 : Nat) : Int), .bool true]) (by simp [results, Tryz.results66, go_sem, c0, c1, c2, c3, c4, c5]) rfl (QBr.mkNo ⟨1, [], 0, []⟩ (((i + 1 + 0 : Nat) : Int)) HU.out.2 HF.out)
    · have hwd : ¬ wd = [] := fun e => hn0 (by have := HFF.out.2.1; rw [e] at this; exact this.symm)
      have HF := Lib.hid (HFF.out.1.trans (if_neg hwd))
      have hne2 : (((i : Int) + 1 + (n : Int)) == ((i : Int) + 1)) = false := by rw [beq_eq_false_iff_ne]; omega
      have oFin := HO.out.2
      have q0 := oFin.cell (i := 0) rfl
      have q1 := oFin.cell (i := 1) rfl
      have q2 := oFin.cell (i := 2) rfl
      have q3 := oFin.cell (i := 3) rfl
      have q4 := oFin.cell (i := 4) rfl
      have q5 := oFin.cell (i := 5) rfl
      have g0 := oFin.frozen 0
      have g1 := oFin.frozen 1
      have g2 := oFin.frozen 2
      have g3 := oFin.frozen 3
      have g4 := oFin.frozen 4
      have g5 := oFin.frozen 5
      have HU := Lib.hid (And.intro (own_put6 oFin (.int .i64 1) (sV wd) (.int .i64 0) (.string ⟨#[]⟩) (.int .i64 ((i + 1 + n : Nat) : Int)) (.bool false)) (below_put6 HO.out.1 (Nat.le_refl _) (.int .i64 1) (sV wd) (.int .i64 0) (.string ⟨#[]⟩) (.int .i64 ((i + 1 + n : Nat) : Int)) (.bool false)))
      clear oFin
      go_wp2
      clear q0 q1 q2 q3 q4 q5 g0 g1 g2 g3 g4 g5
      change bodyPost Tryz.prog Tryz.f66 _ _ _ (put6 V (w.heap.size) (.int .i64 1) (sV wd) (.int .i64 0) (.string ⟨#[]⟩) (.int .i64 ((i + 1 + n : Nat) : Int)) (.bool false))
      generalize put6 V (w.heap.size) (.int .i64 1) (sV wd) (.int .i64 0) (.string ⟨#[]⟩) (.int .i64 ((i + 1 + n : Nat) : Int)) (.bool false) = U at *
      have c0 := HU.out.1.cell (i := 0) rfl
      have c1 := HU.out.1.cell (i := 1) rfl
      have c2 := HU.out.1.cell (i := 2) rfl
      have c3 := HU.out.1.cell (i := 3) rfl
      have c4 := HU.out.1.cell (i := 4) rfl
      have c5 := HU.out.1.cell (i := 5) rfl
      exact bodyPost_ret (v := .agg #[.int .i64 1, sV wd, .int .i64 0, .string ⟨#[]⟩, .int .i64 ((i + 1 + n : Nat) : Int), .bool false]) (by simp [results, Tryz.results66, go_sem, c0, c1, c2, c3, c4, c5]) rfl (QBr.mkOk (st := ⟨1, wd, 0, []⟩) HU.out.2 HF.out hn2 HFF.out.2.2)
end Go.Proofs.YtjpmnlefjmdelaaGreatDoor
namespace Go.Proofs.YtjpmnlefjmdelaaGreatDoor
open Go.RowKit Go.Sort Go.Proofs.LawFrame

theorem keyP_small {n r : Str} {s : S} {q : Str} (h : keyP n r = some (s, q)) : s.nm = n ∧ s.vl.length ≤ r.length := by
  unfold keyP at h
  split at h
  · cases h
  · rename_i q1 h1
    split at h
    · cases h
    · rename_i v q2 h2
      split at h
      · cases h
      · rename_i q3 h3
        simp at h; obtain ⟨rfl, -⟩ := h
        have a := cutP_len h1; have b := quoP_len _ _ (Nat.le_refl _) _ _ h2
        exact ⟨rfl, by simp at a ⊢; omega⟩
theorem brkP_small {r : Str} {s : S} {q : Str} (h : brkP r = some (s, q)) : s.nm.length ≤ r.length ∧ s.vl.length ≤ r.length := by
  unfold brkP brkN at h
  have hd := dw_len r
  split at h
  · split at h
    · simp at h; obtain ⟨rfl, -⟩ := h; simp
    · cases h
  · split at h
    · cases h
    · have := keyP_small h; rw [this.1]; omega
theorem fldP_small {r : Str} {s : S} {q : Str} (h : fldP r = some (s, q)) : s.nm.length ≤ r.length ∧ s.vl.length ≤ r.length := by
  unfold fldP at h
  have hd := dw_len r
  split at h
  · cases h
  · simp at h; obtain ⟨rfl, -⟩ := h; simp; omega
theorem stpP_small {first : Bool} {r : Str} {s : S} {q : Str} (h : stpP first r = some (s, q)) : s.nm.length ≤ r.length ∧ s.vl.length ≤ r.length := by
  unfold stpP at h
  split at h
  · rename_i q1 h1
    have := brkP_small h; have := cutP_len h1; omega
  · split at h
    · exact fldP_small h
    · split at h
      · rename_i q1 h1
        have := fldP_small h; have := cutP_len h1; omega
      · cases h

set_option maxHeartbeats 8000000 in
set_option maxRecDepth 4000 in
theorem pparse_any (s : Str) (w : World) (hs : s.length ≤ 1000000) : Calls Tryz.prog 29 #[sV s] w (QPa w s) := by
  obtain ⟨i52, hi52, hz52, hs52, hy52⟩ := info_parts info52
  by_cases hbig : 20000 < s.length
  · have HF : Hid (resP s = ([], 4)) := Lib.hid (by unfold resP; rw [if_pos hbig])
    go_enter Tryz.func29, Tryz.ntmps29
    go_wp2
    exact bodyPost_ret (v := .tuple #[.slice none 0 0, .int .i64 4]) (by simp [results, Tryz.results29, go_sem]) rfl ⟨Below.refl _ _, _, by rw [HF.out], by rw [HF.out]; exact Flat.nil _ _ _ (Nat.zero_le _) _⟩
  have HF0 : Hid (resP s = match pathP (s.length + 1) true s with
    | none => ([], 2)
    | some l => if pathOk l then (l, 0) else ([], 1)) := Lib.hid (by unfold resP; rw [if_neg hbig]; rfl)
  go_enter Tryz.func29, Tryz.ntmps29
  go_wp2
  go_loopg [4, 5] s.length (fun g v iv wr => ∃ (acc : List S) (j : Nat) (rr : Str), g = rr.length ∧ iv = .int .i64 j ∧ j ≤ s.length ∧ s.drop j = rr ∧ acc.length + rr.length ≤ s.length ∧ Below w.heap.size w wr ∧ wr.ownsRow w.heap.size 52 4 v acc.length (acc.flatMap S.cells) ∧ Hid (PaI s acc rr ∧ decide (j = 0) = acc.isEmpty ∧ ∀ x ∈ acc, x.nm.length ≤ s.length ∧ x.vl.length ≤ s.length))
  case atStart => exact ⟨[], 0, s, rfl, by go_num, Nat.zero_le _, rfl, by simp, Below.refl _ _, own_nil _ _ _ _, Lib.hid ⟨PaI.start s, rfl, fun x hx => by cases hx⟩⟩
  case round =>
    obtain ⟨acc, j, rr, hg, rfl, hj, hd, hal, hb, hown, HE⟩ := hrel
    have HG := Lib.hid hg
    clear hg
    have hst := Flat.of_own hown
    obtain ⟨ao, cap, hu, -, -, -⟩ := hst.out
    subst hu
    have HAL := Lib.hid hal
    have hacc : acc.length ≤ 20000 := by omega
    clear hal
    have hbsz := hb.size
    cases rr with
    | nil =>
      obtain rfl := dropE hd hj
      have HP : Hid (resP s = if pathOk acc then (acc, 0) else ([], 1)) := Lib.hid (by rw [HF0.out, HE.out.1.fin])
      have CV := Lib.hid (rvPath_any _ acc wr hst (by omega) (fun x hx => by have := HE.out.2.2 x hx; omega))
      have HS := Lib.hid (And.intro hb hst)
      clear hown hb hst hd
      go_wp2_with fail
      refine CV.out.mono ?_
      rintro e w2 ⟨rfl, hb2⟩
      have HB2 := Lib.hid (And.intro (below_all HS.out.1 hb2) (Flat.all HS.out.2 hb2))
      clear CV hb2 HS
      cases hv : pathOk acc
      · have HF2 : Hid (resP s = ([], 1)) := Lib.hid (by rw [HP.out, hv]; rfl)
        go_wp2
        exact bodyPost_ret (v := .tuple #[.slice none 0 0, .int .i64 1]) (by simp [results, Tryz.results29, go_sem]) rfl ⟨HB2.out.1, _, by rw [HF2.out], by rw [HF2.out]; exact Flat.nil _ _ _ (Nat.zero_le _) _⟩
      · have HF2 : Hid (resP s = (acc, 0)) := Lib.hid (by rw [HP.out, hv]; rfl)
        go_wp2
        exact bodyPost_ret (v := .tuple #[.slice ao acc.length cap, .int .i64 0]) (by simp [results, Tryz.results29, go_sem]) rfl ⟨HB2.out.1, _, by rw [HF2.out], by rw [HF2.out]; exact HB2.out.2⟩
    | cons c r2 =>
      have hlt := (dropB hd).1
      clear hst
      have C := Lib.hid (pstep_any hs hd wr)
      generalize hN : acc.length = N at *
      have HN := Lib.hid hN
      clear hN
      have HS0 := Lib.hid (And.intro hb (And.intro hown hd))
      clear hb hown hd
      go_wp2_with fail
      refine C.out.mono ?_
      rintro e w1 hres
      clear C
      have hlow := below_all HS0.out.1 hres.below
      have hown1 := own_below HS0.out.2.1 hres.below
      cases hq : stpP (decide (j = 0)) (c :: r2) with
      | none =>
        obtain ⟨⟨sk, sn, si, sv⟩, r', rfl⟩ := hres.no hq
        have HF : Hid (resP s = ([], 2)) := Lib.hid (by rw [HF0.out, HE.out.1.bad (by rw [← HE.out.2.1]; exact hq)])
        have hbA := below_alloc w1 (.cells #[.int .i64 sk, sV sn, .int .i64 si, sV sv, .int .i64 r', .bool true] 86)
        have oN := Own.new w1 [.int .i64 sk, sV sn, .int .i64 si, sV sv, .int .i64 r', .bool true] 86
        have HB := Lib.hid (below_all hlow hbA)
        clear hres hlow hown1 hq HS0 hbA
        go_upto_region 7 with (fail)
        change Code.wp Tryz.prog _ _ _ (w1.alloc (.cells #[.int .i64 sk, sV sn, .int .i64 si, sV sv, .int .i64 r', .bool true] 86))
        generalize w1.alloc (.cells #[.int .i64 sk, sV sn, .int .i64 si, sV sv, .int .i64 r', .bool true] 86) = V at *
        have a5 := oN.cell (i := 5) rfl
        clear oN
        go_wp2
        exact bodyPost_ret (v := .tuple #[.slice none 0 0, .int .i64 2]) (by simp [results, Tryz.results29, go_sem]) rfl ⟨HB.out, _, by rw [HF.out], by rw [HF.out]; exact Flat.nil _ _ _ (Nat.zero_le _) _⟩
      | some p =>
        obtain ⟨⟨sk, sn, si, sv⟩, q⟩ := p
        obtain ⟨jn, rfl, hjn, hdn⟩ := hres.ok _ q hq
        have hql := stpP_len hq
        have hqs := stpP_small hq
        have hjpos : 0 < jn := by have h1 := dropL HS0.out.2.2 hj; have h2 := dropL hdn hjn; omega
        have HI : Hid (PaI s (acc ++ [⟨sk, sn, si, sv⟩]) q ∧ decide (jn = 0) = (acc ++ [(⟨sk, sn, si, sv⟩ : S)]).isEmpty ∧ ∀ x ∈ acc ++ [(⟨sk, sn, si, sv⟩ : S)], x.nm.length ≤ s.length ∧ x.vl.length ≤ s.length) :=
          Lib.hid ⟨HE.out.1.step (by rw [← HE.out.2.1]; exact hq), by rw [decide_eq_false (by omega)]; cases acc <;> rfl, fun x hx => by
            rcases List.mem_append.1 hx with h | h
            · exact HE.out.2.2 x h
            · simp at h; subst h; have := dropL HS0.out.2.2 hj; simp only at hqs ⊢; omega⟩
        have HQ := Lib.hid (And.intro hql (And.intro hjn hdn))
        have hbA := below_alloc w1 (.cells #[.int .i64 sk, sV sn, .int .i64 si, sV sv, .int .i64 jn, .bool false] 86)
        have oN := Own.new w1 [.int .i64 sk, sV sn, .int .i64 si, sV sv, .int .i64 jn, .bool false] 86
        have hownA := hown1.alloc (.cells #[.int .i64 sk, sV sn, .int .i64 si, sV sv, .int .i64 jn, .bool false] 86)
        have hlowA := below_all hlow hbA
        have hsz1 := hlow.size
        have hne : ∀ k, (Value.slice ao N cap).ownBlock = some k → k < w1.heap.size := fun k hk => (hown1.lt k hk).2
        clear hres hlow hown1 hq HS0 hql hqs hdn hbA HE
        go_upto_region 7 with (fail)
        change Code.wp Tryz.prog _ _ _ (w1.alloc (.cells #[.int .i64 sk, sV sn, .int .i64 si, sV sv, .int .i64 jn, .bool false] 86))
        have hV : (w1.alloc (.cells #[.int .i64 sk, sV sn, .int .i64 si, sV sv, .int .i64 jn, .bool false] 86)).heap.size = w1.heap.size + 1 := size_alloc _ _
        generalize w1.alloc (.cells #[.int .i64 sk, sV sn, .int .i64 si, sV sv, .int .i64 jn, .bool false] 86) = V at *
        generalize w1.heap.size = xb at *
        have a0 := oN.cell (i := 0) rfl
        have a1 := oN.cell (i := 1) rfl
        have a2 := oN.cell (i := 2) rfl
        have a3 := oN.cell (i := 3) rfl
        have a5 := oN.cell (i := 5) rfl
        have HS2 := Lib.hid (And.intro hlowA (And.intro hownA (And.intro oN hV)))
        have hVb := hlowA.size
        clear hlowA oN hV
        go_upto_region 10 with (first | (at_builtin; refine wpList_append_own _ rfl (.tmp 19) (.tmp 22) 36 rfl w.heap.size 52 i52 (.agg #[.int .i64 0, .string ⟨#[]⟩, .int .i64 0, .string ⟨#[]⟩]) 4 48 Tryz.underlying36 hi52 hz52 hs52 hy52 rfl (by decide) _ _ _ rfl (hownA.alloc _) ⟨V.heap.size, 0, none⟩ 1 1 (S.cells ⟨sk, sn, si, sv⟩) rfl rfl (own_src (Own.new _ _ _)) (four_one ⟨sk, sn, si, sv⟩) (by unfold maxLen; omega) (by omega) (by simp; omega) ?_; intro v9 w9 hown9 hgrow9 hnil9))
        have hb9 := below_row (HS2.out.1.alloc HS2.out.1.size (.cells #[.int .i64 sk, sV sn, .int .i64 si, sV sv] 52)) hgrow9 (fun k hk => own_row hownA k hk)
        have o9 := own_kept' (HS2.out.2.2.1.alloc (.cells #[.int .i64 sk, sV sn, .int .i64 si, sV sv] 52)) hgrow9 (fun e => by have := hne _ e; omega)
        have b4 := o9.cell (i := 4) rfl
        have HF := Lib.hid (And.intro hb9 hown9)
        clear a0 a1 a2 a3 a5 o9 hb9 hown9 hgrow9 hnil9 hownA
        go_wp2
        go_roundg q.length
        case measure => have := HG.out; have := HQ.out.1; simp at *; omega
        case rel => exact ⟨acc ++ [⟨sk, sn, si, sv⟩], jn, q, rfl, by go_num, HQ.out.2.1, HQ.out.2.2, by have := HN.out; have := HAL.out; have := HQ.out.1; simp at *; omega, HF.out.1, by rw [flatMap_snocS, List.length_append, HN.out]; exact HF.out.2, HI⟩
end Go.Proofs.YtjpmnlefjmdelaaGreatDoor
