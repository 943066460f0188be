/- The walks of the laws on the round trip, on the canonical text and on the sign. -/
import Derived.Test.YtklpnkdfbfdbnaaDoorWf
import Derived.Test.YtklpnkdfbfdbnaaDoorMe
namespace Go.Proofs.YtklpnkdfbfdbnaaDoor
open Go.RowKit

theorem printQ_len {N : Int} (h0 : -1000000000000000 ≤ N) (h1 : N ≤ 1000000000000000) : (printQ N).length ≤ 100 := by
  have itl : ∀ v : Int, -1000000000000000 ≤ v → v ≤ 1000000000000000 → (Lib.itoa v).length ≤ 21 := fun v a b => Lib.itoa_length_le v (by omega) (by omega)
  obtain ⟨q0, q1⟩ := tdiv_bd (c := 1000) (by decide) h0 h1
  obtain ⟨a0, a1⟩ := tdiv_bd (c := 1000000000) (by decide) q0 q1
  obtain ⟨b0, b1⟩ := tdiv_bd (c := 1000000) (by decide) q0 q1
  obtain ⟨c0, c1⟩ := tdiv_bd (c := 1000) (by decide) q0 q1
  have := itl N h0 h1
  have := itl _ q0 q1
  have := itl _ a0 a1
  have := itl _ b0 b1
  have := itl _ c0 c1
  unfold printQ printU
  repeat' split
  all_goals first | omega | (simp only [List.length_append, List.length_cons, List.length_nil]; omega)

theorem clampI_id {n lo hi : Int} (h0 : lo ≤ n) (h1 : n ≤ hi) : clampI n lo hi = n := by unfold clampI; omega

set_option maxHeartbeats 1000000 in
theorem roundTrip_walk (n : Int) (w : World) (ht : Tab w) : Calls Tryd.prog 5 #[.int .i64 n] w fun e w' => e = .returned (.bool true) ∧ Below w.heap.size w w' := by
  have hN0 : -1000000000000000 ≤ clampI n (-1000000000000000) 1000000000000000 := clampI_lo
  have hN1 : clampI n (-1000000000000000) 1000000000000000 ≤ 1000000000000000 := clampI_hi (by decide)
  have cP : ∀ w, Tab w → Calls Tryd.prog 13 #[.int .i64 n] w fun e w' => e = .returned (.string ⟨(printQ (clampI n (-1000000000000000) 1000000000000000)).toArray⟩) ∧ Below w.heap.size w w' := fun w ht => print_any n w ht
  have cC : ∀ w, Calls Tryd.prog 15 #[.int .i64 n, .int .i64 (-1000000000000000), .int .i64 1000000000000000] w fun e w' => e = .returned (.int .i64 (clampI n (-1000000000000000) 1000000000000000)) ∧ w = w' := fun w => rclamp_any n _ _ (by decide) w
  generalize clampI n (-1000000000000000) 1000000000000000 = N at *
  have hlen := printQ_len hN0 hN1
  have hpp := parse_print hN0 hN1
  have cR : ∀ w, Calls Tryd.prog 11 #[.string ⟨(printQ N).toArray⟩] w fun e w' => e = .returned (.tuple #[.int .i64 N, .int .i64 0]) ∧ ∃ n, w' = w.drewN n :=
    fun w => calls_eq (congrArg Prod.fst hpp) (congrArg Prod.snd hpp) (parse_any (printQ N) w (by omega))
  have CP := Lib.hid cP
  have CC := Lib.hid cC
  have CR := Lib.hid cR
  clear cP cC cR hpp
  go_enter Tryd.func5, Tryd.ntmps5
  go_wp2_with fail
  refine (CC.out _).mono ?_
  rintro e w' ⟨rfl, rfl⟩
  go_wp2_with fail
  refine (CP.out _ ht).mono ?_
  rintro e w1 ⟨rfl, b1⟩
  go_wp2_with fail
  refine (CR.out _).mono ?_
  rintro e w2 ⟨rfl, n2, rfl⟩
  go_wp2_with fail
  refine (awake_any _ ((ht.below b1).drewN _)).mono ?_
  rintro e w3 ⟨rfl, b3⟩
  go_wp2_with fail
  go_ret
  exact ⟨rfl, next (next b1 (below_drewN _ _)) b3⟩

theorem negate_parse {l : List UInt8} (h : Lib.hasPrefix l [45] = false) : parseQ (45 :: l) = (-(parseQ l).1, (parseQ l).2) := by
  rw [parseQ_minus, parseQ_plain h]

set_option maxHeartbeats 1000000 in
/-- the law's short way: a text that it does not take -/
theorem negates_long (l : List UInt8) (w : World) (ht : Tab w) (hl : l.length ≤ 9223372036854775807) (h : 100 < l.length) : Calls Tryd.prog 7 #[.string ⟨l.toArray⟩] w fun e w' => e = .returned (.bool true) ∧ Below w.heap.size w w' := by
  go_enter Tryd.func7, Tryd.ntmps7
  go_wp2_with fail
  refine (awake_any _ ht).mono ?_
  rintro e w3 ⟨rfl, b3⟩
  go_wp2_with fail
  go_ret
  exact ⟨rfl, b3⟩
set_option maxHeartbeats 1000000 in
theorem negates_minus (l : List UInt8) (w : World) (ht : Tab w) (hl : ¬ 100 < l.length) (hp : 0 < l.length) (h : (((⟨l.toArray⟩ : ByteArray)[0]'hp |>.toNat : Int) == 45) = true) : Calls Tryd.prog 7 #[.string ⟨l.toArray⟩] w fun e w' => e = .returned (.bool true) ∧ Below w.heap.size w w' := by
  go_enter Tryd.func7, Tryd.ntmps7
  go_wp2_with fail
  refine (awake_any _ ht).mono ?_
  rintro e w3 ⟨rfl, b3⟩
  go_wp2_with fail
  go_ret
  exact ⟨rfl, b3⟩
set_option maxHeartbeats 1000000 in
theorem negates_empty (w : World) (ht : Tab w) (a : Int) (h1 : (parseQ []).1 = a) (e0 : Int) (h2 : (parseQ []).2 = e0) (ha0 : -1000000000000000 ≤ a) (ha1 : a ≤ 1000000000000000)
    (c2 : Hid (∀ w, Calls Tryd.prog 11 #[.string ⟨#[45]⟩] w fun e w' => e = .returned (.tuple #[.int .i64 (-a), .int .i64 e0]) ∧ ∃ n, w' = w.drewN n)) :
    Calls Tryd.prog 7 #[.string ⟨#[]⟩] w fun e w' => e = .returned (.bool true) ∧ Below w.heap.size w w' := by
  go_enter Tryd.func7, Tryd.ntmps7
  go_wp2_with fail
  refine (parse_any [] _ (by decide)).mono ?_
  rw [h1, h2]
  rintro e w1 ⟨rfl, n1, rfl⟩
  go_wp2_with fail
  refine (c2.out _).mono ?_
  rintro e w2 ⟨rfl, n2, rfl⟩
  go_wp2_with fail
  refine (awake_any _ (ht.drewN _)).mono ?_
  rintro e w3 ⟨rfl, b3⟩
  go_wp2_with fail
  go_ret
  exact ⟨rfl, next (below_drewN w _) b3⟩
set_option maxHeartbeats 1000000 in
theorem negates_plain (l : List UInt8) (w : World) (ht : Tab w) (hl : ¬ 100 < l.length) (hp : 0 < l.length) (h : (((⟨l.toArray⟩ : ByteArray)[0]'hp |>.toNat : Int) == 45) = false)
    (a e0 : Int) (ha0 : -1000000000000000 ≤ a) (ha1 : a ≤ 1000000000000000)
    (c1 : Hid (∀ w, Calls Tryd.prog 11 #[.string ⟨l.toArray⟩] w fun e w' => e = .returned (.tuple #[.int .i64 a, .int .i64 e0]) ∧ ∃ n, w' = w.drewN n))
    (c2 : Hid (∀ w, Calls Tryd.prog 11 #[.string (⟨#[45]⟩ ++ ⟨l.toArray⟩)] w fun e w' => e = .returned (.tuple #[.int .i64 (-a), .int .i64 e0]) ∧ ∃ n, w' = w.drewN n)) :
    Calls Tryd.prog 7 #[.string ⟨l.toArray⟩] w fun e w' => e = .returned (.bool true) ∧ Below w.heap.size w w' := by
  go_enter Tryd.func7, Tryd.ntmps7
  go_wp2_with fail
  refine (c1.out _).mono ?_
  rintro e w1 ⟨rfl, n1, rfl⟩
  go_wp2_with fail
  refine (c2.out _).mono ?_
  rintro e w2 ⟨rfl, n2, rfl⟩
  go_wp2_with fail
  refine (awake_any _ (ht.drewN _)).mono ?_
  rintro e w3 ⟨rfl, b3⟩
  go_wp2_with fail
  go_ret
  exact ⟨rfl, next (below_drewN w _) b3⟩
theorem head_minus {c : UInt8} {t : List UInt8} : (((c.toNat : Int)) == 45) = Lib.hasPrefix (c :: t) [45] := by
  have : ((c.toNat : Int) = 45) ↔ c = 45 := ⟨fun h => UInt8.toNat_inj.1 (by simpa using (by omega : c.toNat = 45)), fun h => by rw [h]; rfl⟩
  have e : Lib.hasPrefix (c :: t) [45] = (45 == c) := by simp [Lib.hasPrefix, List.isPrefixOf]
  rw [e, Bool.eq_iff_iff]
  simp only [beq_iff_eq]
  rw [this]
  exact eq_comm
theorem negates_walk (l : List UInt8) (w : World) (ht : Tab w) (hlen : l.length ≤ 9223372036854775807) : Calls Tryd.prog 7 #[.string ⟨l.toArray⟩] w fun e w' => e = .returned (.bool true) ∧ Below w.heap.size w w' := by
  by_cases h100 : 100 < l.length
  · exact negates_long l w ht hlen h100
  cases l with
  | nil => exact negates_empty w ht _ rfl _ rfl (parseQ_range []).1 (parseQ_range []).2 (Lib.hid fun w => calls_eq (by decide +kernel) (by decide +kernel) (parse_any [45] w (by decide)))
  | cons c t =>
    by_cases hm : Lib.hasPrefix (c :: t) [45] = true
    · exact negates_minus (c :: t) w ht h100 (by simp) (head_minus.trans hm)
    · have hm' : Lib.hasPrefix (c :: t) [45] = false := by simpa using hm
      have hn := negate_parse hm'
      refine negates_plain (c :: t) w ht h100 (by simp) (head_minus.trans hm') _ _ (parseQ_range (c :: t)).1 (parseQ_range (c :: t)).2 (Lib.hid fun w => parse_any (c :: t) w hlen) (Lib.hid fun w => ?_)
      rw [str_app]
      exact calls_eq (by rw [hn]) (by rw [hn]) (parse_any (45 :: c :: t) w (by simp at h100 ⊢; omega))

/-! ### the canonical text -/
set_option maxHeartbeats 1000000 in
theorem canon_long (l m : List UInt8) (w : World) (ht : Tab w) (hl : l.length ≤ 9223372036854775807) (hm : m.length ≤ 9223372036854775807) (h : 100 < l.length ∨ 100 < m.length) :
    Calls Tryd.prog 6 #[.string ⟨l.toArray⟩, .string ⟨m.toArray⟩] w fun e w' => e = .returned (.bool true) ∧ Below w.heap.size w w' := by
  by_cases h1 : 100 < l.length
  · clear h
    go_enter Tryd.func6, Tryd.ntmps6
    go_wp2_with fail
    refine (awake_any _ ht).mono ?_
    rintro e w3 ⟨rfl, b3⟩
    go_wp2_with fail
    go_ret
    exact ⟨rfl, b3⟩
  · have h2 : 100 < m.length := by omega
    clear h
    go_enter Tryd.func6, Tryd.ntmps6
    go_wp2_with fail
    refine (awake_any _ ht).mono ?_
    rintro e w3 ⟨rfl, b3⟩
    go_wp2_with fail
    go_ret
    exact ⟨rfl, b3⟩
set_option maxHeartbeats 1000000 in
/-- one of the two is no text -/
theorem canon_err (l m : List UInt8) (w : World) (ht : Tab w) (hl : ¬ 100 < l.length) (hm : ¬ 100 < m.length) (a e0 b f0 : Int) (eb fb : Bool)
    (he : (e0 == 0) = eb) (hf : (f0 == 0) = fb) (he' : (e0 != 0) = !eb) (hf' : (f0 != 0) = !fb) (ha : eb = false → (a == 0) = true) (hb : fb = false → (b == 0) = true) (hor : (eb && fb) = false)
    (c1 : Hid (∀ w, Calls Tryd.prog 11 #[.string ⟨l.toArray⟩] w fun e w' => e = .returned (.tuple #[.int .i64 a, .int .i64 e0]) ∧ ∃ n, w' = w.drewN n))
    (c2 : Hid (∀ w, Calls Tryd.prog 11 #[.string ⟨m.toArray⟩] w fun e w' => e = .returned (.tuple #[.int .i64 b, .int .i64 f0]) ∧ ∃ n, w' = w.drewN n)) :
    Calls Tryd.prog 6 #[.string ⟨l.toArray⟩, .string ⟨m.toArray⟩] w fun e w' => e = .returned (.bool true) ∧ Below w.heap.size w w' := by
  cases eb <;> cases fb
  case true.true => cases hor
  all_goals
    have ha' := ha
    have hb' := hb
    simp only [forall_const, Bool.true_eq_false, false_implies, Bool.not_true, Bool.not_false] at ha' hb' he' hf'
    clear ha hb hor
    go_enter Tryd.func6, Tryd.ntmps6
    go_wp2_with fail
    refine (c1.out _).mono ?_
    rintro e w1 ⟨rfl, n1, rfl⟩
    go_wp2_with fail
    refine (c2.out _).mono ?_
    rintro e w2 ⟨rfl, n2, rfl⟩
    go_wp2_with fail
    refine (awake_any _ (ht.drewN _)).mono ?_
    rintro e w3 ⟨rfl, b3⟩
    go_wp2_with fail
    go_ret
    exact ⟨rfl, next (below_drewN w _) b3⟩
set_option maxHeartbeats 1000000 in
theorem canon_ok (l m : List UInt8) (w : World) (ht : Tab w) (hl : ¬ 100 < l.length) (hm : ¬ 100 < m.length) (a b : Int) (A B : List UInt8) (same : Bool)
    (h1 : (A == B) = same) (h2 : (a == b) = same)
    (c1 : Hid (∀ w, Calls Tryd.prog 11 #[.string ⟨l.toArray⟩] w fun e w' => e = .returned (.tuple #[.int .i64 a, .int .i64 0]) ∧ ∃ n, w' = w.drewN n))
    (c2 : Hid (∀ w, Calls Tryd.prog 11 #[.string ⟨m.toArray⟩] w fun e w' => e = .returned (.tuple #[.int .i64 b, .int .i64 0]) ∧ ∃ n, w' = w.drewN n))
    (c3 : Hid (∀ w, Tab w → Calls Tryd.prog 13 #[.int .i64 a] w fun e w' => e = .returned (.string ⟨A.toArray⟩) ∧ Below w.heap.size w w'))
    (c4 : Hid (∀ w, Tab w → Calls Tryd.prog 13 #[.int .i64 b] w fun e w' => e = .returned (.string ⟨B.toArray⟩) ∧ Below w.heap.size w w')) :
    Calls Tryd.prog 6 #[.string ⟨l.toArray⟩, .string ⟨m.toArray⟩] w fun e w' => e = .returned (.bool true) ∧ Below w.heap.size w w' := by
  cases same
  all_goals
    go_enter Tryd.func6, Tryd.ntmps6
    go_wp2_with fail
    refine (c1.out _).mono ?_
    rintro e w1 ⟨rfl, n1, rfl⟩
    go_wp2_with fail
    refine (c2.out _).mono ?_
    rintro e w2 ⟨rfl, n2, rfl⟩
    go_wp2_with fail
    refine (c3.out _ (ht.drewN _)).mono ?_
    rintro e w3 ⟨rfl, b3⟩
    go_wp2_with fail
    refine (c4.out _ ((ht.drewN _).below b3)).mono ?_
    rintro e w4 ⟨rfl, b4⟩
    go_wp2_with fail
    refine (awake_any _ (((ht.drewN _).below b3).below b4)).mono ?_
    rintro e w5 ⟨rfl, b5⟩
    go_wp2_with fail
    go_ret
    exact ⟨rfl, next (next (next (below_drewN w _) b3) b4) b5⟩
theorem canonical_walk (l m : List UInt8) (w : World) (ht : Tab w) (hl : l.length ≤ 9223372036854775807) (hm : m.length ≤ 9223372036854775807) :
    Calls Tryd.prog 6 #[.string ⟨l.toArray⟩, .string ⟨m.toArray⟩] w fun e w' => e = .returned (.bool true) ∧ Below w.heap.size w w' := by
  by_cases h100 : 100 < l.length ∨ 100 < m.length
  · exact canon_long l m w ht hl hm h100
  have p1 := fun w => parse_any l w hl
  have p2 := fun w => parse_any m w hm
  have r1 := parseQ_range l
  have r2 := parseQ_range m
  have z1 := parseQ_err l
  have z2 := parseQ_err m
  generalize (parseQ l).1 = a at *
  generalize (parseQ l).2 = e0 at *
  generalize (parseQ m).1 = b at *
  generalize (parseQ m).2 = f0 at *
  by_cases hok : e0 = 0 ∧ f0 = 0
  · obtain ⟨rfl, rfl⟩ := hok
    have c3 := fun w ht => print_any a w ht
    have c4 := fun w ht => print_any b w ht
    rw [clampI_id r1.1 r1.2] at c3
    rw [clampI_id r2.1 r2.2] at c4
    refine canon_ok l m w ht (by omega) (by omega) a b _ _ (a == b) ?_ rfl (Lib.hid p1) (Lib.hid p2) (Lib.hid c3) (Lib.hid c4)
    rw [Bool.eq_iff_iff]
    simp [print_inj r1.1 r1.2 r2.1 r2.2]
  · refine canon_err l m w ht (by omega) (by omega) a e0 b f0 (e0 == 0) (f0 == 0) rfl rfl rfl rfl (fun h => ?_) (fun h => ?_) ?_ (Lib.hid p1) (Lib.hid p2)
    · rw [z1 (by simpa using h)]; rfl
    · rw [z2 (by simpa using h)]; rfl
    · simpa using hok
end Go.Proofs.YtklpnkdfbfdbnaaDoor
