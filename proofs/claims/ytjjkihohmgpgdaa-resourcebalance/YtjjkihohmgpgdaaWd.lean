/- Contracts of Requests and Limits. -/
import Derived.Test.YtjjkihohmgpgdaaWb
import Derived.Test.YtjjkihohmgpgdaaPc
import Derived.Deep.LoopGhost
namespace Go.Proofs.Ytjjkihohmgpgdaa
open Go.RowKit Go.Sort Go.Proofs.LawFrame

set_option maxHeartbeats 2000000 in
theorem requests_any (x0 x1 x2 x3 x5 x6 x7 x8 x9 : Value) (cv : Value) (l : List CV) (w : World) (hc : Conts w cv l) :
    Calls Try.prog 15 #[.agg #[x0, x1, x2, x3, cv, x5, x6, x7, x8, x9]] w fun e w' => e = .returned (.agg #[.int .i64 (sumC CV.r0 l), .int .i64 (sumC CV.r1 l), .int .i64 (sumC CV.r2 l)]) ∧ Below w.heap.size w w' := by
  obtain ⟨ao, cap, rfl, hlc, hcap, -⟩ := hc.out
  unfold maxLen at hcap
  go_enter Try.func15, Try.ntmps15
  go_wp2
  have o1 : Own (((w.alloc (.cells #[x0, x1, x2, x3, .slice ao l.length cap, x5, x6, x7, x8, x9] 34)).alloc (.cells #[.int .i64 0, .int .i64 0, .int .i64 0] 23)).alloc (.cells #[.int .i64 0, .int .i64 0, .int .i64 0] 23)) (w.heap.size + 1) [.int .i64 0, .int .i64 0, .int .i64 0] 23 := by
    have := (Own.new (w.alloc (.cells #[x0, x1, x2, x3, .slice ao l.length cap, x5, x6, x7, x8, x9] 34)) [.int .i64 0, .int .i64 0, .int .i64 0] 23).alloc (.cells #[.int .i64 0, .int .i64 0, .int .i64 0] 23)
    simpa using this
  have o2 : Own (((w.alloc (.cells #[x0, x1, x2, x3, .slice ao l.length cap, x5, x6, x7, x8, x9] 34)).alloc (.cells #[.int .i64 0, .int .i64 0, .int .i64 0] 23)).alloc (.cells #[.int .i64 0, .int .i64 0, .int .i64 0] 23)) (w.heap.size + 1 + 1) [.int .i64 0, .int .i64 0, .int .i64 0] 23 := by
    have := Own.new ((w.alloc (.cells #[x0, x1, x2, x3, .slice ao l.length cap, x5, x6, x7, x8, x9] 34)).alloc (.cells #[.int .i64 0, .int .i64 0, .int .i64 0] 23)) [.int .i64 0, .int .i64 0, .int .i64 0] 23
    simpa using this
  have o0 : Own (((w.alloc (.cells #[x0, x1, x2, x3, .slice ao l.length cap, x5, x6, x7, x8, x9] 34)).alloc (.cells #[.int .i64 0, .int .i64 0, .int .i64 0] 23)).alloc (.cells #[.int .i64 0, .int .i64 0, .int .i64 0] 23)) w.heap.size [x0, x1, x2, x3, .slice ao l.length cap, x5, x6, x7, x8, x9] 34 := ((Own.new _ _ _).alloc _).alloc _
  have hw0 : Below w.heap.size w (((w.alloc (.cells #[x0, x1, x2, x3, .slice ao l.length cap, x5, x6, x7, x8, x9] 34)).alloc (.cells #[.int .i64 0, .int .i64 0, .int .i64 0] 23)).alloc (.cells #[.int .i64 0, .int .i64 0, .int .i64 0] 23)) := (((Below.refl _ _).alloc (Nat.le_refl _) _).alloc (by simp) _).alloc (by simp; omega) _
  generalize ((w.alloc (.cells #[x0, x1, x2, x3, .slice ao l.length cap, x5, x6, x7, x8, x9] 34)).alloc (.cells #[.int .i64 0, .int .i64 0, .int .i64 0] 23)).alloc (.cells #[.int .i64 0, .int .i64 0, .int .i64 0] 23) = W at *
  have R0 := Lib.hid (And.intro hw0 (And.intro o0 (And.intro o1 o2)))
  clear hw0 o0 o1 o2
  go_loopg [10] l.length (fun g i wr => ∃ k : Nat, k ≤ l.length ∧ g = l.length - k ∧ i = .int .i64 k ∧ Below w.heap.size w wr ∧ Own wr w.heap.size [x0, x1, x2, x3, .slice ao l.length cap, x5, x6, x7, x8, x9] 34 ∧ Own wr (w.heap.size + 1) [.int .i64 0, .int .i64 0, .int .i64 0] 23 ∧ Own wr (w.heap.size + 1 + 1) [.int .i64 (sumTo CV.r0 l k), .int .i64 (sumTo CV.r1 l k), .int .i64 (sumTo CV.r2 l k)] 23)
  case atStart =>
    obtain ⟨hw0, o0, o1, o2⟩ := R0.out
    exact ⟨0, Nat.zero_le _, rfl, rfl, hw0, o0, o1, o2⟩
  case round =>
    obtain ⟨k, hk, hg, rfl, hb, o0, o1, o2⟩ := hrel
    have HG := Lib.hid hg
    clear hg R0
    have hsl : wr.cell? ⟨w.heap.size, 4, none⟩ = some (.slice ao l.length cap) := o0.cell rfl
    by_cases hlt : k < l.length
    · obtain ⟨b, off, c, rfl, hck, q0, q1, q2, q3, q4, q5, q6, q7, q8, q9, q10⟩ := hc.at hb hlt
      have HK := Lib.hid hck
      clear hck hc
      obtain ⟨c0, c1, c2⟩ := o2.three
      have hz := o2.lt
      go_wp2_with fail
      have hb1 := hb.alloc hb.size (.cells #[.string c.x0, .string c.x1, .int .i64 c.r0, .int .i64 c.r1, .int .i64 c.r2, .int .i64 c.l0, .int .i64 c.l1, .int .i64 c.l2, .slice c.a8 c.n8 c.c8, .slice c.a9 c.n9 c.c9, .slice c.a10 c.n10 c.c10] 40)
      have p0 := o0.alloc (.cells #[.string c.x0, .string c.x1, .int .i64 c.r0, .int .i64 c.r1, .int .i64 c.r2, .int .i64 c.l0, .int .i64 c.l1, .int .i64 c.l2, .slice c.a8 c.n8 c.c8, .slice c.a9 c.n9 c.c9, .slice c.a10 c.n10 c.c10] 40)
      have p1 := o1.alloc (.cells #[.string c.x0, .string c.x1, .int .i64 c.r0, .int .i64 c.r1, .int .i64 c.r2, .int .i64 c.l0, .int .i64 c.l1, .int .i64 c.l2, .slice c.a8 c.n8 c.c8, .slice c.a9 c.n9 c.c9, .slice c.a10 c.n10 c.c10] 40)
      have p2 := o2.alloc (.cells #[.string c.x0, .string c.x1, .int .i64 c.r0, .int .i64 c.r1, .int .i64 c.r2, .int .i64 c.l0, .int .i64 c.l1, .int .i64 c.l2, .slice c.a8 c.n8 c.c8, .slice c.a9 c.n9 c.c9, .slice c.a10 c.n10 c.c10] 40)
      clear q0 q1 q2 q3 q4 q5 q6 q7 q8 q9 q10 c0 c1 c2 o0 o1 o2 hb hz hsl
      generalize wr.alloc (.cells #[.string c.x0, .string c.x1, .int .i64 c.r0, .int .i64 c.r1, .int .i64 c.r2, .int .i64 c.l0, .int .i64 c.l1, .int .i64 c.l2, .slice c.a8 c.n8 c.c8, .slice c.a9 c.n9 c.c9, .slice c.a10 c.n10 c.c10] 40) = V at *
      refine (add_any _ _ _ _ _ _ _).mono ?_
      rintro e V2 ⟨rfl, hb2⟩
      replace p0 := p0.all hb2
      replace p1 := p1.all hb2
      replace p2 := p2.all hb2
      replace hb1 := below_all hb1 hb2
      clear hb2
      obtain ⟨c0, c1, c2⟩ := p2.three
      have f0 := p2.frozen 0
      have f1 := p2.frozen 1
      have f2 := p2.frozen 2
      have PP := Lib.hid (And.intro p0 (And.intro p1 (And.intro p2 hb1)))
      clear p0 p1 p2 hb1
      go_wp2
      obtain ⟨p0, p1, p2, hb1⟩ := PP.out
      go_roundg (l.length - (k + 1))
      case measure => have := HG.out; omega
      case rel =>
        refine ⟨k + 1, by omega, rfl, by go_num, ?_, ?_, ?_, ?_⟩
        · exact below_set (below_set (below_set hb1 (by omega) _) (by omega) _) (by omega) _
        · exact ((p0.set_ne (by omega) _ _).set_ne (by omega) _ _).set_ne (by omega) _ _
        · exact ((p1.set_ne (by omega) _ _).set_ne (by omega) _ _).set_ne (by omega) _ _
        · rw [sumTo_succ CV.r0 HK.out, sumTo_succ CV.r1 HK.out, sumTo_succ CV.r2 HK.out]
          exact ((p2.set 0 _).set 1 _).set 2 _
    · obtain ⟨c0, c1, c2⟩ := o2.three
      obtain ⟨d0, d1, d2⟩ := o1.three
      have f0 := o1.frozen 0
      have f1 := o1.frozen 1
      have f2 := o1.frozen 2
      go_wp2
      have hw3 : Below w.heap.size w ((((wr).setCell ⟨w.heap.size + 1, 0, none⟩ (.int .i64 (sumTo CV.r0 l k))).setCell ⟨w.heap.size + 1, 1, none⟩ (.int .i64 (sumTo CV.r1 l k))).setCell ⟨w.heap.size + 1, 2, none⟩ (.int .i64 (sumTo CV.r2 l k))) := below_set (below_set (below_set hb (by omega) _) (by omega) _) (by omega) _
      have oR := ((o1.set 0 (.int .i64 (sumTo CV.r0 l k))).set 1 (.int .i64 (sumTo CV.r1 l k))).set 2 (.int .i64 (sumTo CV.r2 l k))
      clear c0 c1 c2 d0 d1 d2 f0 f1 f2 hsl o0 o1 o2
      generalize (((wr).setCell ⟨w.heap.size + 1, 0, none⟩ (.int .i64 (sumTo CV.r0 l k))).setCell ⟨w.heap.size + 1, 1, none⟩ (.int .i64 (sumTo CV.r1 l k))).setCell ⟨w.heap.size + 1, 2, none⟩ (.int .i64 (sumTo CV.r2 l k)) = U at *
      rw [sumTo_all CV.r0 l (by omega), sumTo_all CV.r1 l (by omega), sumTo_all CV.r2 l (by omega)] at oR
      obtain ⟨c0, c1, c2⟩ := Own.three oR
      exact bodyPost_ret (v := .agg #[.int .i64 (sumC CV.r0 l), .int .i64 (sumC CV.r1 l), .int .i64 (sumC CV.r2 l)]) (by simp [results, Try.results15, go_sem, c0, c1, c2]) rfl ⟨rfl, hw3⟩

set_option maxHeartbeats 2000000 in
theorem limits_any (x0 x1 x2 x3 x5 x6 x7 x8 x9 : Value) (cv : Value) (l : List CV) (w : World) (hc : Conts w cv l) :
    Calls Try.prog 17 #[.agg #[x0, x1, x2, x3, cv, x5, x6, x7, x8, x9]] w fun e w' => e = .returned (.agg #[.int .i64 (sumC CV.l0 l), .int .i64 (sumC CV.l1 l), .int .i64 (sumC CV.l2 l)]) ∧ Below w.heap.size w w' := by
  obtain ⟨ao, cap, rfl, hlc, hcap, -⟩ := hc.out
  unfold maxLen at hcap
  go_enter Try.func17, Try.ntmps17
  go_wp2
  have o1 : Own (((w.alloc (.cells #[x0, x1, x2, x3, .slice ao l.length cap, x5, x6, x7, x8, x9] 34)).alloc (.cells #[.int .i64 0, .int .i64 0, .int .i64 0] 23)).alloc (.cells #[.int .i64 0, .int .i64 0, .int .i64 0] 23)) (w.heap.size + 1) [.int .i64 0, .int .i64 0, .int .i64 0] 23 := by
    have := (Own.new (w.alloc (.cells #[x0, x1, x2, x3, .slice ao l.length cap, x5, x6, x7, x8, x9] 34)) [.int .i64 0, .int .i64 0, .int .i64 0] 23).alloc (.cells #[.int .i64 0, .int .i64 0, .int .i64 0] 23)
    simpa using this
  have o2 : Own (((w.alloc (.cells #[x0, x1, x2, x3, .slice ao l.length cap, x5, x6, x7, x8, x9] 34)).alloc (.cells #[.int .i64 0, .int .i64 0, .int .i64 0] 23)).alloc (.cells #[.int .i64 0, .int .i64 0, .int .i64 0] 23)) (w.heap.size + 1 + 1) [.int .i64 0, .int .i64 0, .int .i64 0] 23 := by
    have := Own.new ((w.alloc (.cells #[x0, x1, x2, x3, .slice ao l.length cap, x5, x6, x7, x8, x9] 34)).alloc (.cells #[.int .i64 0, .int .i64 0, .int .i64 0] 23)) [.int .i64 0, .int .i64 0, .int .i64 0] 23
    simpa using this
  have o0 : Own (((w.alloc (.cells #[x0, x1, x2, x3, .slice ao l.length cap, x5, x6, x7, x8, x9] 34)).alloc (.cells #[.int .i64 0, .int .i64 0, .int .i64 0] 23)).alloc (.cells #[.int .i64 0, .int .i64 0, .int .i64 0] 23)) w.heap.size [x0, x1, x2, x3, .slice ao l.length cap, x5, x6, x7, x8, x9] 34 := ((Own.new _ _ _).alloc _).alloc _
  have hw0 : Below w.heap.size w (((w.alloc (.cells #[x0, x1, x2, x3, .slice ao l.length cap, x5, x6, x7, x8, x9] 34)).alloc (.cells #[.int .i64 0, .int .i64 0, .int .i64 0] 23)).alloc (.cells #[.int .i64 0, .int .i64 0, .int .i64 0] 23)) := (((Below.refl _ _).alloc (Nat.le_refl _) _).alloc (by simp) _).alloc (by simp; omega) _
  generalize ((w.alloc (.cells #[x0, x1, x2, x3, .slice ao l.length cap, x5, x6, x7, x8, x9] 34)).alloc (.cells #[.int .i64 0, .int .i64 0, .int .i64 0] 23)).alloc (.cells #[.int .i64 0, .int .i64 0, .int .i64 0] 23) = W at *
  have R0 := Lib.hid (And.intro hw0 (And.intro o0 (And.intro o1 o2)))
  clear hw0 o0 o1 o2
  go_loopg [10] l.length (fun g i wr => ∃ k : Nat, k ≤ l.length ∧ g = l.length - k ∧ i = .int .i64 k ∧ Below w.heap.size w wr ∧ Own wr w.heap.size [x0, x1, x2, x3, .slice ao l.length cap, x5, x6, x7, x8, x9] 34 ∧ Own wr (w.heap.size + 1) [.int .i64 0, .int .i64 0, .int .i64 0] 23 ∧ Own wr (w.heap.size + 1 + 1) [.int .i64 (sumTo CV.l0 l k), .int .i64 (sumTo CV.l1 l k), .int .i64 (sumTo CV.l2 l k)] 23)
  case atStart =>
    obtain ⟨hw0, o0, o1, o2⟩ := R0.out
    exact ⟨0, Nat.zero_le _, rfl, rfl, hw0, o0, o1, o2⟩
  case round =>
    obtain ⟨k, hk, hg, rfl, hb, o0, o1, o2⟩ := hrel
    have HG := Lib.hid hg
    clear hg R0
    have hsl : wr.cell? ⟨w.heap.size, 4, none⟩ = some (.slice ao l.length cap) := o0.cell rfl
    by_cases hlt : k < l.length
    · obtain ⟨b, off, c, rfl, hck, q0, q1, q2, q3, q4, q5, q6, q7, q8, q9, q10⟩ := hc.at hb hlt
      have HK := Lib.hid hck
      clear hck hc
      obtain ⟨c0, c1, c2⟩ := o2.three
      have hz := o2.lt
      go_wp2_with fail
      have hb1 := hb.alloc hb.size (.cells #[.string c.x0, .string c.x1, .int .i64 c.r0, .int .i64 c.r1, .int .i64 c.r2, .int .i64 c.l0, .int .i64 c.l1, .int .i64 c.l2, .slice c.a8 c.n8 c.c8, .slice c.a9 c.n9 c.c9, .slice c.a10 c.n10 c.c10] 40)
      have p0 := o0.alloc (.cells #[.string c.x0, .string c.x1, .int .i64 c.r0, .int .i64 c.r1, .int .i64 c.r2, .int .i64 c.l0, .int .i64 c.l1, .int .i64 c.l2, .slice c.a8 c.n8 c.c8, .slice c.a9 c.n9 c.c9, .slice c.a10 c.n10 c.c10] 40)
      have p1 := o1.alloc (.cells #[.string c.x0, .string c.x1, .int .i64 c.r0, .int .i64 c.r1, .int .i64 c.r2, .int .i64 c.l0, .int .i64 c.l1, .int .i64 c.l2, .slice c.a8 c.n8 c.c8, .slice c.a9 c.n9 c.c9, .slice c.a10 c.n10 c.c10] 40)
      have p2 := o2.alloc (.cells #[.string c.x0, .string c.x1, .int .i64 c.r0, .int .i64 c.r1, .int .i64 c.r2, .int .i64 c.l0, .int .i64 c.l1, .int .i64 c.l2, .slice c.a8 c.n8 c.c8, .slice c.a9 c.n9 c.c9, .slice c.a10 c.n10 c.c10] 40)
      clear q0 q1 q2 q3 q4 q5 q6 q7 q8 q9 q10 c0 c1 c2 o0 o1 o2 hb hz hsl
      generalize wr.alloc (.cells #[.string c.x0, .string c.x1, .int .i64 c.r0, .int .i64 c.r1, .int .i64 c.r2, .int .i64 c.l0, .int .i64 c.l1, .int .i64 c.l2, .slice c.a8 c.n8 c.c8, .slice c.a9 c.n9 c.c9, .slice c.a10 c.n10 c.c10] 40) = V at *
      refine (add_any _ _ _ _ _ _ _).mono ?_
      rintro e V2 ⟨rfl, hb2⟩
      replace p0 := p0.all hb2
      replace p1 := p1.all hb2
      replace p2 := p2.all hb2
      replace hb1 := below_all hb1 hb2
      clear hb2
      obtain ⟨c0, c1, c2⟩ := p2.three
      have f0 := p2.frozen 0
      have f1 := p2.frozen 1
      have f2 := p2.frozen 2
      have PP := Lib.hid (And.intro p0 (And.intro p1 (And.intro p2 hb1)))
      clear p0 p1 p2 hb1
      go_wp2
      obtain ⟨p0, p1, p2, hb1⟩ := PP.out
      go_roundg (l.length - (k + 1))
      case measure => have := HG.out; omega
      case rel =>
        refine ⟨k + 1, by omega, rfl, by go_num, ?_, ?_, ?_, ?_⟩
        · exact below_set (below_set (below_set hb1 (by omega) _) (by omega) _) (by omega) _
        · exact ((p0.set_ne (by omega) _ _).set_ne (by omega) _ _).set_ne (by omega) _ _
        · exact ((p1.set_ne (by omega) _ _).set_ne (by omega) _ _).set_ne (by omega) _ _
        · rw [sumTo_succ CV.l0 HK.out, sumTo_succ CV.l1 HK.out, sumTo_succ CV.l2 HK.out]
          exact ((p2.set 0 _).set 1 _).set 2 _
    · obtain ⟨c0, c1, c2⟩ := o2.three
      obtain ⟨d0, d1, d2⟩ := o1.three
      have f0 := o1.frozen 0
      have f1 := o1.frozen 1
      have f2 := o1.frozen 2
      go_wp2
      have hw3 : Below w.heap.size w ((((wr).setCell ⟨w.heap.size + 1, 0, none⟩ (.int .i64 (sumTo CV.l0 l k))).setCell ⟨w.heap.size + 1, 1, none⟩ (.int .i64 (sumTo CV.l1 l k))).setCell ⟨w.heap.size + 1, 2, none⟩ (.int .i64 (sumTo CV.l2 l k))) := below_set (below_set (below_set hb (by omega) _) (by omega) _) (by omega) _
      have oR := ((o1.set 0 (.int .i64 (sumTo CV.l0 l k))).set 1 (.int .i64 (sumTo CV.l1 l k))).set 2 (.int .i64 (sumTo CV.l2 l k))
      clear c0 c1 c2 d0 d1 d2 f0 f1 f2 hsl o0 o1 o2
      generalize (((wr).setCell ⟨w.heap.size + 1, 0, none⟩ (.int .i64 (sumTo CV.l0 l k))).setCell ⟨w.heap.size + 1, 1, none⟩ (.int .i64 (sumTo CV.l1 l k))).setCell ⟨w.heap.size + 1, 2, none⟩ (.int .i64 (sumTo CV.l2 l k)) = U at *
      rw [sumTo_all CV.l0 l (by omega), sumTo_all CV.l1 l (by omega), sumTo_all CV.l2 l (by omega)] at oR
      obtain ⟨c0, c1, c2⟩ := Own.three oR
      exact bodyPost_ret (v := .agg #[.int .i64 (sumC CV.l0 l), .int .i64 (sumC CV.l1 l), .int .i64 (sumC CV.l2 l)]) (by simp [results, Try.results17, go_sem, c0, c1, c2]) rfl ⟨rfl, hw3⟩

set_option maxHeartbeats 2000000 in
theorem rrequests_any (x0 x1 x2 x3 x5 x6 x7 x8 x9 : Value) (cv : Value) (l : List CV) (w : World) (hc : Conts w cv l) :
    Calls Try.prog 16 #[.agg #[x0, x1, x2, x3, cv, x5, x6, x7, x8, x9]] w fun e w' => e = .returned (.agg #[.int .i64 (sumC CV.r0 l), .int .i64 (sumC CV.r1 l), .int .i64 (sumC CV.r2 l)]) ∧ Below w.heap.size w w' := by
  obtain ⟨ao, cap, rfl, hlc, hcap, -⟩ := hc.out
  unfold maxLen at hcap
  go_enter Try.func16, Try.ntmps16
  go_wp2
  have o1 : Own (((w.alloc (.cells #[x0, x1, x2, x3, .slice ao l.length cap, x5, x6, x7, x8, x9] 34)).alloc (.cells #[.int .i64 0, .int .i64 0, .int .i64 0] 23)).alloc (.cells #[.int .i64 0, .int .i64 0, .int .i64 0] 23)) (w.heap.size + 1) [.int .i64 0, .int .i64 0, .int .i64 0] 23 := by
    have := (Own.new (w.alloc (.cells #[x0, x1, x2, x3, .slice ao l.length cap, x5, x6, x7, x8, x9] 34)) [.int .i64 0, .int .i64 0, .int .i64 0] 23).alloc (.cells #[.int .i64 0, .int .i64 0, .int .i64 0] 23)
    simpa using this
  have o2 : Own (((w.alloc (.cells #[x0, x1, x2, x3, .slice ao l.length cap, x5, x6, x7, x8, x9] 34)).alloc (.cells #[.int .i64 0, .int .i64 0, .int .i64 0] 23)).alloc (.cells #[.int .i64 0, .int .i64 0, .int .i64 0] 23)) (w.heap.size + 1 + 1) [.int .i64 0, .int .i64 0, .int .i64 0] 23 := by
    have := Own.new ((w.alloc (.cells #[x0, x1, x2, x3, .slice ao l.length cap, x5, x6, x7, x8, x9] 34)).alloc (.cells #[.int .i64 0, .int .i64 0, .int .i64 0] 23)) [.int .i64 0, .int .i64 0, .int .i64 0] 23
    simpa using this
  have o0 : Own (((w.alloc (.cells #[x0, x1, x2, x3, .slice ao l.length cap, x5, x6, x7, x8, x9] 34)).alloc (.cells #[.int .i64 0, .int .i64 0, .int .i64 0] 23)).alloc (.cells #[.int .i64 0, .int .i64 0, .int .i64 0] 23)) w.heap.size [x0, x1, x2, x3, .slice ao l.length cap, x5, x6, x7, x8, x9] 34 := ((Own.new _ _ _).alloc _).alloc _
  have hw0 : Below w.heap.size w (((w.alloc (.cells #[x0, x1, x2, x3, .slice ao l.length cap, x5, x6, x7, x8, x9] 34)).alloc (.cells #[.int .i64 0, .int .i64 0, .int .i64 0] 23)).alloc (.cells #[.int .i64 0, .int .i64 0, .int .i64 0] 23)) := (((Below.refl _ _).alloc (Nat.le_refl _) _).alloc (by simp) _).alloc (by simp; omega) _
  generalize ((w.alloc (.cells #[x0, x1, x2, x3, .slice ao l.length cap, x5, x6, x7, x8, x9] 34)).alloc (.cells #[.int .i64 0, .int .i64 0, .int .i64 0] 23)).alloc (.cells #[.int .i64 0, .int .i64 0, .int .i64 0] 23) = W at *
  have R0 := Lib.hid (And.intro hw0 (And.intro o0 (And.intro o1 o2)))
  clear hw0 o0 o1 o2
  go_loopg [4] l.length (fun g i wr => ∃ k : Nat, k ≤ l.length ∧ g = l.length - k ∧ i = .int .i64 k ∧ Below w.heap.size w wr ∧ Own wr w.heap.size [x0, x1, x2, x3, .slice ao l.length cap, x5, x6, x7, x8, x9] 34 ∧ Own wr (w.heap.size + 1) [.int .i64 0, .int .i64 0, .int .i64 0] 23 ∧ Own wr (w.heap.size + 1 + 1) [.int .i64 (sumTo CV.r0 l k), .int .i64 (sumTo CV.r1 l k), .int .i64 (sumTo CV.r2 l k)] 23)
  case atStart =>
    obtain ⟨hw0, o0, o1, o2⟩ := R0.out
    exact ⟨0, Nat.zero_le _, rfl, rfl, hw0, o0, o1, o2⟩
  case round =>
    obtain ⟨k, hk, hg, rfl, hb, o0, o1, o2⟩ := hrel
    have HG := Lib.hid hg
    clear hg R0
    have hsl : wr.cell? ⟨w.heap.size, 4, none⟩ = some (.slice ao l.length cap) := o0.cell rfl
    by_cases hlt : k < l.length
    · obtain ⟨b, off, c, rfl, hck, q0, q1, q2, q3, q4, q5, q6, q7, q8, q9, q10⟩ := hc.at hb hlt
      have HK := Lib.hid hck
      clear hck hc
      obtain ⟨c0, c1, c2⟩ := o2.three
      have hz := o2.lt
      go_wp2
      have k0 := cell_regrown c0
      have k1 := cell_regrown c1
      have k2 := cell_regrown c2
      have ks := cell_regrown hsl
      have l0 := cell_regrown q2
      have l1 := cell_regrown q3
      have l2 := cell_regrown q4
      have cR : ∀ (a0 a1 a2 b0 b1 b2 : Int) dd os, Calls Try.prog 10 #[.agg #[.int .i64 a0, .int .i64 a1, .int .i64 a2], .agg #[.int .i64 b0, .int .i64 b1, .int .i64 b2]] (grow (redrawn wr dd) os) fun e w'' => e = .returned (.agg #[.int .i64 (addZ a0 b0), .int .i64 (addZ a1 b1), .int .i64 (addZ a2 b2)]) ∧ ∃ p : Regrown, w'' = grow (redrawn wr p.d) p.os := fun _ _ _ _ _ _ dd os => Calls.regrown_of (radd_any _ _ _ _ _ _ _)
      clear q0 q1 q2 q3 q4 q5 q6 q7 q8 q9 q10 c0 c1 c2 hsl
      refine wp_region_tail_below 8 (by kernel_rfl) (by kernel_rfl) ?_
      simp only [List.take_succ_cons, List.take_zero, List.drop_succ_cons, List.drop_zero]
      repeat (first | go_big_quiet_step ((exact cR _ _ _ _ _ _ _ _)) | quiet_step (exact cR _ _ _ _ _ _ _ _))
      refine wpQuiet_nil ?_
      intro _ hw'
      obtain ⟨⟨dq, osq⟩, hw''⟩ := hw'
      subst hw''
      have hb2 := below_regrown wr dq osq
      have hb1 := hb
      have p0 := o0
      have p1 := o1
      have p2 := o2
      clear k0 k1 k2 ks l0 l1 l2 cR o0 o1 o2 hb hz
      generalize grow (redrawn wr dq) osq = V2 at *
      replace p0 := p0.all hb2
      replace p1 := p1.all hb2
      replace p2 := p2.all hb2
      replace hb1 := below_all hb1 hb2
      clear hb2
      obtain ⟨c0, c1, c2⟩ := p2.three
      have f0 := p2.frozen 0
      have f1 := p2.frozen 1
      have f2 := p2.frozen 2
      have PP := Lib.hid (And.intro p0 (And.intro p1 (And.intro p2 hb1)))
      clear p0 p1 p2 hb1
      go_wp2
      obtain ⟨p0, p1, p2, hb1⟩ := PP.out
      go_roundg (l.length - (k + 1))
      case measure => have := HG.out; omega
      case rel =>
        refine ⟨k + 1, by omega, rfl, by go_num, ?_, ?_, ?_, ?_⟩
        · exact below_set (below_set (below_set hb1 (by omega) _) (by omega) _) (by omega) _
        · exact ((p0.set_ne (by omega) _ _).set_ne (by omega) _ _).set_ne (by omega) _ _
        · exact ((p1.set_ne (by omega) _ _).set_ne (by omega) _ _).set_ne (by omega) _ _
        · rw [sumTo_succ CV.r0 HK.out, sumTo_succ CV.r1 HK.out, sumTo_succ CV.r2 HK.out]
          exact ((p2.set 0 _).set 1 _).set 2 _
    · obtain ⟨c0, c1, c2⟩ := o2.three
      obtain ⟨d0, d1, d2⟩ := o1.three
      have f0 := o1.frozen 0
      have f1 := o1.frozen 1
      have f2 := o1.frozen 2
      go_wp2
      have hw3 : Below w.heap.size w ((((wr).setCell ⟨w.heap.size + 1, 0, none⟩ (.int .i64 (sumTo CV.r0 l k))).setCell ⟨w.heap.size + 1, 1, none⟩ (.int .i64 (sumTo CV.r1 l k))).setCell ⟨w.heap.size + 1, 2, none⟩ (.int .i64 (sumTo CV.r2 l k))) := below_set (below_set (below_set hb (by omega) _) (by omega) _) (by omega) _
      have oR := ((o1.set 0 (.int .i64 (sumTo CV.r0 l k))).set 1 (.int .i64 (sumTo CV.r1 l k))).set 2 (.int .i64 (sumTo CV.r2 l k))
      clear c0 c1 c2 d0 d1 d2 f0 f1 f2 hsl o0 o1 o2
      generalize (((wr).setCell ⟨w.heap.size + 1, 0, none⟩ (.int .i64 (sumTo CV.r0 l k))).setCell ⟨w.heap.size + 1, 1, none⟩ (.int .i64 (sumTo CV.r1 l k))).setCell ⟨w.heap.size + 1, 2, none⟩ (.int .i64 (sumTo CV.r2 l k)) = U at *
      rw [sumTo_all CV.r0 l (by omega), sumTo_all CV.r1 l (by omega), sumTo_all CV.r2 l (by omega)] at oR
      obtain ⟨c0, c1, c2⟩ := Own.three oR
      exact bodyPost_ret (v := .agg #[.int .i64 (sumC CV.r0 l), .int .i64 (sumC CV.r1 l), .int .i64 (sumC CV.r2 l)]) (by simp [results, Try.results16, go_sem, c0, c1, c2]) rfl ⟨rfl, hw3⟩

set_option maxHeartbeats 2000000 in
theorem rlimits_any (x0 x1 x2 x3 x5 x6 x7 x8 x9 : Value) (cv : Value) (l : List CV) (w : World) (hc : Conts w cv l) :
    Calls Try.prog 18 #[.agg #[x0, x1, x2, x3, cv, x5, x6, x7, x8, x9]] w fun e w' => e = .returned (.agg #[.int .i64 (sumC CV.l0 l), .int .i64 (sumC CV.l1 l), .int .i64 (sumC CV.l2 l)]) ∧ Below w.heap.size w w' := by
  obtain ⟨ao, cap, rfl, hlc, hcap, -⟩ := hc.out
  unfold maxLen at hcap
  go_enter Try.func18, Try.ntmps18
  go_wp2
  have o1 : Own (((w.alloc (.cells #[x0, x1, x2, x3, .slice ao l.length cap, x5, x6, x7, x8, x9] 34)).alloc (.cells #[.int .i64 0, .int .i64 0, .int .i64 0] 23)).alloc (.cells #[.int .i64 0, .int .i64 0, .int .i64 0] 23)) (w.heap.size + 1) [.int .i64 0, .int .i64 0, .int .i64 0] 23 := by
    have := (Own.new (w.alloc (.cells #[x0, x1, x2, x3, .slice ao l.length cap, x5, x6, x7, x8, x9] 34)) [.int .i64 0, .int .i64 0, .int .i64 0] 23).alloc (.cells #[.int .i64 0, .int .i64 0, .int .i64 0] 23)
    simpa using this
  have o2 : Own (((w.alloc (.cells #[x0, x1, x2, x3, .slice ao l.length cap, x5, x6, x7, x8, x9] 34)).alloc (.cells #[.int .i64 0, .int .i64 0, .int .i64 0] 23)).alloc (.cells #[.int .i64 0, .int .i64 0, .int .i64 0] 23)) (w.heap.size + 1 + 1) [.int .i64 0, .int .i64 0, .int .i64 0] 23 := by
    have := Own.new ((w.alloc (.cells #[x0, x1, x2, x3, .slice ao l.length cap, x5, x6, x7, x8, x9] 34)).alloc (.cells #[.int .i64 0, .int .i64 0, .int .i64 0] 23)) [.int .i64 0, .int .i64 0, .int .i64 0] 23
    simpa using this
  have o0 : Own (((w.alloc (.cells #[x0, x1, x2, x3, .slice ao l.length cap, x5, x6, x7, x8, x9] 34)).alloc (.cells #[.int .i64 0, .int .i64 0, .int .i64 0] 23)).alloc (.cells #[.int .i64 0, .int .i64 0, .int .i64 0] 23)) w.heap.size [x0, x1, x2, x3, .slice ao l.length cap, x5, x6, x7, x8, x9] 34 := ((Own.new _ _ _).alloc _).alloc _
  have hw0 : Below w.heap.size w (((w.alloc (.cells #[x0, x1, x2, x3, .slice ao l.length cap, x5, x6, x7, x8, x9] 34)).alloc (.cells #[.int .i64 0, .int .i64 0, .int .i64 0] 23)).alloc (.cells #[.int .i64 0, .int .i64 0, .int .i64 0] 23)) := (((Below.refl _ _).alloc (Nat.le_refl _) _).alloc (by simp) _).alloc (by simp; omega) _
  generalize ((w.alloc (.cells #[x0, x1, x2, x3, .slice ao l.length cap, x5, x6, x7, x8, x9] 34)).alloc (.cells #[.int .i64 0, .int .i64 0, .int .i64 0] 23)).alloc (.cells #[.int .i64 0, .int .i64 0, .int .i64 0] 23) = W at *
  have R0 := Lib.hid (And.intro hw0 (And.intro o0 (And.intro o1 o2)))
  clear hw0 o0 o1 o2
  go_loopg [4] l.length (fun g i wr => ∃ k : Nat, k ≤ l.length ∧ g = l.length - k ∧ i = .int .i64 k ∧ Below w.heap.size w wr ∧ Own wr w.heap.size [x0, x1, x2, x3, .slice ao l.length cap, x5, x6, x7, x8, x9] 34 ∧ Own wr (w.heap.size + 1) [.int .i64 0, .int .i64 0, .int .i64 0] 23 ∧ Own wr (w.heap.size + 1 + 1) [.int .i64 (sumTo CV.l0 l k), .int .i64 (sumTo CV.l1 l k), .int .i64 (sumTo CV.l2 l k)] 23)
  case atStart =>
    obtain ⟨hw0, o0, o1, o2⟩ := R0.out
    exact ⟨0, Nat.zero_le _, rfl, rfl, hw0, o0, o1, o2⟩
  case round =>
    obtain ⟨k, hk, hg, rfl, hb, o0, o1, o2⟩ := hrel
    have HG := Lib.hid hg
    clear hg R0
    have hsl : wr.cell? ⟨w.heap.size, 4, none⟩ = some (.slice ao l.length cap) := o0.cell rfl
    by_cases hlt : k < l.length
    · obtain ⟨b, off, c, rfl, hck, q0, q1, q2, q3, q4, q5, q6, q7, q8, q9, q10⟩ := hc.at hb hlt
      have HK := Lib.hid hck
      clear hck hc
      obtain ⟨c0, c1, c2⟩ := o2.three
      have hz := o2.lt
      go_wp2
      have k0 := cell_regrown c0
      have k1 := cell_regrown c1
      have k2 := cell_regrown c2
      have ks := cell_regrown hsl
      have l0 := cell_regrown q5
      have l1 := cell_regrown q6
      have l2 := cell_regrown q7
      have cR : ∀ (a0 a1 a2 b0 b1 b2 : Int) dd os, Calls Try.prog 10 #[.agg #[.int .i64 a0, .int .i64 a1, .int .i64 a2], .agg #[.int .i64 b0, .int .i64 b1, .int .i64 b2]] (grow (redrawn wr dd) os) fun e w'' => e = .returned (.agg #[.int .i64 (addZ a0 b0), .int .i64 (addZ a1 b1), .int .i64 (addZ a2 b2)]) ∧ ∃ p : Regrown, w'' = grow (redrawn wr p.d) p.os := fun _ _ _ _ _ _ dd os => Calls.regrown_of (radd_any _ _ _ _ _ _ _)
      clear q0 q1 q2 q3 q4 q5 q6 q7 q8 q9 q10 c0 c1 c2 hsl
      refine wp_region_tail_below 8 (by kernel_rfl) (by kernel_rfl) ?_
      simp only [List.take_succ_cons, List.take_zero, List.drop_succ_cons, List.drop_zero]
      repeat (first | go_big_quiet_step ((exact cR _ _ _ _ _ _ _ _)) | quiet_step (exact cR _ _ _ _ _ _ _ _))
      refine wpQuiet_nil ?_
      intro _ hw'
      obtain ⟨⟨dq, osq⟩, hw''⟩ := hw'
      subst hw''
      have hb2 := below_regrown wr dq osq
      have hb1 := hb
      have p0 := o0
      have p1 := o1
      have p2 := o2
      clear k0 k1 k2 ks l0 l1 l2 cR o0 o1 o2 hb hz
      generalize grow (redrawn wr dq) osq = V2 at *
      replace p0 := p0.all hb2
      replace p1 := p1.all hb2
      replace p2 := p2.all hb2
      replace hb1 := below_all hb1 hb2
      clear hb2
      obtain ⟨c0, c1, c2⟩ := p2.three
      have f0 := p2.frozen 0
      have f1 := p2.frozen 1
      have f2 := p2.frozen 2
      have PP := Lib.hid (And.intro p0 (And.intro p1 (And.intro p2 hb1)))
      clear p0 p1 p2 hb1
      go_wp2
      obtain ⟨p0, p1, p2, hb1⟩ := PP.out
      go_roundg (l.length - (k + 1))
      case measure => have := HG.out; omega
      case rel =>
        refine ⟨k + 1, by omega, rfl, by go_num, ?_, ?_, ?_, ?_⟩
        · exact below_set (below_set (below_set hb1 (by omega) _) (by omega) _) (by omega) _
        · exact ((p0.set_ne (by omega) _ _).set_ne (by omega) _ _).set_ne (by omega) _ _
        · exact ((p1.set_ne (by omega) _ _).set_ne (by omega) _ _).set_ne (by omega) _ _
        · rw [sumTo_succ CV.l0 HK.out, sumTo_succ CV.l1 HK.out, sumTo_succ CV.l2 HK.out]
          exact ((p2.set 0 _).set 1 _).set 2 _
    · obtain ⟨c0, c1, c2⟩ := o2.three
      obtain ⟨d0, d1, d2⟩ := o1.three
      have f0 := o1.frozen 0
      have f1 := o1.frozen 1
      have f2 := o1.frozen 2
      go_wp2
      have hw3 : Below w.heap.size w ((((wr).setCell ⟨w.heap.size + 1, 0, none⟩ (.int .i64 (sumTo CV.l0 l k))).setCell ⟨w.heap.size + 1, 1, none⟩ (.int .i64 (sumTo CV.l1 l k))).setCell ⟨w.heap.size + 1, 2, none⟩ (.int .i64 (sumTo CV.l2 l k))) := below_set (below_set (below_set hb (by omega) _) (by omega) _) (by omega) _
      have oR := ((o1.set 0 (.int .i64 (sumTo CV.l0 l k))).set 1 (.int .i64 (sumTo CV.l1 l k))).set 2 (.int .i64 (sumTo CV.l2 l k))
      clear c0 c1 c2 d0 d1 d2 f0 f1 f2 hsl o0 o1 o2
      generalize (((wr).setCell ⟨w.heap.size + 1, 0, none⟩ (.int .i64 (sumTo CV.l0 l k))).setCell ⟨w.heap.size + 1, 1, none⟩ (.int .i64 (sumTo CV.l1 l k))).setCell ⟨w.heap.size + 1, 2, none⟩ (.int .i64 (sumTo CV.l2 l k)) = U at *
      rw [sumTo_all CV.l0 l (by omega), sumTo_all CV.l1 l (by omega), sumTo_all CV.l2 l (by omega)] at oR
      obtain ⟨c0, c1, c2⟩ := Own.three oR
      exact bodyPost_ret (v := .agg #[.int .i64 (sumC CV.l0 l), .int .i64 (sumC CV.l1 l), .int .i64 (sumC CV.l2 l)]) (by simp [results, Try.results18, go_sem, c0, c1, c2]) rfl ⟨rfl, hw3⟩
end Go.Proofs.Ytjjkihohmgpgdaa
