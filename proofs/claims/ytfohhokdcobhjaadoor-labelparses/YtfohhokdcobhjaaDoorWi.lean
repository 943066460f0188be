/- Contracts of holds and Matches and of the reference's. -/
import Derived.Test.YtfohhokdcobhjaaDoorWh
namespace Go.Proofs.YtfohhokdcobhjaaDoor
open Go.RowKit Go.Sort Go.Proofs.LawFrame

def holdsR (r : Req) (l : List Lab) : Bool :=
  if r.op = 1 then getB l r.key && hasS r.vals (getV l r.key) else if r.op = 2 then !getB l r.key || !hasS r.vals (getV l r.key)
  else if r.op = 3 then getB l r.key else if r.op = 4 then !getB l r.key else false
theorem holdsR_1 (key : Str) (vals : List Str) (l : List Lab) : holdsR ⟨key, 1, vals⟩ l = (getB l key && hasS vals (getV l key)) := rfl
theorem holdsR_2 (key : Str) (vals : List Str) (l : List Lab) : holdsR ⟨key, 2, vals⟩ l = (!getB l key || !hasS vals (getV l key)) := rfl
theorem holdsR_3 (key : Str) (vals : List Str) (l : List Lab) : holdsR ⟨key, 3, vals⟩ l = getB l key := rfl
theorem holdsR_4 (key : Str) (vals : List Str) (l : List Lab) : holdsR ⟨key, 4, vals⟩ l = !getB l key := rfl
theorem holdsR_no (key : Str) {op : Int} (vals : List Str) (l : List Lab) (h1 : ¬ op = 1) (h2 : ¬ op = 2) (h3 : ¬ op = 3) (h4 : ¬ op = 4) : holdsR ⟨key, op, vals⟩ l = false := by
  unfold holdsR; rw [if_neg h1, if_neg h2, if_neg h3, if_neg h4]
def matchesS (s : List Req) (l : List Lab) : Bool := s.all fun r => holdsR r l

set_option maxHeartbeats 1000000 in
theorem holds_any (ao : Option Addr) (n cap : Nat) (r : Req) (v : Value) (l : List Lab) (w : World) (hv : Strs w (.slice ao n cap) r.vals) (hl : Labs w v l) :
    Calls Tryd.prog 41 #[.agg #[sV r.key, .int .i64 r.op, .slice ao n cap], v] w fun e w' => e = .returned (.bool (holdsR r l)) ∧ Below w.heap.size w w' := by
  obtain ⟨key, op, vals⟩ := r
  obtain ⟨ao', cap', he, hlc, hcap, -⟩ := hv.out
  cases he
  unfold maxLen at hcap
  simp only at hlc
  by_cases h1 : op = 1
  · subst h1
    cases hB : getB l key
    all_goals
      go_enter Tryd.func41, Tryd.ntmps41
      go_wp2_with (first | (go_at_call 17; refine (get_any _ _ _ _ (hl.all (below_alloc _ _))).mono ?_; rintro e w2 ⟨rfl, hb2⟩; have o2 := (Own.new w [sV key, .int .i64 1, .slice ao vals.length cap] 43).all hb2; have c1 := o2.cell (i := 1) rfl; have c2 := o2.cell (i := 2) rfl; have hvs := hv.all (below_all (below_alloc w (.cells #[sV key, .int .i64 1, .slice ao vals.length cap] 43)) hb2)) | (go_at_call 59; refine (contains_any _ _ _ _ hvs).mono ?_; rintro e w3 ⟨rfl, rfl⟩))
      go_ret
      exact ⟨ret_bool (by first | (rw [holdsR_1, hB]; done) | (rw [holdsR_1, hB]; rfl)), below_all (below_alloc _ _) hb2⟩
  by_cases h2 : op = 2
  · subst h2
    cases hB : getB l key
    all_goals
      go_enter Tryd.func41, Tryd.ntmps41
      go_wp2_with (first | (go_at_call 17; refine (get_any _ _ _ _ (hl.all (below_alloc _ _))).mono ?_; rintro e w2 ⟨rfl, hb2⟩; have o2 := (Own.new w [sV key, .int .i64 2, .slice ao vals.length cap] 43).all hb2; have c1 := o2.cell (i := 1) rfl; have c2 := o2.cell (i := 2) rfl; have hvs := hv.all (below_all (below_alloc w (.cells #[sV key, .int .i64 2, .slice ao vals.length cap] 43)) hb2)) | (go_at_call 59; refine (contains_any _ _ _ _ hvs).mono ?_; rintro e w3 ⟨rfl, rfl⟩))
      go_ret
      exact ⟨ret_bool (by first | (rw [holdsR_2, hB]; done) | (rw [holdsR_2, hB]; rfl)), below_all (below_alloc _ _) hb2⟩
  by_cases h3 : op = 3
  · subst h3
    cases hB : getB l key
    all_goals
      go_enter Tryd.func41, Tryd.ntmps41
      go_wp2_with (first | (go_at_call 17; refine (get_any _ _ _ _ (hl.all (below_alloc _ _))).mono ?_; rintro e w2 ⟨rfl, hb2⟩; have o2 := (Own.new w [sV key, .int .i64 3, .slice ao vals.length cap] 43).all hb2; have c1 := o2.cell (i := 1) rfl; have c2 := o2.cell (i := 2) rfl; have hvs := hv.all (below_all (below_alloc w (.cells #[sV key, .int .i64 3, .slice ao vals.length cap] 43)) hb2)) | (go_at_call 59; refine (contains_any _ _ _ _ hvs).mono ?_; rintro e w3 ⟨rfl, rfl⟩))
      go_ret
      exact ⟨ret_bool (by first | (rw [holdsR_3, hB]; done) | (rw [holdsR_3, hB]; rfl)), below_all (below_alloc _ _) hb2⟩
  by_cases h4 : op = 4
  · subst h4
    cases hB : getB l key
    all_goals
      go_enter Tryd.func41, Tryd.ntmps41
      go_wp2_with (first | (go_at_call 17; refine (get_any _ _ _ _ (hl.all (below_alloc _ _))).mono ?_; rintro e w2 ⟨rfl, hb2⟩; have o2 := (Own.new w [sV key, .int .i64 4, .slice ao vals.length cap] 43).all hb2; have c1 := o2.cell (i := 1) rfl; have c2 := o2.cell (i := 2) rfl; have hvs := hv.all (below_all (below_alloc w (.cells #[sV key, .int .i64 4, .slice ao vals.length cap] 43)) hb2)) | (go_at_call 59; refine (contains_any _ _ _ _ hvs).mono ?_; rintro e w3 ⟨rfl, rfl⟩))
      go_ret
      exact ⟨ret_bool (by first | (rw [holdsR_4, hB]; done) | (rw [holdsR_4, hB]; rfl)), below_all (below_alloc _ _) hb2⟩
  have HN := Lib.hid (holdsR_no key vals l h1 h2 h3 h4)
  have q1 : (op == 1) = false := by simpa using h1
  have q2 : (op == 2) = false := by simpa using h2
  have q3 : (op == 3) = false := by simpa using h3
  have q4 : (op == 4) = false := by simpa using h4
  clear h1 h2 h3 h4
  go_enter Tryd.func41, Tryd.ntmps41
  go_wp2_with (first | (go_at_call 17; refine (get_any _ _ _ _ (hl.all (below_alloc _ _))).mono ?_; rintro e w2 ⟨rfl, hb2⟩; have o2 := (Own.new w [sV key, .int .i64 op, .slice ao vals.length cap] 43).all hb2; have c1 := o2.cell (i := 1) rfl; have c2 := o2.cell (i := 2) rfl; have hvs := hv.all (below_all (below_alloc w (.cells #[sV key, .int .i64 op, .slice ao vals.length cap] 43)) hb2)) | (go_at_call 59; refine (contains_any _ _ _ _ hvs).mono ?_; rintro e w3 ⟨rfl, rfl⟩))
  go_ret
  exact ⟨ret_bool HN.out.symm, below_all (below_alloc _ _) hb2⟩

set_option maxHeartbeats 1000000 in
theorem rholds_any (ao : Option Addr) (n cap : Nat) (r : Req) (v : Value) (l : List Lab) (w : World) (hv : Strs w (.slice ao n cap) r.vals) (hl : Labs w v l) :
    Calls Tryd.prog 42 #[.agg #[sV r.key, .int .i64 r.op, .slice ao n cap], v] w fun e w' => e = .returned (.bool (holdsR r l)) ∧ Below w.heap.size w w' := by
  obtain ⟨key, op, vals⟩ := r
  obtain ⟨ao', cap', he, hlc, hcap, -⟩ := hv.out
  cases he
  unfold maxLen at hcap
  simp only at hlc
  by_cases h1 : op = 1
  · subst h1
    cases hB : getB l key
    all_goals
      go_enter Tryd.func42, Tryd.ntmps42
      go_wp2_with (first | (go_at_call 18; refine (rget_any _ _ _ _ (hl.all (below_alloc _ _))).mono ?_; rintro e w2 ⟨rfl, hb2⟩; have o2 := (Own.new w [sV key, .int .i64 1, .slice ao vals.length cap] 43).all hb2; have c1 := o2.cell (i := 1) rfl; have c2 := o2.cell (i := 2) rfl; have hvs := hv.all (below_all (below_alloc w (.cells #[sV key, .int .i64 1, .slice ao vals.length cap] 43)) hb2)) | (go_at_call 60; refine (among_any _ _ _ _ hvs).mono ?_; rintro e w3 ⟨rfl, rfl⟩))
      go_ret
      exact ⟨ret_bool (by first | (rw [holdsR_1, hB]; done) | (rw [holdsR_1, hB]; rfl)), below_all (below_alloc _ _) hb2⟩
  by_cases h2 : op = 2
  · subst h2
    cases hB : getB l key
    all_goals
      go_enter Tryd.func42, Tryd.ntmps42
      go_wp2_with (first | (go_at_call 18; refine (rget_any _ _ _ _ (hl.all (below_alloc _ _))).mono ?_; rintro e w2 ⟨rfl, hb2⟩; have o2 := (Own.new w [sV key, .int .i64 2, .slice ao vals.length cap] 43).all hb2; have c1 := o2.cell (i := 1) rfl; have c2 := o2.cell (i := 2) rfl; have hvs := hv.all (below_all (below_alloc w (.cells #[sV key, .int .i64 2, .slice ao vals.length cap] 43)) hb2)) | (go_at_call 60; refine (among_any _ _ _ _ hvs).mono ?_; rintro e w3 ⟨rfl, rfl⟩))
      go_ret
      exact ⟨ret_bool (by first | (rw [holdsR_2, hB]; done) | (rw [holdsR_2, hB]; rfl)), below_all (below_alloc _ _) hb2⟩
  by_cases h3 : op = 3
  · subst h3
    cases hB : getB l key
    all_goals
      go_enter Tryd.func42, Tryd.ntmps42
      go_wp2_with (first | (go_at_call 18; refine (rget_any _ _ _ _ (hl.all (below_alloc _ _))).mono ?_; rintro e w2 ⟨rfl, hb2⟩; have o2 := (Own.new w [sV key, .int .i64 3, .slice ao vals.length cap] 43).all hb2; have c1 := o2.cell (i := 1) rfl; have c2 := o2.cell (i := 2) rfl; have hvs := hv.all (below_all (below_alloc w (.cells #[sV key, .int .i64 3, .slice ao vals.length cap] 43)) hb2)) | (go_at_call 60; refine (among_any _ _ _ _ hvs).mono ?_; rintro e w3 ⟨rfl, rfl⟩))
      go_ret
      exact ⟨ret_bool (by first | (rw [holdsR_3, hB]; done) | (rw [holdsR_3, hB]; rfl)), below_all (below_alloc _ _) hb2⟩
  by_cases h4 : op = 4
  · subst h4
    cases hB : getB l key
    all_goals
      go_enter Tryd.func42, Tryd.ntmps42
      go_wp2_with (first | (go_at_call 18; refine (rget_any _ _ _ _ (hl.all (below_alloc _ _))).mono ?_; rintro e w2 ⟨rfl, hb2⟩; have o2 := (Own.new w [sV key, .int .i64 4, .slice ao vals.length cap] 43).all hb2; have c1 := o2.cell (i := 1) rfl; have c2 := o2.cell (i := 2) rfl; have hvs := hv.all (below_all (below_alloc w (.cells #[sV key, .int .i64 4, .slice ao vals.length cap] 43)) hb2)) | (go_at_call 60; refine (among_any _ _ _ _ hvs).mono ?_; rintro e w3 ⟨rfl, rfl⟩))
      go_ret
      exact ⟨ret_bool (by first | (rw [holdsR_4, hB]; done) | (rw [holdsR_4, hB]; rfl)), below_all (below_alloc _ _) hb2⟩
  have HN := Lib.hid (holdsR_no key vals l h1 h2 h3 h4)
  have q1 : (op == 1) = false := by simpa using h1
  have q2 : (op == 2) = false := by simpa using h2
  have q3 : (op == 3) = false := by simpa using h3
  have q4 : (op == 4) = false := by simpa using h4
  clear h1 h2 h3 h4
  go_enter Tryd.func42, Tryd.ntmps42
  go_wp2_with (first | (go_at_call 18; refine (rget_any _ _ _ _ (hl.all (below_alloc _ _))).mono ?_; rintro e w2 ⟨rfl, hb2⟩; have o2 := (Own.new w [sV key, .int .i64 op, .slice ao vals.length cap] 43).all hb2; have c1 := o2.cell (i := 1) rfl; have c2 := o2.cell (i := 2) rfl; have hvs := hv.all (below_all (below_alloc w (.cells #[sV key, .int .i64 op, .slice ao vals.length cap] 43)) hb2)) | (go_at_call 60; refine (among_any _ _ _ _ hvs).mono ?_; rintro e w3 ⟨rfl, rfl⟩))
  go_ret
  exact ⟨ret_bool HN.out.symm, below_all (below_alloc _ _) hb2⟩

set_option maxHeartbeats 1000000 in
theorem matches_any (v lv : Value) (s : List Req) (l : List Lab) (w : World) (hv : Reqs w v s) (hl : Labs w lv l) :
    Calls Tryd.prog 22 #[v, lv] w fun e w' => e = .returned (.bool (matchesS s l)) ∧ Below w.heap.size w w' := by
  obtain ⟨ao, cap, rfl, hlc, hcap⟩ := hv.slice
  unfold maxLen at hcap
  go_enter Tryd.func22, Tryd.ntmps22
  go_wp2
  go_loopg [9] s.length (fun g i wr => ∃ k : Nat, k ≤ s.length ∧ g = s.length - k ∧ i = .int .i64 k ∧ Hid (PreA (fun r => holdsR r l) s k) ∧ Below w.heap.size w wr)
  case atStart => exact ⟨0, Nat.zero_le _, rfl, rfl, Lib.hid (PreA.zero _), Below.refl _ _⟩
  case round =>
    obtain ⟨k, hk, hg, rfl, HC, hb⟩ := hrel
    have HG := Lib.hid hg
    clear hg
    by_cases hlt : k < s.length
    · have hx := get_some hlt
      generalize s[k] = x at hx
      obtain ⟨b, off, c, rfl, hi, c0, c1, c2⟩ := hv.at hb hx
      have HX := Lib.hid hx
      clear hx
      cases hok : holdsR x l
      · go_wp2_with (go_at_call 41; refine (holds_any _ _ _ _ _ _ _ (hi.vals.all (below_alloc _ _)) (hl.all (below_all hb (below_alloc _ _)))).mono ?_; rintro e w' ⟨rfl, hb2⟩)
        go_ret
        exact ⟨ret_bool (by unfold matchesS; rw [all_bad HX.out hok]), below_all (below_all hb (below_alloc _ _)) hb2⟩
      · go_wp2_with (go_at_call 41; refine (holds_any _ _ _ _ _ _ _ (hi.vals.all (below_alloc _ _)) (hl.all (below_all hb (below_alloc _ _)))).mono ?_; rintro e w' ⟨rfl, hb2⟩)
        go_roundg (s.length - (k + 1))
        case measure => have := HG.out; omega
        case rel => exact ⟨k + 1, by omega, rfl, by go_num, Lib.hid (HC.out.succ HX.out hok), below_all (below_all hb (below_alloc _ _)) hb2⟩
    · obtain rfl : k = s.length := by omega
      go_wp2
      go_ret
      exact ⟨ret_bool (by unfold matchesS; rw [HC.out.all]), hb⟩

set_option maxHeartbeats 1000000 in
theorem rmatches_any (v lv : Value) (s : List Req) (l : List Lab) (w : World) (hv : Reqs w v s) (hl : Labs w lv l) :
    Calls Tryd.prog 23 #[v, lv] w fun e w' => e = .returned (.bool (matchesS s l)) ∧ Below w.heap.size w w' := by
  obtain ⟨ao, cap, rfl, hlc, hcap⟩ := hv.slice
  unfold maxLen at hcap
  go_enter Tryd.func23, Tryd.ntmps23
  go_wp2
  go_loopg [5] s.length (fun g i wr => ∃ k : Nat, k ≤ s.length ∧ g = s.length - k ∧ i = .int .i64 k ∧ Hid (PreA (fun r => holdsR r l) s k) ∧ Below w.heap.size w wr)
  case atStart => exact ⟨0, Nat.zero_le _, rfl, rfl, Lib.hid (PreA.zero _), Below.refl _ _⟩
  case round =>
    obtain ⟨k, hk, hg, rfl, HC, hb⟩ := hrel
    have HG := Lib.hid hg
    clear hg
    by_cases hlt : k < s.length
    · have hx := get_some hlt
      generalize s[k] = x at hx
      obtain ⟨b, off, c, rfl, hi, c0, c1, c2⟩ := hv.at hb hx
      have HX := Lib.hid hx
      clear hx
      cases hok : holdsR x l
      · go_wp2_with (go_at_call 42; refine (rholds_any _ _ _ _ _ _ _ (hi.vals) (hl.all hb)).mono ?_; rintro e w' ⟨rfl, hb2⟩)
        go_ret
        exact ⟨ret_bool (by unfold matchesS; rw [all_bad HX.out hok]), below_all hb hb2⟩
      · go_wp2_with (go_at_call 42; refine (rholds_any _ _ _ _ _ _ _ (hi.vals) (hl.all hb)).mono ?_; rintro e w' ⟨rfl, hb2⟩)
        go_roundg (s.length - (k + 1))
        case measure => have := HG.out; omega
        case rel => exact ⟨k + 1, by omega, rfl, by go_num, Lib.hid (HC.out.succ HX.out hok), below_all hb hb2⟩
    · obtain rfl : k = s.length := by omega
      go_wp2
      go_ret
      exact ⟨ret_bool (by unfold matchesS; rw [HC.out.all]), hb⟩
end Go.Proofs.YtfohhokdcobhjaaDoor
