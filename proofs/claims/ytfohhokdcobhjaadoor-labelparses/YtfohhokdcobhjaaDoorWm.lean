/- Contracts of Join and requirementText. -/
import Derived.Test.YtfohhokdcobhjaaDoorMc
import Derived.Test.YtfohhokdcobhjaaDoorRg
namespace Go.Proofs.YtfohhokdcobhjaaDoor
open Go.RowKit Go.Sort Go.Proofs.LawFrame

theorem str_app (l m : Str) : (⟨l.toArray⟩ : ByteArray) ++ ⟨m.toArray⟩ = ⟨(l ++ m).toArray⟩ := by
  apply ByteArray.ext; simp
theorem txt4 (a b c d : Str) : ((⟨a.toArray⟩ : ByteArray) ++ ⟨b.toArray⟩ ++ ⟨c.toArray⟩ ++ ⟨d.toArray⟩) = ⟨(a ++ b ++ c ++ d).toArray⟩ := by
  rw [str_app, str_app, str_app]
theorem ret_s {b : ByteArray} {l : Str} (h : b = ⟨l.toArray⟩) : Ending.returned (.string b) = .returned (.string ⟨l.toArray⟩) := by rw [h]
theorem ret_str {a b : Str} (h : a = b) : Ending.returned (.string ⟨a.toArray⟩) = .returned (.string ⟨b.toArray⟩) := by rw [h]

theorem join_any (v : Value) (l : List Str) (sep : Str) (w : World) (hv : Strs w v l) (hlen : (jn sep l).length ≤ 140737488355328) (hN : l.length ≤ 140737488355328) :
    Calls Tryd.prog 50 #[v, sV sep] w fun e w' => e = .returned (sV (jn sep l)) ∧ Below w.heap.size w w' := by
  obtain ⟨ao, cap, rfl, hlc, hcap, hr⟩ := hv.out
  by_cases h0 : 0 < l.length
  · obtain ⟨b, off, rfl, hb, hc⟩ := hr h0
    have hm : (l.map fun s => (⟨s.toArray⟩ : ByteArray)).map (·.data.toList) = l := by
      rw [List.map_map]; exact (List.map_congr_left (fun _ _ => by simp)).trans (List.map_id l)
    have := Tryd.strings_Join b off cap (l.map fun s => (⟨s.toArray⟩ : ByteArray)) ⟨sep.toArray⟩ w (fun j x hx => by
      rw [List.getElem?_map] at hx
      cases hj : l[j]? with
      | none => rw [hj] at hx; cases hx
      | some y => rw [hj] at hx; cases hx; exact hc j _ (by rw [List.getElem?_map, hj]; rfl)) hb (by simpa using hN) (by simpa using hlc) (by rw [hm, join_eq]; exact hlen)
    rw [hm, List.length_map] at this
    refine this.mono ?_
    rintro e w' ⟨rfl, h⟩
    rw [join_eq]
    exact ⟨rfl, h⟩
  · have : l = [] := List.eq_nil_of_length_eq_zero (by omega)
    subst this
    refine (Tryd.strings_Join_none ao cap ⟨sep.toArray⟩ w).mono ?_
    rintro e w' ⟨rfl, rfl⟩
    exact ⟨rfl, Below.refl _ _⟩

set_option maxHeartbeats 1000000 in
theorem requirementText_any (ao : Option Addr) (n cap : Nat) (r : Req) (w : World) (hv : Strs w (.slice ao n cap) r.vals) (hok : reqOk r = true) :
    Calls Tryd.prog 49 #[.agg #[sV r.key, .int .i64 r.op, .slice ao n cap]] w fun e w' => e = .returned (sV (reqText r)) ∧ Below w.heap.size w w' := by
  have hj := jnv_len hok
  have hvl := (reqOk_vals hok).1
  have hkl := keyOk_le (reqOk_keyOk hok)
  have hop := reqOk_op hok
  obtain ⟨key, op, vals⟩ := r
  obtain ⟨ao', cap', he, hlc, hcap, -⟩ := hv.out
  cases he
  unfold maxLen at hcap
  simp only at hlc hj hvl hkl hop hv
  clear hok
  rcases hop with rfl | rfl | rfl | rfl
  · go_enter Tryd.func49, Tryd.ntmps49
    go_wp2
    have hw0 := below_alloc w (.cells #[sV key, .int .i64 1, .slice ao vals.length cap] 43)
    have o0 := Own.new w [sV key, .int .i64 1, .slice ao vals.length cap] 43
    have hvs := hv.all hw0
    generalize w.alloc (.cells #[sV key, .int .i64 1, .slice ao vals.length cap] 43) = W at *
    have k0 := cell_regrown (o0.cell (i := 0) rfl)
    have k2 := cell_regrown (o0.cell (i := 2) rfl)
    have cJ : ∀ dd os, Calls Tryd.prog 50 #[.slice ao vals.length cap, .string ⟨#[44]⟩] (grow (redrawn W dd) os) fun e w'' => e = .returned (sV (jn [44] vals)) ∧ ∃ p : Regrown, w'' = grow (redrawn W p.d) p.os := fun dd os => Calls.regrown_of (join_any _ _ _ _ (hvs.all (below_regrown W dd os)) (by omega) (by omega))
    clear o0 hvs
    refine wp_region_quiet_below (by kernel_rfl) (by kernel_rfl) ?_
    repeat (first | go_big_quiet_step ((exact cJ _ _)) | quiet_step (exact cJ _ _))
    refine wpQuiet_nil ?_
    intro _ hw'
    obtain ⟨⟨dq, osq⟩, hw''⟩ := hw'
    subst hw''
    go_wp2
    go_ret
    exact ⟨ret_s (txt4 key [32, 105, 110, 32, 40] (jn [44] vals) [41]), below_all hw0 (below_regrown W dq osq)⟩
  · go_enter Tryd.func49, Tryd.ntmps49
    go_wp2
    have hw0 := below_alloc w (.cells #[sV key, .int .i64 2, .slice ao vals.length cap] 43)
    have o0 := Own.new w [sV key, .int .i64 2, .slice ao vals.length cap] 43
    have hvs := hv.all hw0
    generalize w.alloc (.cells #[sV key, .int .i64 2, .slice ao vals.length cap] 43) = W at *
    have k0 := cell_regrown (o0.cell (i := 0) rfl)
    have k2 := cell_regrown (o0.cell (i := 2) rfl)
    have cJ : ∀ dd os, Calls Tryd.prog 50 #[.slice ao vals.length cap, .string ⟨#[44]⟩] (grow (redrawn W dd) os) fun e w'' => e = .returned (sV (jn [44] vals)) ∧ ∃ p : Regrown, w'' = grow (redrawn W p.d) p.os := fun dd os => Calls.regrown_of (join_any _ _ _ _ (hvs.all (below_regrown W dd os)) (by omega) (by omega))
    clear o0 hvs
    refine wp_region_quiet_below (by kernel_rfl) (by kernel_rfl) ?_
    repeat (first | go_big_quiet_step ((exact cJ _ _)) | quiet_step (exact cJ _ _))
    refine wpQuiet_nil ?_
    intro _ hw'
    obtain ⟨⟨dq, osq⟩, hw''⟩ := hw'
    subst hw''
    go_wp2
    go_ret
    exact ⟨ret_s (txt4 key [32, 110, 111, 116, 105, 110, 32, 40] (jn [44] vals) [41]), below_all hw0 (below_regrown W dq osq)⟩
  · go_enter Tryd.func49, Tryd.ntmps49
    go_wp2
    go_ret
    exact ⟨rfl, below_alloc _ _⟩
  · go_enter Tryd.func49, Tryd.ntmps49
    go_wp2
    go_ret
    exact ⟨ret_s (str_app [33] key), below_alloc _ _⟩
end Go.Proofs.YtfohhokdcobhjaaDoor
