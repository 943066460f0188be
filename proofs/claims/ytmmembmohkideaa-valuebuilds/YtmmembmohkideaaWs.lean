/- Contracts of the constructors, and of Get at a field whose value is a leaf. -/
import Derived.Test.YtmmembmohkideaaWr
namespace Go.Proofs.Ytmmembmohkideaa
open Go.RowKit Go.Sort Go.Proofs.LawFrame

set_option maxHeartbeats 400000 in
theorem int_any (n : Int) (w : World) : Calls Try.prog 25 #[.int .i64 n] w fun e w' => e = .returned (.agg #[.int .i64 2, .int .i64 n, .string ⟨#[]⟩, .slice none 0 0, .slice none 0 0]) ∧ Below w.heap.size w w' := by
  go_enter Try.func25, Try.ntmps25
  go_wp2
  have hb : Below w.heap.size w (w.alloc (.cells #[.int .i64 2, .int .i64 n, .string ⟨#[]⟩, .slice none 0 0, .slice none 0 0] 25)) := (Below.refl _ _).alloc (Nat.le_refl _) _
  have oR : Own (w.alloc (.cells #[.int .i64 2, .int .i64 n, .string ⟨#[]⟩, .slice none 0 0, .slice none 0 0] 25)) w.heap.size [.int .i64 2, .int .i64 n, .string ⟨#[]⟩, .slice none 0 0, .slice none 0 0] 25 := Own.new _ _ _
  change bodyPost Try.prog Try.f25 _ _ _ (w.alloc (.cells #[.int .i64 2, .int .i64 n, .string ⟨#[]⟩, .slice none 0 0, .slice none 0 0] 25))
  generalize w.alloc (.cells #[.int .i64 2, .int .i64 n, .string ⟨#[]⟩, .slice none 0 0, .slice none 0 0] 25) = U at *
  have c0 := oR.cell (i := 0) rfl
  have c1 := oR.cell (i := 1) rfl
  have c2 := oR.cell (i := 2) rfl
  have c3 := oR.cell (i := 3) rfl
  have c4 := oR.cell (i := 4) rfl
  exact bodyPost_ret (v := .agg #[.int .i64 2, .int .i64 n, .string ⟨#[]⟩, .slice none 0 0, .slice none 0 0]) (by simp [results, Try.results25, go_sem, c0, c1, c2, c3, c4]) rfl ⟨rfl, hb⟩

set_option maxHeartbeats 400000 in
theorem string_any (s : Str) (w : World) : Calls Try.prog 27 #[sV s] w fun e w' => e = .returned (.agg #[.int .i64 3, .int .i64 0, sV s, .slice none 0 0, .slice none 0 0]) ∧ Below w.heap.size w w' := by
  go_enter Try.func27, Try.ntmps27
  go_wp2
  have hb : Below w.heap.size w (w.alloc (.cells #[.int .i64 3, .int .i64 0, sV s, .slice none 0 0, .slice none 0 0] 25)) := (Below.refl _ _).alloc (Nat.le_refl _) _
  have oR : Own (w.alloc (.cells #[.int .i64 3, .int .i64 0, sV s, .slice none 0 0, .slice none 0 0] 25)) w.heap.size [.int .i64 3, .int .i64 0, sV s, .slice none 0 0, .slice none 0 0] 25 := Own.new _ _ _
  change bodyPost Try.prog Try.f27 _ _ _ (w.alloc (.cells #[.int .i64 3, .int .i64 0, sV s, .slice none 0 0, .slice none 0 0] 25))
  generalize w.alloc (.cells #[.int .i64 3, .int .i64 0, sV s, .slice none 0 0, .slice none 0 0] 25) = U at *
  have c0 := oR.cell (i := 0) rfl
  have c1 := oR.cell (i := 1) rfl
  have c2 := oR.cell (i := 2) rfl
  have c3 := oR.cell (i := 3) rfl
  have c4 := oR.cell (i := 4) rfl
  exact bodyPost_ret (v := .agg #[.int .i64 3, .int .i64 0, sV s, .slice none 0 0, .slice none 0 0]) (by simp [results, Try.results27, go_sem, c0, c1, c2, c3, c4]) rfl ⟨rfl, hb⟩

set_option maxHeartbeats 400000 in
theorem null_any  (w : World) : Calls Try.prog 38 #[] w fun e w' => e = .returned (.agg #[.int .i64 0, .int .i64 0, .string ⟨#[]⟩, .slice none 0 0, .slice none 0 0]) ∧ Below w.heap.size w w' := by
  go_enter Try.func38, Try.ntmps38
  go_wp2
  have hb : Below w.heap.size w (w.alloc (.cells #[.int .i64 0, .int .i64 0, .string ⟨#[]⟩, .slice none 0 0, .slice none 0 0] 25)) := (Below.refl _ _).alloc (Nat.le_refl _) _
  have oR : Own (w.alloc (.cells #[.int .i64 0, .int .i64 0, .string ⟨#[]⟩, .slice none 0 0, .slice none 0 0] 25)) w.heap.size [.int .i64 0, .int .i64 0, .string ⟨#[]⟩, .slice none 0 0, .slice none 0 0] 25 := Own.new _ _ _
  change bodyPost Try.prog Try.f38 _ _ _ (w.alloc (.cells #[.int .i64 0, .int .i64 0, .string ⟨#[]⟩, .slice none 0 0, .slice none 0 0] 25))
  generalize w.alloc (.cells #[.int .i64 0, .int .i64 0, .string ⟨#[]⟩, .slice none 0 0, .slice none 0 0] 25) = U at *
  have c0 := oR.cell (i := 0) rfl
  have c1 := oR.cell (i := 1) rfl
  have c2 := oR.cell (i := 2) rfl
  have c3 := oR.cell (i := 3) rfl
  have c4 := oR.cell (i := 4) rfl
  exact bodyPost_ret (v := .agg #[.int .i64 0, .int .i64 0, .string ⟨#[]⟩, .slice none 0 0, .slice none 0 0]) (by simp [results, Try.results38, go_sem, c0, c1, c2, c3, c4]) rfl ⟨rfl, hb⟩

set_option maxHeartbeats 400000 in
theorem true_any  (w : World) : Calls Try.prog 29 #[.bool true] w fun e w' => e = .returned (.agg #[.int .i64 1, .int .i64 1, .string ⟨#[]⟩, .slice none 0 0, .slice none 0 0]) ∧ Below w.heap.size w w' := by
  go_enter Try.func29, Try.ntmps29
  go_wp2
  have hb : Below w.heap.size w (w.alloc (.cells #[.int .i64 1, .int .i64 1, .string ⟨#[]⟩, .slice none 0 0, .slice none 0 0] 25)) := (Below.refl _ _).alloc (Nat.le_refl _) _
  have oR : Own (w.alloc (.cells #[.int .i64 1, .int .i64 1, .string ⟨#[]⟩, .slice none 0 0, .slice none 0 0] 25)) w.heap.size [.int .i64 1, .int .i64 1, .string ⟨#[]⟩, .slice none 0 0, .slice none 0 0] 25 := Own.new _ _ _
  change bodyPost Try.prog Try.f29 _ _ _ (w.alloc (.cells #[.int .i64 1, .int .i64 1, .string ⟨#[]⟩, .slice none 0 0, .slice none 0 0] 25))
  generalize w.alloc (.cells #[.int .i64 1, .int .i64 1, .string ⟨#[]⟩, .slice none 0 0, .slice none 0 0] 25) = U at *
  have c0 := oR.cell (i := 0) rfl
  have c1 := oR.cell (i := 1) rfl
  have c2 := oR.cell (i := 2) rfl
  have c3 := oR.cell (i := 3) rfl
  have c4 := oR.cell (i := 4) rfl
  exact bodyPost_ret (v := .agg #[.int .i64 1, .int .i64 1, .string ⟨#[]⟩, .slice none 0 0, .slice none 0 0]) (by simp [results, Try.results29, go_sem, c0, c1, c2, c3, c4]) rfl ⟨rfl, hb⟩

set_option maxHeartbeats 2000000 in
theorem get_leaf (nm : Str) (fa : Option Addr) (fc : Nat) (ds : List FC) (w : World) (hv : Flat w (.slice fa ds.length fc) ds.length (ds.flatMap FC.cells)) (i : Nat) (c : FC) (hi : ds[i]? = some c) (hc : (c.x == nm) = true) (hpre : ∀ (j : Nat) (d : FC), j < i → ds[j]? = some d → (d.x == nm) = false) (hln : c.v.ln = 0) (hfn : c.v.fn = 0) :
    Calls Try.prog 31 #[.agg #[.int .i64 5, .int .i64 0, .string ⟨#[]⟩, .slice none 0 0, .slice fa ds.length fc], sV nm] w fun e w' => e = .returned (.tuple #[.agg #[.int .i64 c.v.k, .int .i64 c.v.n, sV c.v.s, .slice none 0 0, .slice none 0 0], .bool true]) ∧ Below w.heap.size w w' := by
  have hil := (List.getElem?_eq_some_iff.1 hi).1
  obtain ⟨fa', fc', he, hlc, hlm, hr⟩ := hv.out
  cases he
  obtain ⟨b, off, rfl, hbl, hcell⟩ := hr (by omega)
  unfold maxLen at hlm
  have o0 : Own ((w.alloc (.cells #[.int .i64 5, .int .i64 0, .string ⟨#[]⟩, .slice none 0 0, .slice (some ⟨b, off, none⟩) ds.length fc] 25)).alloc (.cells #[.int .i64 0, .int .i64 0, .string ⟨#[]⟩, .slice none 0 0, .slice none 0 0] 25)) w.heap.size [.int .i64 5, .int .i64 0, .string ⟨#[]⟩, .slice none 0 0, .slice (some ⟨b, off, none⟩) ds.length fc] 25 := (Own.new _ _ _).alloc _
  have oR : Own ((w.alloc (.cells #[.int .i64 5, .int .i64 0, .string ⟨#[]⟩, .slice none 0 0, .slice (some ⟨b, off, none⟩) ds.length fc] 25)).alloc (.cells #[.int .i64 0, .int .i64 0, .string ⟨#[]⟩, .slice none 0 0, .slice none 0 0] 25)) (w.heap.size + 1) [.int .i64 0, .int .i64 0, .string ⟨#[]⟩, .slice none 0 0, .slice none 0 0] 25 := Own.new_at (by rw [size_alloc]) _ _
  have hw0 : Below w.heap.size w ((w.alloc (.cells #[.int .i64 5, .int .i64 0, .string ⟨#[]⟩, .slice none 0 0, .slice (some ⟨b, off, none⟩) ds.length fc] 25)).alloc (.cells #[.int .i64 0, .int .i64 0, .string ⟨#[]⟩, .slice none 0 0, .slice none 0 0] 25)) := ((Below.refl _ _).alloc (Nat.le_refl _) _).alloc (by simp) _
  have HP := Lib.hid hpre
  have HI := Lib.hid hi
  have HC := Lib.hid hc
  clear hpre hi hc
  go_enter Try.func31, Try.ntmps31
  go_wp2
  generalize (w.alloc (.cells #[.int .i64 5, .int .i64 0, .string ⟨#[]⟩, .slice none 0 0, .slice (some ⟨b, off, none⟩) ds.length fc] 25)).alloc (.cells #[.int .i64 0, .int .i64 0, .string ⟨#[]⟩, .slice none 0 0, .slice none 0 0] 25) = W at *
  have R0 := Lib.hid (And.intro hw0 oR)
  clear hw0 o0 oR
  go_loopg [15] ds.length (fun g s wr => ∃ k : Nat, k ≤ i ∧ g = ds.length - k ∧ s = .int .i64 k ∧ Below w.heap.size w wr ∧ Own wr (w.heap.size + 1) [.int .i64 0, .int .i64 0, .string ⟨#[]⟩, .slice none 0 0, .slice none 0 0] 25)
  case atStart => exact ⟨0, Nat.zero_le _, rfl, rfl, R0.out.1, R0.out.2⟩
  case round =>
    obtain ⟨k, hk, hg, rfl, hb, oR⟩ := hrel
    have HG := Lib.hid hg
    clear hg R0
    have hlt : k < ds.length := by omega
    have hx := List.getElem?_eq_getElem hlt
    generalize ds[k] = d at hx
    have hcc : ∀ j x, d.cells[j]? = some x → wr.cell? ⟨b, off + k * 6 + j, none⟩ = some x := fun j x hxj => by
      have hj : j < 6 := (List.getElem?_eq_some_iff.1 hxj).1
      rw [hb.cell (p := ⟨b, off + k * 6 + j, none⟩) hbl, Nat.add_assoc]
      exact hcell (k * 6 + j) x (by rw [flat_get FC.cells (m := 6) (fun _ => rfl) ds k j d hx hj]; exact hxj)
    have q : wr.cell? ⟨b, off + k * 6, none⟩ = some (sV d.x) := hcc 0 _ rfl
    have q0 : wr.cell? ⟨b, off + k * 6 + 1, none⟩ = some (.int .i64 d.v.k) := hcc 1 _ rfl
    have q1 : wr.cell? ⟨b, off + k * 6 + 2, none⟩ = some (.int .i64 d.v.n) := hcc 2 _ rfl
    have q2 : wr.cell? ⟨b, off + k * 6 + 3, none⟩ = some (sV d.v.s) := hcc 3 _ rfl
    have q3 : wr.cell? ⟨b, off + k * 6 + 4, none⟩ = some (.slice d.v.la d.v.ln d.v.lc) := hcc 4 _ rfl
    have q4 : wr.cell? ⟨b, off + k * 6 + 5, none⟩ = some (.slice d.v.fa d.v.fn d.v.fc) := hcc 5 _ rfl
    have hbb := hb.alloc hb.size (.cells #[sV d.x, .int .i64 d.v.k, .int .i64 d.v.n, sV d.v.s, .slice d.v.la d.v.ln d.v.lc, .slice d.v.fa d.v.fn d.v.fc] 35)
    have oo := oR.alloc (.cells #[sV d.x, .int .i64 d.v.k, .int .i64 d.v.n, sV d.v.s, .slice d.v.la d.v.ln d.v.lc, .slice d.v.fa d.v.fn d.v.fc] 35)
    have HX := Lib.hid hx
    clear hcc hx
    by_cases hki : k = i
    · subst hki
      have hdc : d = c := by have := HX.out.symm.trans HI.out; simpa using this
      subst hdc
      have hq : (d.x == nm) = true := HC.out
      rw [hln] at q3
      rw [hfn] at q4
      rw [hln, hfn] at hbb oo
      have HH := Lib.hid (And.intro hbb oo)
      clear hbb oo hb oR HG
      go_wp2_with fail
      refine (copyValue_leaf _ _ _ _ _ _ _ _).mono ?_
      rintro e w2 ⟨rfl, hb2⟩
      have o2 := HH.out.2.all hb2
      have hbE := below_all HH.out.1 hb2
      have f0 := o2.frozen 0
      have f1 := o2.frozen 1
      have f2 := o2.frozen 2
      have f3 := o2.frozen 3
      have f4 := o2.frozen 4
      have r0 : w2.cell? ⟨w.heap.size + 1, 0, none⟩ = some (.int .i64 0) := o2.cell rfl
      have r1 : w2.cell? ⟨w.heap.size + 1, 1, none⟩ = some (.int .i64 0) := o2.cell rfl
      have r2 : w2.cell? ⟨w.heap.size + 1, 2, none⟩ = some (.string ⟨#[]⟩) := o2.cell rfl
      have r3 : w2.cell? ⟨w.heap.size + 1, 3, none⟩ = some (.slice none 0 0) := o2.cell rfl
      have r4 : w2.cell? ⟨w.heap.size + 1, 4, none⟩ = some (.slice none 0 0) := o2.cell rfl
      have HO := Lib.hid (And.intro hbE o2)
      clear hbE o2 hb2 q q0 q1 q2 q3 q4
      go_wp2
      obtain ⟨hbE, o2⟩ := HO.out
      have oS := ((((o2.set 0 (.int .i64 d.v.k)).set 1 (.int .i64 d.v.n)).set 2 (sV d.v.s)).set 3 (.slice none 0 0)).set 4 (.slice none 0 0)
      have hbS := below_set (below_set (below_set (below_set (below_set hbE (by omega : w.heap.size ≤ w.heap.size + 1) (i := 0) (.int .i64 d.v.k)) (by omega : w.heap.size ≤ w.heap.size + 1) (i := 1) (.int .i64 d.v.n)) (by omega : w.heap.size ≤ w.heap.size + 1) (i := 2) (sV d.v.s)) (by omega : w.heap.size ≤ w.heap.size + 1) (i := 3) (.slice none 0 0)) (by omega : w.heap.size ≤ w.heap.size + 1) (i := 4) (.slice none 0 0)
      clear r0 r1 r2 r3 r4 f0 f1 f2 f3 f4 hbE o2 HO
      change bodyPost Try.prog Try.f31 _ _ _ (((((w2.setCell ⟨w.heap.size + 1, 0, none⟩ (.int .i64 d.v.k)).setCell ⟨w.heap.size + 1, 1, none⟩ (.int .i64 d.v.n)).setCell ⟨w.heap.size + 1, 2, none⟩ (sV d.v.s)).setCell ⟨w.heap.size + 1, 3, none⟩ (.slice none 0 0)).setCell ⟨w.heap.size + 1, 4, none⟩ (.slice none 0 0))
      generalize ((((w2.setCell ⟨w.heap.size + 1, 0, none⟩ (.int .i64 d.v.k)).setCell ⟨w.heap.size + 1, 1, none⟩ (.int .i64 d.v.n)).setCell ⟨w.heap.size + 1, 2, none⟩ (sV d.v.s)).setCell ⟨w.heap.size + 1, 3, none⟩ (.slice none 0 0)).setCell ⟨w.heap.size + 1, 4, none⟩ (.slice none 0 0) = U at *
      have c0 : U.cell? ⟨w.heap.size + 1, 0, none⟩ = some (.int .i64 d.v.k) := oS.cell rfl
      have c1 : U.cell? ⟨w.heap.size + 1, 1, none⟩ = some (.int .i64 d.v.n) := oS.cell rfl
      have c2 : U.cell? ⟨w.heap.size + 1, 2, none⟩ = some (sV d.v.s) := oS.cell rfl
      have c3 : U.cell? ⟨w.heap.size + 1, 3, none⟩ = some (.slice none 0 0) := oS.cell rfl
      have c4 : U.cell? ⟨w.heap.size + 1, 4, none⟩ = some (.slice none 0 0) := oS.cell rfl
      exact bodyPost_ret (v := .tuple #[.agg #[.int .i64 d.v.k, .int .i64 d.v.n, sV d.v.s, .slice none 0 0, .slice none 0 0], .bool true]) (by simp [results, Try.results31, go_sem, c0, c1, c2, c3, c4]) rfl ⟨rfl, hbS⟩
    · have hq : (d.x == nm) = false := HP.out k d (by omega) HX.out
      have HH := Lib.hid (And.intro hbb oo)
      clear hbb oo hb oR
      go_wp2
      go_roundg (ds.length - (k + 1))
      case measure => have := HG.out; omega
      case rel => exact ⟨k + 1, by omega, rfl, by go_num, HH.out.1, HH.out.2⟩
end Go.Proofs.Ytmmembmohkideaa
