/- Contracts of tokenLength and of the reader's advance. -/
import Derived.Test.YtfohhokdcobhjaaDoorMe
import Derived.Test.YtfohhokdcobhjaaDoorRs
import Derived.BigRegion
namespace Go.Proofs.YtfohhokdcobhjaaDoor
open Go.RowKit Go.Sort Go.Proofs.LawFrame

theorem ext_take {l : Str} (k : Nat) : (⟨l.toArray⟩ : ByteArray).extract 0 k = ⟨(l.take k).toArray⟩ := by
  apply ByteArray.ext; rw [ByteArray.data_extract]; simp
theorem ext_drop {l : Str} (k : Nat) : (⟨l.toArray⟩ : ByteArray).extract k l.length = ⟨(l.drop k).toArray⟩ := by
  apply ByteArray.ext; rw [ByteArray.data_extract]; simp [List.take_of_length_le]

set_option maxHeartbeats 1000000 in
theorem tokenLength_any (l : Str) (w : World) (hl : l.length ≤ 1000000) :
    Calls Tryd.prog 73 #[sV l] w fun e w' => e = .returned (.int .i64 (tokLen l)) ∧ w = w' := by
  have CW := Lib.hid (wordLength_any l w (by omega))
  have CP : Hid (Calls Tryd.prog 84 #[sV l, .string ⟨#[33, 61]⟩] w fun e w' => e = .returned (.bool (Lib.hasPrefix l [33, 61])) ∧ w' = w) := Lib.hid (Tryd.strings_HasPrefix ⟨l.toArray⟩ ⟨#[33, 61]⟩ w)
  have hwl := wlen_le l
  have HT : Hid (tokLen l = if 0 < wlen l then wlen l else if Lib.hasPrefix l [33, 61] then 2 else min 1 l.length) := Lib.hid rfl
  generalize wlen l = n at *
  by_cases h0 : 0 < n
  · have h0' : (0 : Int) < (n : Int) := by omega
    go_enter Tryd.func73, Tryd.ntmps73
    go_wp2_with (go_at_call 53; refine CW.out.mono ?_; rintro e w' ⟨rfl, rfl⟩)
    go_ret
    exact ⟨ret_int (by rw [HT.out, if_pos h0]), rfl⟩
  · have h0' : ¬ (0 : Int) < (n : Int) := by omega
    cases hp : Lib.hasPrefix l [33, 61]
    · rw [hp] at CP
      go_enter Tryd.func73, Tryd.ntmps73
      go_wp2_with (first | (go_at_call 53; refine CW.out.mono ?_; rintro e w' ⟨rfl, rfl⟩) | (go_at_call 84; refine CP.out.mono ?_; rintro e w' ⟨rfl, rfl⟩))
      go_ret
      exact ⟨ret_int (by rw [HT.out, if_neg h0, hp]; simp; omega), rfl⟩
    · rw [hp] at CP
      go_enter Tryd.func73, Tryd.ntmps73
      go_wp2_with (first | (go_at_call 53; refine CW.out.mono ?_; rintro e w' ⟨rfl, rfl⟩) | (go_at_call 84; refine CP.out.mono ?_; rintro e w' ⟨rfl, rfl⟩))
      go_ret
      exact ⟨ret_int (by rw [HT.out, if_neg h0, hp]; rfl), rfl⟩

/-- the reader in block rb has the tokens S ahead of it -/
structure Rd (w : World) (rb : Nat) (S : List Str) : Prop where
  out : ∃ rest, Own w rb [sV (hd S), sV rest] 72 ∧ lex rest = S.tail ∧ rest.length ≤ 20000 ∧ ∀ t ∈ S, t ≠ [] ∧ t.length ≤ 20000

theorem grown_set {w : World} {b i : Nat} (v : Value) : w.grownBy (w.setCell ⟨b, i, none⟩ v) (some b) :=
  ⟨rfl, rfl, rfl, by show w.heap.size ≤ (w.heap.modify b _).size; simp, fun k _ hne => by
    show (w.heap.modify b _)[k]? = _
    rw [Array.getElem?_modify, if_neg (fun e => hne (by rw [e]))]⟩
theorem grown_trans {a b c : World} {row : Option Nat} (h : a.grownBy b row) (k : b.grownBy c row) : a.grownBy c row := h.trans k
theorem grown_drewN {w : World} {row : Option Nat} (n : Nat) : w.grownBy (w.drewN n) row := ⟨rfl, rfl, rfl, Nat.le_refl _, fun _ _ _ => rfl⟩

set_option maxHeartbeats 1000000 in
theorem advance_any (tok rest : Str) (rb : Nat) (w : World) (ho : Own w rb [sV tok, sV rest] 72) (hl : rest.length ≤ 20000) :
    Calls Tryd.prog 61 #[.pointer (some ⟨rb, 0, none⟩)] w fun e w' => e = .returned (.tuple #[]) ∧ Rd w' rb (lex rest) ∧ w.grownBy w' (some rb) := by
  have CT : Hid (Calls Tryd.prog 72 #[sV rest, .string ⟨#[32]⟩] w fun e w' => e = .returned (sV (trim rest)) ∧ w' = w) := Lib.hid (Tryd.strings_TrimLeft_one ⟨rest.toArray⟩ 32 (by decide) w)
  have hstep := lex_step rest
  have htl := trim_len rest
  have hml := lex_mem _ rest (Nat.le_refl _)
  have CL := Lib.hid (tokenLength_any (trim rest) w (by omega))
  have hkl := tokLen_le (trim rest)
  have hfl : Rd w rb (lex rest) → True := fun _ => trivial
  generalize trim rest = t at *
  generalize tokLen t = k at *
  have H := Lib.hid (And.intro hstep hml)
  clear hstep hml hfl
  have hk2 : (k : Int) ≤ t.length := by omega
  have c0 := ho.cell (i := 0) rfl
  have c1 := ho.cell (i := 1) rfl
  have f0 := ho.frozen 0
  have f1 := ho.frozen 1
  go_enter Tryd.func61, Tryd.ntmps61
  go_wp2_with (first | (go_at_call 72; refine CT.out.mono ?_; rintro e w' ⟨rfl, rfl⟩) | (go_at_call 73; refine CL.out.mono ?_; rintro e w' ⟨rfl, rfl⟩))
  go_region
  have hr : Rd (((w'.setCell ⟨rb, 0, none⟩ (.string ((⟨t.toArray⟩ : ByteArray).extract 0 k))).setCell ⟨rb, 1, none⟩ (.string ((⟨t.toArray⟩ : ByteArray).extract k t.length))).drew) rb (lex rest) := by
    rw [ext_take, ext_drop]
    have o2 := (ho.set 0 (sV (t.take k))).set 1 (sV (t.drop k))
    refine ⟨t.drop k, ?_, H.out.1.2, by rw [List.length_drop]; omega, fun x hx => ⟨(H.out.2 x hx).1, Nat.le_trans (H.out.2 x hx).2 hl⟩⟩
    rw [show hd (lex rest) = t.take k from H.out.1.1.symm]
    exact o2
  have hg : w'.grownBy (((w'.setCell ⟨rb, 0, none⟩ (.string ((⟨t.toArray⟩ : ByteArray).extract 0 k))).setCell ⟨rb, 1, none⟩ (.string ((⟨t.toArray⟩ : ByteArray).extract k t.length))).drew) (some rb) := ((grown_set _).trans (grown_set _)).trans (grown_drewN 1)
  go_end0
  exact ⟨rfl, hr, hg⟩
end Go.Proofs.YtfohhokdcobhjaaDoor
