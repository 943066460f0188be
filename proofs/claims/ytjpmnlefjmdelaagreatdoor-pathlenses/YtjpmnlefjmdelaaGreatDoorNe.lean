/- Values, printed. -/
import Derived.Test.YtjpmnlefjmdelaaGreatDoorNcJ
import Derived.Lib.ItoaLen
import Derived.Test.YtjpmnlefjmdelaaGreatDoorCaJ
set_option linter.unusedSimpArgs false
set_option linter.unusedVariables false
namespace Go.Proofs.YtjpmnlefjmdelaaGreatDoor
open Go.RowKit Go.Sort Go.Proofs.LawFrame

theorem gPow : ∃ g, Tryz.prog.globalNamed "internal/strconv.uint64pow10" = some g := ⟨0, by kernel_rfl⟩
theorem Tab.below {w w' : World} (h : Tab w) (hb : Below w.heap.size w w') : Tab w' := by
  obtain ⟨g, hg⟩ := gPow
  unfold Tab Lib.TabIs World.var? at h ⊢
  rw [hg] at h ⊢
  simp only [Option.bind_some] at h ⊢
  have hlt : g < w.heap.size := by
    rcases Nat.lt_or_ge g w.heap.size with h' | h'
    · exact h'
    · rw [Array.getElem?_eq_none h'] at h; cases h
  rw [hb.block g hlt]
  exact h
theorem itoa_any (n : Int) (h0 : -9223372036854775808 ≤ n) (h1 : n ≤ 9223372036854775807) (w : World) (ht : Tab w) : Calls Tryz.prog 86 #[.int .i64 n] w fun e w' => e = .returned (sV (Lib.itoa n)) ∧ Below w.heap.size w w' :=
  (Tryz.strconv_Itoa n h0 h1 w ht).mono fun _ _ ⟨he, k, os, hw⟩ => ⟨he, by subst hw; exact ⟨rfl, rfl, rfl, by simp [Sort.grow], fun j hj => by simp [Sort.grow, Array.getElem?_append, hj]⟩⟩
theorem decDigits_pos (n : Nat) : 0 < (Lib.decDigits n).length := by
  rw [Lib.decDigits]
  split <;> simp
theorem itoa_pos (n : Int) : 0 < (Lib.itoa n).length := by
  unfold Lib.itoa
  split
  · simp
  · exact decDigits_pos _
theorem prOkL_mem {l : List T} (h : prOkL l) : ∀ t ∈ l, prOk t := by
  induction l with
  | nil => intro t ht; cases ht
  | cons a r ih =>
    simp only [prOkL] at h
    intro t ht
    rcases List.mem_cons.1 ht with rfl | ht
    · exact h.1
    · exact ih h.2 t ht
theorem prOkF_mem {l : List (Str × T)} (h : prOkF l) : ∀ p ∈ l, p.1.length ≤ 1000 := by
  induction l with
  | nil => intro t ht; cases ht
  | cons a r ih =>
    obtain ⟨x, t⟩ := a
    simp only [prOkF] at h
    intro p hp
    rcases List.mem_cons.1 hp with rfl | hp
    · exact h.1
    · exact ih h.2.2 p hp
theorem prOkF_val {l : List (Str × T)} (h : prOkF l) : ∀ p ∈ l, prOk p.2 := by
  induction l with
  | nil => intro t ht; cases ht
  | cons a r ih =>
    obtain ⟨x, t⟩ := a
    simp only [prOkF] at h
    intro p hp
    rcases List.mem_cons.1 hp with rfl | hp
    · exact h.2.1
    · exact ih h.2.2 p hp
set_option maxHeartbeats 8000000 in
set_option maxRecDepth 4000 in
theorem writeValue_any {w0 : World} {bb : Nat} (ht : Tab w0) : ∀ (N : Nat) (t : T), SizeOf.sizeOf t ≤ N → prOk t → t.size ≤ 1000 → WV w0 bb t := by
  intro N
  induction N with
  | zero => intro t h; cases t; simp at h
  | succ N ih =>
    intro t hN hok hsz c l w hI hs hlen
    obtain ⟨k, n, s, ls, fs⟩ := t
    obtain ⟨hck, hcn, hcs⟩ := hI.same
    have HSZ := Lib.hid (size_lens (M := 1000) hsz)
    have HOK : Hid (s.length ≤ 1000 ∧ (-1000000000000000 ≤ n ∧ n ≤ 1000000000000000) ∧ prOkL ls ∧ prOkF fs) := Lib.hid (by simpa only [prOk] using hok)
    have IHL : Hid (∀ t ∈ ls, WV w0 bb t) := Lib.hid (fun t htm => ih t (by have := List.sizeOf_lt_of_mem htm; simp at hN; omega) (prOkL_mem HOK.out.2.2.1 t htm) (Int.le_trans (size_in_l (k := k) (n := n) (s := s) (f := fs) htm) hsz))
    have IHF : Hid (∀ p ∈ fs, WV w0 bb p.2) := Lib.hid (fun p hp => ih p.2 (by have := List.sizeOf_lt_of_mem hp; obtain ⟨x, t⟩ := p; simp at hN this ⊢; omega) (prOkF_val HOK.out.2.2.2 p hp) (Int.le_trans (size_in_f (k := k) (n := n) (s := s) (l := ls) hp) hsz))
    have HI := Lib.hid hI
    have HT := Lib.hid ht
    have hbA := below_alloc w (.cells #[.int .i64 c.k, .int .i64 c.n, sV c.s, .slice c.la c.ln c.lc, .slice c.fa c.fn c.fc] 25)
    have oN := Own.new w [.int .i64 c.k, .int .i64 c.n, sV c.s, .slice c.la c.ln c.lc, .slice c.fa c.fn c.fc] 25
    have HSA := Lib.hid (And.intro ((Wr.refl bb w).below hs.bd hbA) (And.intro (hs.all hbA) (And.intro oN (off_new hs.bd (Nat.le_refl w.heap.size)))))
    have HCE := Lib.hid (And.intro hck (And.intro hcn hcs))
    clear ih hN hok hsz hI hs hbA oN ht hck hcn hcs
    go_enter Tryz.func48, Tryz.ntmps48
    go_upto_region 1 with (fail)
    change Code.wp Tryz.prog _ _ _ (w.alloc (.cells #[.int .i64 c.k, .int .i64 c.n, sV c.s, .slice c.la c.ln c.lc, .slice c.fa c.fn c.fc] 25))
    generalize w.alloc (.cells #[.int .i64 c.k, .int .i64 c.n, sV c.s, .slice c.la c.ln c.lc, .slice c.fa c.fn c.fc] 25) = V at *
    have k0 := HSA.out.2.2.1.cell (i := 0) rfl
    by_cases h0 : k = 0
    · have e0 : c.k = 0 := by have := HCE.out.1; omega
      have HK := Lib.hid h0
      have HPR : Hid (prV (.mk k n s ls fs) = [110, 117, 108, 108]) := Lib.hid (by simp only [prV];  rw [if_pos HK.out])
      rw [HPR.out] at hlen
      have HLEN := Lib.hid hlen
      clear h0 hlen
      have C := Lib.hid (writeString_any (x := [110, 117, 108, 108]) HSA.out.2.1.bd (by have := HLEN.out; rw [List.length_append] at this; omega) (by simp) (by simp))
      go_wp2_with fail
      refine C.out.mono ?_
      rintro e w7 ⟨rfl, hw7, hd7⟩
      have HS7 := Lib.hid (And.intro (HSA.out.1.trans hw7) hd7)
      clear C hw7 hd7
      go_wp2
      go_end0
      exact ⟨rfl, HS7.out.1, by rw [HPR.out]; exact HS7.out.2⟩
    by_cases h1 : k = 1
    · have e0 : ¬ c.k = 0 := by have := HCE.out.1; omega
      have e0' : (c.k == 0) = false := by rw [beq_eq_false_iff_ne]; exact e0
      have e1 : c.k = 1 := by have := HCE.out.1; omega
      have HK := Lib.hid h1
      have HPR : Hid (prV (.mk k n s ls fs) = boolW (decide (n = 1))) := Lib.hid (by simp only [prV]; rw [if_neg h0]; rw [if_pos HK.out])
      rw [HPR.out] at hlen
      have HLEN := Lib.hid hlen
      clear h1 hlen
      have a1 := HSA.out.2.2.1.cell (i := 1) rfl
      go_wp2_with fail
      refine (formatBool_any (c.n == 1) V).mono ?_
      rintro e w5 ⟨rfl, rfl⟩
      have C := Lib.hid (writeString_any (x := boolW (c.n == 1)) HSA.out.2.1.bd (by have := HLEN.out; rw [List.length_append] at this; omega) (by cases (c.n == 1) <;> simp [boolW]) (by cases (c.n == 1) <;> simp [boolW]))
      go_wp2_with fail
      refine C.out.mono ?_
      rintro e w7 ⟨rfl, hw7, hd7⟩
      have HS7 := Lib.hid (And.intro (HSA.out.1.trans hw7) hd7)
      clear C hw7 hd7
      go_wp2
      go_end0
      exact ⟨rfl, HS7.out.1, by rw [HPR.out, ← HCE.out.2.1]; exact HS7.out.2⟩
    by_cases h2 : k = 2
    · have e0 : ¬ c.k = 0 := by have := HCE.out.1; omega
      have e0' : (c.k == 0) = false := by rw [beq_eq_false_iff_ne]; exact e0
      have e1 : ¬ c.k = 1 := by have := HCE.out.1; omega
      have e1' : (c.k == 1) = false := by rw [beq_eq_false_iff_ne]; exact e1
      have e2 : c.k = 2 := by have := HCE.out.1; omega
      have HK := Lib.hid h2
      have HPR : Hid (prV (.mk k n s ls fs) = Lib.itoa n) := Lib.hid (by simp only [prV]; rw [if_neg h0]; rw [if_neg h1]; rw [if_pos HK.out])
      rw [HPR.out] at hlen
      have HLEN := Lib.hid hlen
      clear h2 hlen
      have a1 := HSA.out.2.2.1.cell (i := 1) rfl
      have hrg := HOK.out.2.1
      rw [← HCE.out.2.1] at hrg
      go_wp2_with fail
      refine (itoa_any c.n (by omega) (by omega) V (HT.out.below HSA.out.2.1.low)).mono ?_
      rintro e w5 ⟨rfl, hb5⟩
      have HSB := Lib.hid (And.intro (HSA.out.1.below HSA.out.2.1.bd hb5) (HSA.out.2.1.all hb5))
      clear a1 hb5
      have C := Lib.hid (writeString_any (x := Lib.itoa c.n) HSB.out.2.bd (by have := HLEN.out; rw [List.length_append] at this; omega) (by have := Lib.itoa_length_le c.n (by omega) (by omega); omega) (itoa_pos c.n))
      go_wp2_with fail
      refine C.out.mono ?_
      rintro e w7 ⟨rfl, hw7, hd7⟩
      have HS7 := Lib.hid (And.intro (HSB.out.1.trans hw7) hd7)
      clear C hw7 hd7
      go_wp2
      go_end0
      exact ⟨rfl, HS7.out.1, by rw [HPR.out, ← HCE.out.2.1]; exact HS7.out.2⟩
    by_cases h3 : k = 3
    · have e0 : ¬ c.k = 0 := by have := HCE.out.1; omega
      have e0' : (c.k == 0) = false := by rw [beq_eq_false_iff_ne]; exact e0
      have e1 : ¬ c.k = 1 := by have := HCE.out.1; omega
      have e1' : (c.k == 1) = false := by rw [beq_eq_false_iff_ne]; exact e1
      have e2 : ¬ c.k = 2 := by have := HCE.out.1; omega
      have e2' : (c.k == 2) = false := by rw [beq_eq_false_iff_ne]; exact e2
      have e3 : c.k = 3 := by have := HCE.out.1; omega
      have HK := Lib.hid h3
      have HPR : Hid (prV (.mk k n s ls fs) = quoteR s) := Lib.hid (by simp only [prV]; rw [if_neg h0]; rw [if_neg h1]; rw [if_neg h2]; rw [if_pos HK.out])
      rw [HPR.out] at hlen
      have HLEN := Lib.hid hlen
      clear h3 hlen
      have a2 := HSA.out.2.2.1.cell (i := 2) rfl
      have C := Lib.hid (jwriteString_any HSA.out.2.1.bd (by have := HLEN.out; rw [List.length_append] at this; omega) c.s (by have := HOK.out.1; rw [HCE.out.2.2]; omega))
      go_wp2_with fail
      refine C.out.mono ?_
      rintro e w7 ⟨rfl, hw7, hd7⟩
      have HS7 := Lib.hid (And.intro (HSA.out.1.trans hw7) hd7)
      clear C hw7 hd7
      go_wp2
      go_end0
      exact ⟨rfl, HS7.out.1, by rw [HPR.out, ← HCE.out.2.2]; exact HS7.out.2⟩
    by_cases h4 : k = 4
    · have e0 : ¬ c.k = 0 := by have := HCE.out.1; omega
      have e0' : (c.k == 0) = false := by rw [beq_eq_false_iff_ne]; exact e0
      have e1 : ¬ c.k = 1 := by have := HCE.out.1; omega
      have e1' : (c.k == 1) = false := by rw [beq_eq_false_iff_ne]; exact e1
      have e2 : ¬ c.k = 2 := by have := HCE.out.1; omega
      have e2' : (c.k == 2) = false := by rw [beq_eq_false_iff_ne]; exact e2
      have e3 : ¬ c.k = 3 := by have := HCE.out.1; omega
      have e3' : (c.k == 3) = false := by rw [beq_eq_false_iff_ne]; exact e3
      have e4 : c.k = 4 := by have := HCE.out.1; omega
      have HK := Lib.hid h4
      have HPR : Hid (prV (.mk k n s ls fs) = [91] ++ prL true ls ++ [93]) := Lib.hid (by simp only [prV]; rw [if_neg h0]; rw [if_neg h1]; rw [if_neg h2]; rw [if_neg h3]; rw [if_pos HK.out])
      rw [HPR.out] at hlen
      have HLEN := Lib.hid hlen
      clear h4 hlen
      have a3 := HSA.out.2.2.1.cell (i := 3) rfl
      have C := Lib.hid (writeList_of _ ls HI.out.vals IHL.out HSA.out.2.1 (by have := HSZ.out.1; omega) HLEN.out)
      go_wp2_with fail
      refine C.out.mono ?_
      rintro e w7 ⟨rfl, hw7, hd7⟩
      have HS7 := Lib.hid (And.intro (HSA.out.1.trans hw7) hd7)
      clear C hw7 hd7
      go_wp2
      go_end0
      exact ⟨rfl, HS7.out.1, by rw [HPR.out]; exact HS7.out.2⟩
    by_cases h5 : k = 5
    · have e0 : ¬ c.k = 0 := by have := HCE.out.1; omega
      have e0' : (c.k == 0) = false := by rw [beq_eq_false_iff_ne]; exact e0
      have e1 : ¬ c.k = 1 := by have := HCE.out.1; omega
      have e1' : (c.k == 1) = false := by rw [beq_eq_false_iff_ne]; exact e1
      have e2 : ¬ c.k = 2 := by have := HCE.out.1; omega
      have e2' : (c.k == 2) = false := by rw [beq_eq_false_iff_ne]; exact e2
      have e3 : ¬ c.k = 3 := by have := HCE.out.1; omega
      have e3' : (c.k == 3) = false := by rw [beq_eq_false_iff_ne]; exact e3
      have e4 : ¬ c.k = 4 := by have := HCE.out.1; omega
      have e4' : (c.k == 4) = false := by rw [beq_eq_false_iff_ne]; exact e4
      have e5 : c.k = 5 := by have := HCE.out.1; omega
      have HK := Lib.hid h5
      have HPR : Hid (prV (.mk k n s ls fs) = [123] ++ prF true fs ++ [125]) := Lib.hid (by simp only [prV]; rw [if_neg h0]; rw [if_neg h1]; rw [if_neg h2]; rw [if_neg h3]; rw [if_neg h4]; rw [if_pos HK.out])
      rw [HPR.out] at hlen
      have HLEN := Lib.hid hlen
      clear h5 hlen
      have a4 := HSA.out.2.2.1.cell (i := 4) rfl
      have C := Lib.hid (writeMap_of _ fs HI.out.flds IHF.out (prOkF_mem HOK.out.2.2.2) HSA.out.2.1 (by have := HSZ.out.2; omega) HLEN.out)
      go_wp2_with fail
      refine C.out.mono ?_
      rintro e w7 ⟨rfl, hw7, hd7⟩
      have HS7 := Lib.hid (And.intro (HSA.out.1.trans hw7) hd7)
      clear C hw7 hd7
      go_wp2
      go_end0
      exact ⟨rfl, HS7.out.1, by rw [HPR.out]; exact HS7.out.2⟩
    have e0 : ¬ c.k = 0 := by have := HCE.out.1; omega
    have e0' : (c.k == 0) = false := by rw [beq_eq_false_iff_ne]; exact e0
    have e1 : ¬ c.k = 1 := by have := HCE.out.1; omega
    have e1' : (c.k == 1) = false := by rw [beq_eq_false_iff_ne]; exact e1
    have e2 : ¬ c.k = 2 := by have := HCE.out.1; omega
    have e2' : (c.k == 2) = false := by rw [beq_eq_false_iff_ne]; exact e2
    have e3 : ¬ c.k = 3 := by have := HCE.out.1; omega
    have e3' : (c.k == 3) = false := by rw [beq_eq_false_iff_ne]; exact e3
    have e4 : ¬ c.k = 4 := by have := HCE.out.1; omega
    have e4' : (c.k == 4) = false := by rw [beq_eq_false_iff_ne]; exact e4
    have e5 : ¬ c.k = 5 := by have := HCE.out.1; omega
    have e5' : (c.k == 5) = false := by rw [beq_eq_false_iff_ne]; exact e5
    have HPR : Hid (prV (.mk k n s ls fs) = []) := Lib.hid (by simp only [prV]; rw [if_neg h0, if_neg h1, if_neg h2, if_neg h3, if_neg h4, if_neg h5])
    go_wp2
    go_end0
    exact ⟨rfl, HSA.out.1, by rw [HPR.out, List.append_nil]; exact HSA.out.2.1.bd⟩
end Go.Proofs.YtjpmnlefjmdelaaGreatDoor
