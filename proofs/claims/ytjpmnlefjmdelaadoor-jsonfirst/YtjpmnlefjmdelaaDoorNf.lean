/- Print. -/
import Derived.Test.YtjpmnlefjmdelaaDoorNe
import Derived.Test.YtjpmnlefjmdelaaDoorWfJ
namespace Go.Proofs.YtjpmnlefjmdelaaDoor
open Go.RowKit Go.Sort Go.Proofs.LawFrame

theorem quoteR_len (x : Str) : (quoteR x).length ≤ 2 * x.length + 2 := by
  unfold quoteR; have := escs_len x; simp only [List.length_cons, List.length_append, List.length_singleton, List.cons_append, List.length_nil]; omega
theorem prV_len : ∀ (N : Nat) (t : T), SizeOf.sizeOf t ≤ N → prOk t → ((prV t).length : Int) + 2010 ≤ 5000 * t.size := by
  intro N
  induction N with
  | zero => intro t h; cases t; simp at h
  | succ N ih =>
    intro t hN hok
    obtain ⟨k, n, s, l, f⟩ := t
    simp only [prOk] at hok
    obtain ⟨h1, h2, h3, h4⟩ := hok
    have hL : ∀ (l : List T) (b : Bool), SizeOf.sizeOf l ≤ N → prOkL l → ((prL b l).length : Int) ≤ 5000 * sizeL l := by
      intro l
      induction l with
      | nil => intro b _ _; simp [prL, sizeL]
      | cons t r ihr =>
        intro b hs ho
        simp only [prOkL] at ho
        have e1 := ih t (by simp at hs; omega) ho.1
        have e2 := ihr false (by simp at hs; omega) ho.2
        simp only [prL, sizeL, List.length_append]
        cases b <;> simp <;> omega
    have hF : ∀ (l : List (Str × T)) (b : Bool), SizeOf.sizeOf l ≤ N → prOkF l → ((prF b l).length : Int) ≤ 5000 * sizeF l := by
      intro l
      induction l with
      | nil => intro b _ _; simp [prF, sizeF]
      | cons p r ihr =>
        obtain ⟨x, t⟩ := p
        intro b hs ho
        simp only [prOkF] at ho
        have e1 := ih t (by simp at hs; omega) ho.2.1
        have e2 := ihr false (by simp at hs; omega) ho.2.2
        have e3 := quoteR_len x
        simp only [prF, sizeF, List.length_append]
        cases b <;> simp <;> omega
    have eL := hL l true (by simp at hN; omega) h3
    have eF := hF f true (by simp at hN; omega) h4
    have pL := sizeL_nonneg l
    have pF := sizeF_nonneg f
    simp only [prV, T.size]
    have e1 := quoteR_len s
    split
    · simp; omega
    split
    · cases decide (n = 1) <;> simp [boolW] <;> omega
    split
    · have := Lib.itoa_length_le n (by omega) (by omega); omega
    split
    · omega
    split
    · simp; omega
    split
    · simp; omega
    · simp; omega
theorem val_prOk : ∀ (d : Nat) (t : T), Val d t → prOk t := by
  intro d
  induction d with
  | zero => intro t h; exact h.elim
  | succ d ih =>
    intro t h
    obtain ⟨k, n, s, l, f⟩ := t
    have h0 := h
    rw [val_eq] at h
    obtain ⟨hu, hm, hl, hf⟩ := h
    rw [Val] at h0
    obtain ⟨-, -, -, -, -, hnm, -, -⟩ := h0
    unfold Uses at hu
    unfold Mem at hm
    simp only [prOk]
    refine ⟨?_, ?_, ?_, ?_⟩
    · rcases hu.2.1 with h | h
      · rw [h]; simp
      · rcases hm with h' | h' | h' | h' | h' | h'
        · omega
        · omega
        · omega
        · have := h'.2; unfold strOk at this; simp at this; omega
        · omega
        · omega
    · rcases hu.1 with h | h | h
      · omega
      · rcases hm with h' | h' | h' | h' | h' | h' <;> omega
      · rcases hm with h' | h' | h' | h' | h' | h' <;> omega
    · clear hm hu hnm hf
      induction l with
      | nil => simp [prOkL]
      | cons a r ihr => simp only [prOkL]; exact ⟨ih a (hl a List.mem_cons_self), ihr (fun t ht => hl t (List.mem_cons_of_mem _ ht))⟩
    · have hq : ∀ p ∈ f, p.1.length ≤ 1000 := fun p hp => by
        obtain ⟨i, hi, rfl⟩ := List.getElem_of_mem hp
        have := (hnm i f[i] hi (List.getElem?_eq_getElem hi)).1
        unfold nameOk at this
        simp at this
        omega
      clear hm hu hnm hl
      induction f with
      | nil => simp [prOkF]
      | cons a r ihr =>
        obtain ⟨x, t⟩ := a
        simp only [prOkF]
        exact ⟨hq (x, t) List.mem_cons_self, ih t (hf (x, t) List.mem_cons_self), ihr (fun p hp => hf p (List.mem_cons_of_mem _ hp)) (fun p hp => hq p (List.mem_cons_of_mem _ hp))⟩
theorem bd_isBuilder {bb : Nat} {l : Str} {w : World} (h : Bd bb l w) : Lib.IsBuilder 62 5 bb bb (Lib.byteCells l) w := by
  obtain ⟨p, v, hp, o, hown⟩ := h.out
  have hb : Lib.byteCells l = bC l := rfl
  have : Lib.BuilderAt 62 5 bb bb p (Lib.byteCells l) w := by
    refine ⟨Nat.le_refl _, v, o, ?_, fun e => by have := own_row hown bb e; omega⟩
    rw [hb, bC_len]
    refine ⟨hown.1, ?_⟩
    rcases hown.2 with h | ⟨g, cap, cur, h1, h2, h3⟩
    · exact Or.inl h
    · exact Or.inr ⟨g, cap, cur, h1, by omega, h3⟩
  rcases hp with rfl | rfl
  · exact Or.inl this
  · exact Or.inr this
/-- what Print answers -/
structure QPr (w : World) (t : T) (e : Ending) (w' : World) : Prop where
  below : Below w.heap.size w w'
  ok : Val 12 t ∧ t.size ≤ 600 → (prV t).length ≤ 20000 → e = .returned (.tuple #[sV (prV t), .int .i64 0])
  long : Val 12 t ∧ t.size ≤ 600 → ¬ (prV t).length ≤ 20000 → e = .returned (.tuple #[.string ⟨#[]⟩, .int .i64 4])
  bad : ¬ (Val 12 t ∧ t.size ≤ 600) → e = .returned (.tuple #[.string ⟨#[]⟩, .int .i64 1])
set_option maxHeartbeats 4000000 in
set_option maxRecDepth 4000 in
theorem print_any (c : VC) (t : T) (w : World) (hI : Is w c t) (ht : Tab w) : Calls Tryd.prog 17 #[c.val] w (QPr w t) := by
  have hbA := below_alloc w (.cells #[.int .i64 c.k, .int .i64 c.n, sV c.s, .slice c.la c.ln c.lc, .slice c.fa c.fn c.fc] 26)
  have oN := Own.new w [.int .i64 c.k, .int .i64 c.n, sV c.s, .slice c.la c.ln c.lc, .slice c.fa c.fn c.fc] 26
  have HSA := Lib.hid (And.intro hbA (And.intro oN (And.intro (hI.all hbA) (ht.below hbA))))
  clear hbA oN hI ht
  go_enter Tryd.func17, Tryd.ntmps17
  go_upto_region 1 with (fail)
  change Code.wp Tryd.prog _ _ _ (w.alloc (.cells #[.int .i64 c.k, .int .i64 c.n, sV c.s, .slice c.la c.ln c.lc, .slice c.fa c.fn c.fc] 26))
  generalize w.alloc (.cells #[.int .i64 c.k, .int .i64 c.n, sV c.s, .slice c.la c.ln c.lc, .slice c.fa c.fn c.fc] 26) = V at *
  have a0 := HSA.out.2.1.cell (i := 0) rfl
  have a1 := HSA.out.2.1.cell (i := 1) rfl
  have a2 := HSA.out.2.1.cell (i := 2) rfl
  have a3 := HSA.out.2.1.cell (i := 3) rfl
  have a4 := HSA.out.2.1.cell (i := 4) rfl
  go_wp2_with fail
  clear a0 a1 a2 a3 a4
  refine (valid_any t c V HSA.out.2.2.1).mono ?_
  rintro e w1 hrb
  obtain ⟨r, rfl, hb1, hr⟩ := hrb.out
  have HR := Lib.hid hr
  clear hr hrb
  cases r with
  | false =>
    have HB := Lib.hid (below_all HSA.out.1 hb1)
    clear hb1
    go_wp2
    have hno : ¬ (Val 12 t ∧ t.size ≤ 600) := fun h => by have := HR.out.2 h; cases this
    exact bodyPost_ret (v := .tuple #[.string ⟨#[]⟩, .int .i64 1]) (by simp [results, Tryd.results17, go_sem]) rfl ⟨HB.out, fun h => absurd h hno, fun h => absurd h hno, fun _ => rfl⟩
  | true =>
    have hval := HR.out.1 rfl
    have hbB := below_alloc w1 (.cells #[.pointer none, .slice none 0 0] 62)
    have oB := Own.new w1 [.pointer none, .slice none 0 0] 62
    have hs1 := hb1.size
    have hlow := below_all HSA.out.1 hb1
    have hs0 := hlow.size
    have HSB := Lib.hid (And.intro (below_all hlow hbB) (And.intro ((HSA.out.2.1.all hb1).all hbB) (And.intro (show PrS w1 w1.heap.size [] (w1.alloc (.cells #[.pointer none, .slice none 0 0] 62)) from ⟨hbB, Nat.le_refl _, ⟨_, _, Or.inl rfl, oB, own_nil _ _ _ _⟩⟩) (And.intro (HSA.out.2.2.1.all hb1) (And.intro (HSA.out.2.2.2.below hb1) (And.intro hval hlow))))))
    clear hb1 hbB oB HSA hval hlow
    go_upto_region 4 with (fail)
    change Code.wp Tryd.prog _ _ _ (w1.alloc (.cells #[.pointer none, .slice none 0 0] 62))
    generalize w1.alloc (.cells #[.pointer none, .slice none 0 0] 62) = V1 at *
    have a0 := HSB.out.2.1.cell (i := 0) rfl
    have a1 := HSB.out.2.1.cell (i := 1) rfl
    have a2 := HSB.out.2.1.cell (i := 2) rfl
    have a3 := HSB.out.2.1.cell (i := 3) rfl
    have a4 := HSB.out.2.1.cell (i := 4) rfl
    have HOK := Lib.hid (val_prOk 12 t HSB.out.2.2.2.2.2.1.1)
    have C := Lib.hid (writeValue_any (bb := w1.heap.size) HSB.out.2.2.2.2.1 _ t (Nat.le_refl _) HOK.out (by have := HSB.out.2.2.2.2.2.1.2; omega) c [] V1 HSB.out.2.2.2.1 HSB.out.2.2.1 (by have h1 := prV_len _ t (Nat.le_refl _) HOK.out; have h2 := HSB.out.2.2.2.2.2.1.2; simp; omega))
    go_wp2_with fail
    clear a0 a1 a2 a3 a4
    refine C.out.mono ?_
    rintro e w2 ⟨rfl, hw2, hd2⟩
    rw [List.nil_append] at hd2
    have HSC := Lib.hid (And.intro (HSB.out.2.2.2.2.2.2.trans ((HSB.out.2.2.1.low.trans (hw2.low.mono HSB.out.2.2.1.le)).mono (by omega))) (And.intro hd2 HSB.out.2.2.2.2.2.1))
    clear C hw2 hd2 HSB
    go_wp2_with fail
    refine (Tryd.Builder_Len w1.heap.size w1.heap.size _ w2 (bd_isBuilder HSC.out.2.1)).mono ?_
    rintro e w3 ⟨rfl, rfl⟩
    rw [show (Lib.byteCells (prV t)).length = (prV t).length by simp [Lib.byteCells]]
    by_cases hbig : 20000 < (prV t).length
    · go_wp2
      exact bodyPost_ret (v := .tuple #[.string ⟨#[]⟩, .int .i64 4]) (by simp [results, Tryd.results17, go_sem]) rfl ⟨HSC.out.1, fun _ h => absurd h (by omega), fun _ _ => rfl, fun h => absurd HSC.out.2.2 h⟩
    · have C := Lib.hid (Tryd.Builder_String_any w1.heap.size w1.heap.size (prV t) w3 (bd_isBuilder HSC.out.2.1) (Nat.le_of_lt HSC.out.2.1.lt))
      go_wp2_with fail
      refine C.out.mono ?_
      rintro e w4 ⟨rfl, hb4⟩
      have HB := Lib.hid (HSC.out.1.trans (hb4.mono (by omega)))
      clear C hb4
      go_wp2
      exact bodyPost_ret (v := .tuple #[sV (prV t), .int .i64 0]) (by simp [results, Tryd.results17, go_sem]) rfl ⟨HB.out, fun _ _ => rfl, fun _ h => absurd h (by omega), fun h => absurd HSC.out.2.2 h⟩
end Go.Proofs.YtjpmnlefjmdelaaDoor
