/- The parser's numbers. Rows of bytes; the parser's strings. -/
import Derived.Test.YtjpmnlefjmdelaaGreatDoorKcJ
import Derived.Test.YtjpmnlefjmdelaaGreatDoorEgJ
import Derived.Test.YtjpmnlefjmdelaaGreatDoorPdJ
import Derived.Laws.BytesArg
set_option linter.unusedSimpArgs false
set_option linter.unusedVariables false
namespace Go.Proofs.YtjpmnlefjmdelaaGreatDoor
open Go.RowKit Go.Sort Go.Proofs.LawFrame

theorem digsR_nonneg : ∀ (r : Str) (k : Int), 0 ≤ k → 0 ≤ (digsR k r).1 := by
  intro r
  induction r with
  | nil => intro k h; exact h
  | cons c r ih =>
    intro k h
    simp only [digsR]
    split
    · rename_i hd
      refine ih _ ?_
      unfold digTo
      split
      · simp [dig] at hd; omega
      · exact h
    · exact h
theorem digitsR_nonneg {r : Str} {p : Int × Str} (h : digitsR r = .ok p) : 0 ≤ p.1 := by
  unfold digitsR at h
  split at h
  · cases h
  · cases h; exact digsR_nonneg r 0 (by omega)

set_option maxHeartbeats 4000000 in
set_option maxRecDepth 4000 in
theorem readNumber_any {pb : Nat} {s r : Str} {n : Int} {w : World} (hl : s.length ≤ 20000) (st : St pb s r n w) :
    Calls Tryz.prog 139 #[.pointer (some ⟨pb, 0, none⟩)] w (Res pb s w (numR r) (fun p w' v => v = .agg #[.int .i64 2, .int .i64 p.1, .string ⟨#[]⟩, .slice none 0 0, .slice none 0 0] ∧ St pb s p.2 n w')) := by
  have hpb := st.lt
  have hB := But.allow (b := pb) (below_alloc w (.cells #[.int .i64 0, .int .i64 0, .string ⟨#[]⟩, .slice none 0 0, .slice none 0 0] 25))
  have oR := Own.new w [.int .i64 0, .int .i64 0, .string ⟨#[]⟩, .slice none 0 0, .slice none 0 0] 25
  have st' := st.all (below_alloc w (.cells #[.int .i64 0, .int .i64 0, .string ⟨#[]⟩, .slice none 0 0, .slice none 0 0] 25))
  have HS := Lib.hid (And.intro hB (And.intro oR st'))
  clear hB oR st' st
  go_enter Tryz.func139, Tryz.ntmps139
  go_upto_region 1 with (fail)
  change Code.wp Tryz.prog _ _ _ (w.alloc (.cells #[.int .i64 0, .int .i64 0, .string ⟨#[]⟩, .slice none 0 0, .slice none 0 0] 25))
  generalize w.alloc (.cells #[.int .i64 0, .int .i64 0, .string ⟨#[]⟩, .slice none 0 0, .slice none 0 0] 25) = V at *
  obtain ⟨i0, hi0, hd0, o0⟩ := HS.out.2.2.out
  have c1 := o0.cell (i := 1) rfl
  cases r with
  | nil =>
    clear o0
    go_wp2_with fail
    refine (peek_no hl HS.out.2.2).mono ?_
    rintro e w2 ⟨rfl, hb2⟩
    go_wp2
    exact ⟨rfl, Res.mkEr (k := 0) (c := 3) rfl (HS.out.1.all hb2)⟩
  | cons c r1 =>
    have HSTART : Hid ((i0 : Int) = ((s.length - (r1.length + 1) : Nat) : Int)) := Lib.hid (by have := (drop_byte hd0).2.2.2; rcases drop_byte hd0 with ⟨h, -⟩; omega)
    obtain ⟨-, -, hd0', -⟩ := drop_byte hd0
    have HD := Lib.hid (And.intro hd0 hd0')
    clear o0 hd0 hd0'
    go_wp2_with fail
    clear c1
    refine (peek_ok hl HS.out.2.2).mono ?_
    rintro e w1 ⟨rfl, hb1⟩
    have HS1 := Lib.hid (And.intro (HS.out.1.all hb1) (And.intro (HS.out.2.1.all hb1) (HS.out.2.2.all hb1)))
    clear HS hb1
    by_cases hc : c.toNat = 45
    · have hq : (c.toNat : Int) = 45 := by omega
      have HC := Lib.hid hc
      clear hc
      obtain ⟨i, hi, hd, o⟩ := HS1.out.2.2.out
      obtain ⟨hlt, -, hd', -⟩ := drop_byte hd
      have u1 := o.cell (i := 1) rfl
      have u2 := o.frozen 1
      have HS := Lib.hid (And.intro (HS1.out.1.set 1 (.int .i64 ((i + 1 : Nat) : Int))) (And.intro (HS1.out.2.1.set_ne (show w.heap.size ≠ pb by omega) 1 (.int .i64 ((i + 1 : Nat) : Int))) (St.mk (pb := pb) ⟨i + 1, by omega, hd', o.set 1 (.int .i64 ((i + 1 : Nat) : Int))⟩)))
      clear o hd hd' HS1
      go_upto_region 6 with (fail)
      change Code.wp Tryz.prog _ _ _ (w1.setCell ⟨pb, 1, none⟩ (.int .i64 ((i + 1 : Nat) : Int)))
      clear u1 u2 hq
      generalize w1.setCell ⟨pb, 1, none⟩ (.int .i64 ((i + 1 : Nat) : Int)) = W2 at *
      cases r1 with
      | nil =>
        go_wp2_with fail
        refine (peek_no hl HS.out.2.2).mono ?_
        rintro e w3 ⟨rfl, hb3⟩
        go_wp2
        exact ⟨rfl, Res.mkEr (k := 0) (c := 3) (by simp [numR, HC.out, minusR]) (HS.out.1.all hb3)⟩
      | cons d r2 =>
        go_wp2_with fail
        refine (peek_ok hl HS.out.2.2).mono ?_
        rintro e w3 ⟨rfl, hb3⟩
        have HS3 := Lib.hid (And.intro (HS.out.1.all hb3) (And.intro (HS.out.2.1.all hb3) (HS.out.2.2.all hb3)))
        clear HS hb3
        have HS := HS3
        clear HS3
        have C := Lib.hid (isDigit_any d w3)
        go_wp2_with fail
        refine C.out.mono ?_
        rintro e w4 ⟨rfl, rfl⟩
        clear C
        cases hdg : dig d
        · have C := Lib.hid (fail_st 2 HS.out.2.2)
          go_wp2_with fail
          refine C.out.mono ?_
          rintro e w4 ⟨rfl, rfl⟩
          go_wp2
          exact ⟨rfl, Res.mkEr (k := r2.length + 1) (c := 2) (by simp [numR, HC.out, minusR, hdg]) HS.out.1⟩
        · by_cases h48 : d.toNat = 48
          · have q : (d.toNat : Int) = 48 := by omega
            have HF := Lib.hid h48
            have C := Lib.hid (fail_st 2 HS.out.2.2)
            clear h48
            go_wp2_with fail
            refine C.out.mono ?_
            rintro e w4 ⟨rfl, rfl⟩
            go_wp2
            exact ⟨rfl, Res.mkEr (k := r2.length + 1) (c := 2) (by simp [numR, HC.out, minusR, HF.out]) HS.out.1⟩
          · have q : ¬ (d.toNat : Int) = 48 := by omega
            have q' : ((d.toNat : Int) == 48) = false := by rw [beq_eq_false_iff_ne]; exact q
            have HF := Lib.hid (And.intro hdg h48)
            clear hdg h48
            have C := Lib.hid (readDigits_any hl HS.out.2.2)
            go_wp2_with fail
            refine C.out.mono ?_
            rintro e w5 hres
            clear C
            cases hR : digitsR (d :: r2) with
            | er a b =>
              obtain rfl := hres.er a b hR
              have HB := Lib.hid (HS.out.1.trans hres.but)
              clear hres
              go_wp2
              exact ⟨rfl, Res.mkEr (k := a) (c := b) (by simp only [numR, HC.out, if_true, minusR]; rw [if_pos HF.out]; rw [hR]; rfl) HB.out⟩
            | ok p =>
              obtain ⟨m, r5⟩ := p
              obtain ⟨v, rfl, rfl, st5⟩ := hres.ok _ hR
              have HB := Lib.hid (And.intro (HS.out.1.trans hres.but) (And.intro (Own.but HS.out.2.1 hres.but (by omega)) st5))
              have hm0 := digitsR_nonneg hR
              have HR := Lib.hid hR
              clear hres hR st5 HS
              simp only at hm0
              by_cases hbig : 1000000000000000 < m
              · have C := Lib.hid (failAt_any pb i0 5 w5)
                go_wp2_with fail
                refine C.out.mono ?_
                rintro e w6 ⟨rfl, rfl⟩
                go_wp2
                refine ⟨rfl, ?_⟩
                rw [HSTART.out]
                exact Res.mkEr (k := (d :: r2).length + 1) (c := 5) (by simp only [numR, HC.out, if_true, minusR]; rw [if_pos HF.out]; rw [HR.out]; simp [numF, hbig]) HB.out.1
              · have C := Lib.hid (int_any (-m) w5)
                go_wp2_with fail
                refine C.out.mono ?_
                rintro e w6 ⟨rfl, hb6⟩
                obtain ⟨hB, oR, st⟩ := HB.out
                replace hB := hB.all hb6
                replace oR := oR.all hb6
                replace st := st.all hb6
                clear C HB hb6
                have r0 := oR.cell (i := 0) rfl
                have r1 := oR.cell (i := 1) rfl
                have r2 := oR.cell (i := 2) rfl
                have r3 := oR.cell (i := 3) rfl
                have r4 := oR.cell (i := 4) rfl
                have g0 := oR.frozen 0
                have g1 := oR.frozen 1
                have g2 := oR.frozen 2
                have g3 := oR.frozen 3
                have g4 := oR.frozen 4
                have HS := Lib.hid (And.intro (own_put5 oR (.int .i64 2) (.int .i64 (-m)) (.string ⟨#[]⟩) (.slice none 0 0) (.slice none 0 0)) (And.intro (hB.put5 (b := w.heap.size) (by omega) (.int .i64 2) (.int .i64 (-m)) (.string ⟨#[]⟩) (.slice none 0 0) (.slice none 0 0)) (st.put5 (b := w.heap.size) (by omega) (.int .i64 2) (.int .i64 (-m)) (.string ⟨#[]⟩) (.slice none 0 0) (.slice none 0 0))))
                clear hB oR st
                go_wp2
                clear r0 r1 r2 r3 r4 g0 g1 g2 g3 g4
                change bodyPost Tryz.prog Tryz.f139 _ _ _ (put5 w6 (w.heap.size) (.int .i64 2) (.int .i64 (-m)) (.string ⟨#[]⟩) (.slice none 0 0) (.slice none 0 0))
                generalize put5 w6 (w.heap.size) (.int .i64 2) (.int .i64 (-m)) (.string ⟨#[]⟩) (.slice none 0 0) (.slice none 0 0) = U at *
                obtain ⟨oS, hB, st⟩ := HS.out
                have c0 := oS.cell (i := 0) rfl
                have c1 := oS.cell (i := 1) rfl
                have c2 := oS.cell (i := 2) rfl
                have c3 := oS.cell (i := 3) rfl
                have c4 := oS.cell (i := 4) rfl
                exact bodyPost_ret (v := .agg #[.int .i64 2, .int .i64 (-m), .string ⟨#[]⟩, .slice none 0 0, .slice none 0 0]) (by simp [results, Tryz.results139, go_sem, c0, c1, c2, c3, c4]) rfl (Res.mkOk (b := (-m, r5)) (by simp only [numR, HC.out, if_true, minusR]; rw [if_pos HF.out]; rw [HR.out]; simp [numF, hbig]) hB ⟨rfl, st⟩)
    · have hq : ¬ (c.toNat : Int) = 45 := by omega
      have hq' : ((c.toNat : Int) == 45) = false := by rw [beq_eq_false_iff_ne]; exact hq
      have HC := Lib.hid hc
      clear hc
      have HS := HS1
      clear HS1
      have C := Lib.hid (readDigits_any hl HS.out.2.2)
      go_wp2_with fail
      refine C.out.mono ?_
      rintro e w5 hres
      clear C
      cases hR : digitsR (c :: r1) with
      | er a b =>
        obtain rfl := hres.er a b hR
        have HB := Lib.hid (HS.out.1.trans hres.but)
        clear hres
        go_wp2
        exact ⟨rfl, Res.mkEr (k := a) (c := b) (by simp only [numR, HC.out, if_false]; rw [hR]; rfl) HB.out⟩
      | ok p =>
        obtain ⟨m, r5⟩ := p
        obtain ⟨v, rfl, rfl, st5⟩ := hres.ok _ hR
        have HB := Lib.hid (And.intro (HS.out.1.trans hres.but) (And.intro (Own.but HS.out.2.1 hres.but (by omega)) st5))
        have hm0 := digitsR_nonneg hR
        have HR := Lib.hid hR
        clear hres hR st5 HS
        simp only at hm0
        by_cases hbig : 1000000000000000 < m
        · have C := Lib.hid (failAt_any pb i0 5 w5)
          go_wp2_with fail
          refine C.out.mono ?_
          rintro e w6 ⟨rfl, rfl⟩
          go_wp2
          refine ⟨rfl, ?_⟩
          rw [HSTART.out]
          exact Res.mkEr (k := r1.length + 1) (c := 5) (by simp only [numR, HC.out, if_false]; rw [HR.out]; simp [numF, hbig]) HB.out.1
        · have C := Lib.hid (int_any (m) w5)
          go_wp2_with fail
          refine C.out.mono ?_
          rintro e w6 ⟨rfl, hb6⟩
          obtain ⟨hB, oR, st⟩ := HB.out
          replace hB := hB.all hb6
          replace oR := oR.all hb6
          replace st := st.all hb6
          clear C HB hb6
          have r0 := oR.cell (i := 0) rfl
          have r1 := oR.cell (i := 1) rfl
          have r2 := oR.cell (i := 2) rfl
          have r3 := oR.cell (i := 3) rfl
          have r4 := oR.cell (i := 4) rfl
          have g0 := oR.frozen 0
          have g1 := oR.frozen 1
          have g2 := oR.frozen 2
          have g3 := oR.frozen 3
          have g4 := oR.frozen 4
          have HS := Lib.hid (And.intro (own_put5 oR (.int .i64 2) (.int .i64 (m)) (.string ⟨#[]⟩) (.slice none 0 0) (.slice none 0 0)) (And.intro (hB.put5 (b := w.heap.size) (by omega) (.int .i64 2) (.int .i64 (m)) (.string ⟨#[]⟩) (.slice none 0 0) (.slice none 0 0)) (st.put5 (b := w.heap.size) (by omega) (.int .i64 2) (.int .i64 (m)) (.string ⟨#[]⟩) (.slice none 0 0) (.slice none 0 0))))
          clear hB oR st
          go_wp2
          clear r0 r1 r2 r3 r4 g0 g1 g2 g3 g4
          change bodyPost Tryz.prog Tryz.f139 _ _ _ (put5 w6 (w.heap.size) (.int .i64 2) (.int .i64 (m)) (.string ⟨#[]⟩) (.slice none 0 0) (.slice none 0 0))
          generalize put5 w6 (w.heap.size) (.int .i64 2) (.int .i64 (m)) (.string ⟨#[]⟩) (.slice none 0 0) (.slice none 0 0) = U at *
          obtain ⟨oS, hB, st⟩ := HS.out
          have c0 := oS.cell (i := 0) rfl
          have c1 := oS.cell (i := 1) rfl
          have c2 := oS.cell (i := 2) rfl
          have c3 := oS.cell (i := 3) rfl
          have c4 := oS.cell (i := 4) rfl
          exact bodyPost_ret (v := .agg #[.int .i64 2, .int .i64 (m), .string ⟨#[]⟩, .slice none 0 0, .slice none 0 0]) (by simp [results, Tryz.results139, go_sem, c0, c1, c2, c3, c4]) rfl (Res.mkOk (b := (m, r5)) (by simp only [numR, HC.out, if_false]; rw [HR.out]; simp [numF, hbig]) hB ⟨rfl, st⟩)
end Go.Proofs.YtjpmnlefjmdelaaGreatDoor
namespace Go.Proofs.YtjpmnlefjmdelaaGreatDoor
open Go.RowKit Go.Sort Go.Proofs.LawFrame

def bC (l : Str) : List Value := l.map (fun c => .int .u8 (c.toNat : Int))
theorem bC_len (l : Str) : (bC l).length = l.length := by simp [bC]
theorem bC_snoc (l : Str) (x : UInt8) : bC (l ++ [x]) = bC l ++ [.int .u8 (x.toNat : Int)] := by simp [bC]
theorem info5 : (Tryz.prog.info? 5).map (fun i => (i.zero, i.size, i.bytes)) = some (some (.int .u8 0), 1, 1) := by kernel_rfl
theorem strOfNums_of (l : Str) : strOfNums (l.map (fun c => (c.toNat : Int))) = ⟨l.toArray⟩ := by
  unfold strOfNums
  congr 1
  rw [List.map_map]
  congr 1
  have : ((fun n : Int => UInt8.ofNat n.toNat) ∘ fun c : UInt8 => (c.toNat : Int)) = id := by funext c; simp
  rw [this, List.map_id]
theorem conv_own {w : World} {base : Nat} {v : Value} {l : Str} (h : w.ownsRow base 5 1 v l.length (bC l)) : (convert 61 9 v).run Tryz.prog w = .ok (sV l) w := by
  have hF := Flat.of_own h
  obtain ⟨ao, cap, rfl, h1, h2, h3⟩ := hF.out
  rcases Nat.eq_zero_or_pos l.length with h0 | h0
  · obtain rfl : l = [] := List.eq_nil_of_length_eq_zero h0
    rcases h.2 with ⟨hv, -⟩ | ⟨g, cap', cur, hv, hb, hg, k1, k2, k3, k4⟩
    · rw [hv, run_convert_bytes_nil w 61 5 Tryz.underlying61 Tryz.underlying5 0 0 9 Tryz.underlying9]; rfl
    · rw [hv]
      exact (run_convert_bytes_arg w 61 5 Tryz.underlying61 Tryz.underlying5 g 0 0 cap' [] rfl (fun i hi => absurd hi (by omega)) 9 Tryz.underlying9).trans (by rw [show strOfNums [] = ⟨#[]⟩ from rfl])
  · obtain ⟨b, off, rfl, hb, hc⟩ := h3 h0
    rw [run_convert_bytes_arg w 61 5 Tryz.underlying61 Tryz.underlying5 b off l.length cap (l.map (fun c => (c.toNat : Int))) (by simp) (fun i hi => hc i _ (by simp [bC, List.getD, hi])) 9 Tryz.underlying9, strOfNums_of]
theorem row_but {w w' : World} {base : Nat} {e : TypeId} {size : Nat} {v : Value} {n : Nat} {xs : List Value} {b : Nat} (h : w.ownsRow base e size v n xs) (hb : But b w w') (hlt : b < base) : w'.ownsRow base e size v n xs :=
  h.kept (row := some b) ⟨hb.os, hb.tape, hb.output, hb.size, fun k hk hne => hb.block k hk (fun e => hne (by rw [e]))⟩ (by
    cases hv : v.ownBlock with
    | none => exact Or.inl rfl
    | some k => exact Or.inr (by have := own_row h k hv; intro e; cases e; omega))
theorem St.grown {pb : Nat} {s r : Str} {n : Int} {w w' : World} {row : Option Nat} (h : St pb s r n w) (hg : w.grownBy w' row) (hne : ¬ row = some pb) : St pb s r n w' := by
  obtain ⟨j, h1, h2, h3⟩ := h.out; exact ⟨j, h1, h2, own_kept' h3 hg hne⟩

def prepR (acc : Str) : R (Str × Str) → R (Str × Str)
  | .er a b => .er a b
  | .ok (l, r) => .ok (acc ++ l, r)
theorem prepR_nil (x : R (Str × Str)) : prepR [] x = x := by cases x <;> rfl
theorem charR_len {r : Str} {x : UInt8} {r2 : Str} (h : charR r = .ok (x, r2)) : r2.length < r.length := by
  cases r with
  | nil => simp [charR] at h
  | cons c r =>
    simp only [charR] at h
    split at h
    · cases r with
      | nil => simp [escR] at h
      | cons e r =>
        simp only [escR] at h
        split at h
        · cases h; simp; omega
        · split at h
          · cases h; simp; omega
          · cases h
    · cases h; simp
theorem strR_fuel : ∀ (f f' k : Nat) (r : Str), r.length < f → r.length < f' → strR f k r = strR f' k r := by
  intro f
  induction f with
  | zero => intro f' k r h; omega
  | succ f ih =>
    intro f' k r h h'
    cases f' with
    | zero => omega
    | succ f' =>
      cases r with
      | nil => rfl
      | cons c r =>
        simp only [strR]
        split
        · rfl
        · split
          · rfl
          · split
            · rfl
            · cases hR : charR (c :: r) with
              | er a b => rfl
              | ok p =>
                obtain ⟨x, r2⟩ := p
                have hl := charR_len hR
                simp only
                rw [ih f' (k + 1) r2 (by simp at h hl; omega) (by simp at h' hl; omega)]
def STI (r acc r' : Str) : Prop := strR (r.length + 1) 0 r = prepR acc (strR (r'.length + 1) acc.length r')
theorem STI.next {r acc : Str} {c : UInt8} {r2 : Str} {x : UInt8} {r3 : Str} (h : STI r acc (c :: r2)) (h34 : ¬ c.toNat = 34) (hp : prt c = true) (hk : ¬ acc.length = 200) (hR : charR (c :: r2) = .ok (x, r3)) : STI r (acc ++ [x]) r3 := by
  unfold STI at *
  rw [h]
  rw [strR]
  simp only [h34, if_false, hp, Bool.true_eq_false, hk, hR]
  rw [strR_fuel _ (r3.length + 1) _ r3 (by have := charR_len hR; simp at this ⊢; omega) (by omega), List.length_append, List.length_singleton]
  cases strR (r3.length + 1) (acc.length + 1) r3 with
  | er a b => rfl
  | ok p => obtain ⟨l, r4⟩ := p; simp [prepR]

set_option maxHeartbeats 4000000 in
set_option maxRecDepth 4000 in
theorem readString_any {pb : Nat} {s r : Str} {n : Int} {w : World} (hl : s.length ≤ 20000) {c0 : UInt8} (hc0 : c0.toNat = 34) (st : St pb s (c0 :: r) n w) :
    Calls Tryz.prog 136 #[.pointer (some ⟨pb, 0, none⟩)] w (Res pb s w (strR (r.length + 1) 0 r) (fun p w' v => v = sV p.1 ∧ St pb s p.2 n w')) := by
  have hpb := st.lt
  obtain ⟨i5, hi5, hz5, hs5, hy5⟩ := info_parts info5
  have C := Lib.hid (readByte_any hl (c := 34) (ci := 34) rfl st)
  have hc34 : c0 = 34 := UInt8.toNat_inj.1 hc0
  have hR0 : byteR 34 (c0 :: r) = .ok r := by simp [byteR, hc34]
  have HR0 := Lib.hid hR0
  clear st hc0 hc34 hR0
  go_enter Tryz.func136, Tryz.ntmps136
  go_wp2_with fail
  refine C.out.mono ?_
  rintro e w1 hres
  obtain ⟨v, rfl, rfl, st⟩ := hres.ok _ HR0.out
  have HS := Lib.hid (And.intro hres.but st)
  clear hres st C HR0
  go_wp2
  go_loopg [3] (r.length + 1) (fun g v wr => ∃ (acc r' : Str), g = r'.length + 1 ∧ acc.length ≤ 200 ∧ But pb w wr ∧ wr.ownsRow w.heap.size 5 1 v acc.length (bC acc) ∧ St pb s r' n wr ∧ Hid (STI r acc r'))
  case atStart => exact ⟨[], r, rfl, by simp, HS.out.1, own_nil _ _ _ _, HS.out.2, Lib.hid (by unfold STI; rw [prepR_nil]; rfl)⟩
  case round =>
    obtain ⟨acc, r', hg, hal, hb, hown, st, HE⟩ := hrel
    have HG := Lib.hid hg
    clear hg HS
    obtain ⟨ao, cap, hu, -, -, -⟩ := (Flat.of_own hown).out
    subst hu
    generalize hN : acc.length = N at *
    have HN := Lib.hid hN
    clear hN
    have hbsz := hb.size
    cases r' with
    | nil =>
      have HB := Lib.hid (And.intro hb st)
      clear hb hown st
      go_wp2_with fail
      refine (peek_no hl HB.out.2).mono ?_
      rintro e w2 ⟨rfl, hb2⟩
      go_wp2
      exact ⟨rfl, Res.mkEr (k := 0) (c := 3) (by rw [HE.out]; rfl) (HB.out.1.all hb2)⟩
    | cons c r2 =>
      have HB := Lib.hid (And.intro hb (And.intro hown st))
      clear hb hown st
      go_wp2_with fail
      refine (peek_ok hl HB.out.2.2).mono ?_
      rintro e w2 ⟨rfl, hb2⟩
      have HB2 := Lib.hid (And.intro (HB.out.1.all hb2) (And.intro (own_below HB.out.2.1 hb2) (HB.out.2.2.all hb2)))
      have hsz2 := hb2.size
      clear HB hb2
      by_cases h34 : c.toNat = 34
      · have q : (c.toNat : Int) = 34 := by omega
        have C := Lib.hid (readByte_any hl (c := 34) (ci := 34) rfl HB2.out.2.2)
        have HR : Hid (byteR 34 (c :: r2) = .ok r2) := Lib.hid (by simp [byteR, show c = 34 from UInt8.toNat_inj.1 h34])
        have HF : Hid (strR (r.length + 1) 0 r = .ok (acc, r2)) := Lib.hid (by rw [HE.out]; simp [strR, h34, prepR])
        clear h34
        go_wp2_with fail
        refine C.out.mono ?_
        rintro e w3 hres
        obtain ⟨v, rfl, rfl, st⟩ := hres.ok _ HR.out
        have hown3 := row_but HB2.out.2.1 hres.but (by omega)
        have hcv := conv_own (by rw [HN.out]; exact hown3)
        have HS := Lib.hid (And.intro (HB2.out.1.trans hres.but) st)
        clear hres st C HR hown3 HB2
        go_wp2
        go_ret
        exact Res.mkOk (b := (acc, r2)) HF.out HS.out.1 ⟨rfl, HS.out.2⟩
      · have q : ¬ (c.toNat : Int) = 34 := by omega
        have q' : ((c.toNat : Int) == 34) = false := by rw [beq_eq_false_iff_ne]; exact q
        have H34 := Lib.hid h34
        clear h34
        go_wp2_with fail
        refine (peek_ok hl HB2.out.2.2).mono ?_
        rintro e w3 ⟨rfl, hb3⟩
        have HB3 := Lib.hid (And.intro (HB2.out.1.all hb3) (And.intro (own_below HB2.out.2.1 hb3) (HB2.out.2.2.all hb3)))
        have hsz3 := hb3.size
        clear HB2 hb3
        go_wp2_with fail
        refine (isPrintable_any c w3).mono ?_
        rintro e w4 ⟨rfl, rfl⟩
        cases hp : prt c
        · have C := Lib.hid (fail_st 2 HB3.out.2.2)
          go_wp2_with fail
          refine C.out.mono ?_
          rintro e w5 ⟨rfl, rfl⟩
          go_wp2
          exact ⟨rfl, Res.mkEr (k := r2.length + 1) (c := 2) (by rw [HE.out]; simp [strR, H34.out, hp, prepR]) HB3.out.1⟩
        · have HP := Lib.hid hp
          clear hp
          by_cases hk : N = 200
          · have hk' : (N : Int) = 200 := by omega
            have C := Lib.hid (fail_st 4 HB3.out.2.2)
            have HK := Lib.hid hk
            clear hk
            go_wp2_with fail
            refine C.out.mono ?_
            rintro e w5 ⟨rfl, rfl⟩
            go_wp2
            exact ⟨rfl, Res.mkEr (k := r2.length + 1) (c := 4) (by rw [HE.out, HN.out]; simp [strR, H34.out, HP.out, HK.out, prepR]) HB3.out.1⟩
          · have hk' : ((N : Int) == 200) = false := by rw [beq_eq_false_iff_ne]; omega
            have C := Lib.hid (readCharacter_any hl HB3.out.2.2)
            go_wp2_with fail
            refine C.out.mono ?_
            rintro e w5 hres
            clear C
            cases hR : charR (c :: r2) with
            | er a b =>
              obtain rfl := hres.er a b hR
              have HB := Lib.hid (HB3.out.1.trans hres.but)
              clear hres
              go_wp2
              exact ⟨rfl, Res.mkEr (k := a) (c := b) (by rw [HE.out, HN.out]; simp [strR, H34.out, HP.out, hk, hR, prepR]) HB.out⟩
            | ok p =>
              obtain ⟨x, r3⟩ := p
              obtain ⟨v, rfl, rfl, st⟩ := hres.ok _ hR
              have hb5 := HB3.out.1.trans hres.but
              have hown5 := row_but HB3.out.2.1 hres.but (by omega)
              have hsz5 := hb5.size
              have HE2 : Hid (STI r (acc ++ [x]) r3) := Lib.hid (HE.out.next H34.out HP.out (by rw [HN.out]; exact hk) hR)
              have hcl := charR_len hR
              have HST := Lib.hid (And.intro hb5 st)
              clear hres st hb5 hR HB3 HE
              go_wp2_with (first | (at_builtin; refine wpList_append_own _ rfl (.tmp 20) (.tmp 23) 61 rfl w.heap.size 5 i5 (.int .u8 0) 1 1 Tryz.underlying61 hi5 hz5 hs5 hy5 rfl (by decide) _ _ _ rfl (hown5.alloc _) ⟨w5.heap.size, 0, none⟩ 1 1 [.int .u8 (x.toNat : Int)] rfl rfl (own_src (Own.new _ _ _)) (fun u hu => by simp at hu; subst hu; rfl) (by unfold maxLen; omega) (by omega) (by simp; omega) ?_; intro v' w6 hown6 hgrow6 hnil6))
              go_roundg (r3.length + 1)
              case measure => have := HG.out; simp at this hcl; omega
              case rel => exact ⟨acc ++ [x], r3, rfl, by rw [List.length_append, HN.out]; simp; omega, ((HST.out.1.all (below_alloc w5 _)).grown hgrow6 (fun k hk => own_row hown5 k hk)), by rw [bC_snoc, List.length_append, HN.out]; exact hown6, (HST.out.2.all (below_alloc w5 _)).grown hgrow6 (fun e => by have := own_row hown5 pb e; omega), HE2⟩
end Go.Proofs.YtjpmnlefjmdelaaGreatDoor
