/- Lists. -/
import Derived.Test.YtjpmnlefjmdelaaDoorKk
import Derived.Test.YtjpmnlefjmdelaaDoorEh
import Derived.Test.YtjpmnlefjmdelaaDoorEc
namespace Go.Proofs.YtjpmnlefjmdelaaDoor
open Go.RowKit Go.Sort Go.Proofs.LawFrame

theorem AccV.but {base b : Nat} {p : Value} {w w' : World} {cs : List VC} {l : List T} (h : AccV base p w cs l) (hb : But b w w') (hlt : b < base) : AccV base p w' cs l :=
  h.keep hb.size (fun _ _ h _ => h) (fun k hk _ hl => hb.block k hl (by omega))
theorem AccF.but {base b : Nat} {p : Value} {w w' : World} {cs : List FC} {l : List (Str × T)} (h : AccF base p w cs l) (hb : But b w w') (hlt : b < base) : AccF base p w' cs l :=
  h.keep hb.size (fun _ _ h _ => h) (fun k hk _ hl => hb.block k hl (by omega))
theorem sepR_nil {c : UInt8} {r : Str} (h : skp r = []) : sepR c r = .er 0 3 := by simp [sepR, closeR, h]
theorem sepR_close {c : UInt8} {r r' : Str} (h : skp r = c :: r') : sepR c r = .ok (true, r') := by simp [sepR, closeR, h]
theorem sepR_comma {c d : UInt8} {r r' : Str} (h : skp r = d :: r') (hc : ¬ d = c) (hd : d.toNat = 44) : sepR c r = .ok (false, r') := by
  obtain rfl : d = 44 := UInt8.toNat_inj.1 hd
  simp [sepR, closeR, h, hc, byteR]
theorem sepR_bad {c d : UInt8} {r r' : Str} (h : skp r = d :: r') (hc : ¬ d = c) (hd : ¬ d.toNat = 44) : sepR c r = .er (r'.length + 1) 2 := by
  have : ¬ d = 44 := fun e => hd (by rw [e]; rfl)
  simp [sepR, closeR, h, hc, byteR, this]
def prepL {α : Type} (l : List α) : R (List α × Nat × Str) → R (List α × Nat × Str)
  | .er a b => .er a b
  | .ok (l', n, r) => .ok (l ++ l', n, r)
theorem prepL_nil {α : Type} (x : R (List α × Nat × Str)) : prepL [] x = x := by cases x <;> rfl
theorem elemsR_next {pv : PV} {m n : Nat} {r : Str} {t : T} {n' : Nat} {r' : Str} {c : UInt8} {r2 : Str} (hp : pv (decide (m + 1 = 0)) n r = .ok (t, n', r')) (hs : skp r' = c :: r2) (hc : c.toNat = 44) (l : List T) : prepL l (elemsR pv (m + 1) n r) = prepL (l ++ [t]) (elemsR pv m n' r2) := by
  rw [elemsR, hp]
  simp only [hs, hc]
  cases elemsR pv m n' r2 with
  | er a b => rfl
  | ok q => obtain ⟨l2, n2, r3⟩ := q; simp [prepL]
theorem membersR_next {pv : PV} {m : Nat} {seen : List Str} {n : Nat} {r : Str} {p : Str × T} {n' : Nat} {r' : Str} {c : UInt8} {r2 : Str} (hp : fieldR pv (m + 1) seen n r = .ok (p, n', r')) (hs : skp r' = c :: r2) (hc : c.toNat = 44) (l : List (Str × T)) : prepL l (membersR pv (m + 1) seen n r) = prepL (l ++ [p]) (membersR pv m (seen ++ [p.1]) n' r2) := by
  rw [membersR, hp]
  simp only [hs, hc]
  cases membersR pv m (seen ++ [p.1]) n' r2 with
  | er a b => rfl
  | ok q => obtain ⟨l2, n2, r3⟩ := q; simp [prepL]
theorem vals_nil (w : World) : Vals w (.slice none 0 0) [] := ⟨[], rfl, Flat.nil _ _ _ (Nat.zero_le _) _, fun i x t h => by simp at h⟩
theorem flds_nil (w : World) : Flds w (.slice none 0 0) [] := ⟨[], rfl, Flat.nil _ _ _ (Nat.zero_le _) _, fun i x t h => by simp at h, fun i x t h => by simp at h⟩

set_option maxHeartbeats 8000000 in
set_option maxRecDepth 4000 in
theorem readList_of {pb : Nat} {s r : Str} {n : Nat} {w : World} (hl : s.length ≤ 20000) {d : Int} {pv : PV} (hd1 : 0 ≤ d) (hd2 : d ≤ 100) (PV' : PVOk pv) (HV : RV pb s (d + 1) pv) (hn : n ≤ 600) {c0 : UInt8} (hc0 : c0.toNat = 91) (st : St pb s (c0 :: r) (n : Int) w) :
    Calls Tryd.prog 70 #[.pointer (some ⟨pb, 0, none⟩), .int .i64 d] w (Res pb s w (listR pv n r) (QV pb s w)) := by
  have hpb := st.lt
  obtain ⟨iE, hiE, hzE, hsE, hyE⟩ := info_parts info25
  have hB := But.allow (b := pb) (below_alloc w (.cells #[.int .i64 0, .int .i64 0, .string ⟨#[]⟩, .slice none 0 0, .slice none 0 0] 26))
  have oR := Own.new w [.int .i64 0, .int .i64 0, .string ⟨#[]⟩, .slice none 0 0, .slice none 0 0] 26
  have st' := st.all (below_alloc w (.cells #[.int .i64 0, .int .i64 0, .string ⟨#[]⟩, .slice none 0 0, .slice none 0 0] 26))
  have HS := Lib.hid (And.intro hB (And.intro oR st'))
  have HR0 : Hid (byteR 91 (c0 :: r) = .ok r) := Lib.hid (by simp [byteR, show c0 = 91 from UInt8.toNat_inj.1 hc0])
  clear hB oR st' st hc0
  go_enter Tryd.func70, Tryd.ntmps70
  go_upto_region 1 with (fail)
  change Code.wp Tryd.prog _ _ _ (w.alloc (.cells #[.int .i64 0, .int .i64 0, .string ⟨#[]⟩, .slice none 0 0, .slice none 0 0] 26))
  generalize w.alloc (.cells #[.int .i64 0, .int .i64 0, .string ⟨#[]⟩, .slice none 0 0, .slice none 0 0] 26) = V at *
  have C := Lib.hid (readByte_any hl (c := 91) (ci := 91) rfl HS.out.2.2)
  go_wp2_with fail
  refine C.out.mono ?_
  rintro e w1 hres
  obtain ⟨v, rfl, rfl, st1⟩ := hres.ok _ HR0.out
  have HS1 := Lib.hid (And.intro (HS.out.1.trans hres.but) (And.intro (Own.but HS.out.2.1 hres.but (by omega)) st1))
  clear hres st1 HS C HR0
  have C := Lib.hid (readClosing_any hl (c := 93) (ci := 93) rfl HS1.out.2.2)
  go_wp2_with fail
  refine C.out.mono ?_
  rintro e w2 hres
  clear C
  obtain ⟨q, hq⟩ : ∃ q, skp r = q := ⟨_, rfl⟩
  have HQ := Lib.hid hq
  clear hq
  cases q with
  | nil =>
    obtain rfl := hres.er 0 3 (by simp [closeR, HQ.out])
    have HB := Lib.hid (HS1.out.1.trans hres.but)
    clear hres
    go_wp2
    exact ⟨rfl, Res.mkEr (k := 0) (c := 3) (by unfold listR; rw [HQ.out]) HB.out⟩
  | cons d0 q2 =>
    by_cases h93 : d0.toNat = 93
    · have HD := Lib.hid h93
      obtain ⟨v, rfl, rfl, st2⟩ := hres.ok (true, q2) (by simp [closeR, HQ.out, show d0 = 93 from UInt8.toNat_inj.1 h93])
      have HS2 := Lib.hid (And.intro (HS1.out.1.trans hres.but) (And.intro (Own.but HS1.out.2.1 hres.but (by omega)) st2))
      clear hres st2 HS1 h93
      have C := Lib.hid (list_any (.slice none 0 0) [] w2 (vals_nil w2) (by simp) (by simp))
      go_wp2_with fail
      refine C.out.mono ?_
      rintro e w3 ⟨c9, rfl, hb3, hI⟩
      clear C
      obtain ⟨hB, oR, st⟩ := HS2.out
      have hs2 := hB.size
      have hlt2 := oR.lt
      replace hB := hB.all hb3
      replace oR := oR.all hb3
      replace st := st.all hb3
      have hI9 : IsA w3 (fun b => w.heap.size < b ∧ w.heap.size ≤ b) c9 _ := hI.mono (fun b hb => ⟨by omega, by omega⟩)
      clear hI hb3 HS2
      have r0 := oR.cell (i := 0) rfl
      have r1 := oR.cell (i := 1) rfl
      have r2 := oR.cell (i := 2) rfl
      have r3 := oR.cell (i := 3) rfl
      have r4 := oR.cell (i := 4) rfl
      have g0 := oR.frozen 0
      have g1 := oR.frozen 1
      have g2 := oR.frozen 2
      have g3 := oR.frozen 3
      have g4 := oR.frozen 4
      have HS := Lib.hid (And.intro (own_put5 oR (.int .i64 c9.k) (.int .i64 c9.n) (sV c9.s) (.slice c9.la c9.ln c9.lc) (.slice c9.fa c9.fn c9.fc)) (And.intro (hB.put5 (b := w.heap.size) (by omega) (.int .i64 c9.k) (.int .i64 c9.n) (sV c9.s) (.slice c9.la c9.ln c9.lc) (.slice c9.fa c9.fn c9.fc)) (And.intro (st.put5 (b := w.heap.size) (by omega) (.int .i64 c9.k) (.int .i64 c9.n) (sV c9.s) (.slice c9.la c9.ln c9.lc) (.slice c9.fa c9.fn c9.fc)) (hI9.put5 (b := w.heap.size) (fun h => absurd h.1 (Nat.lt_irrefl _)) (.int .i64 c9.k) (.int .i64 c9.n) (sV c9.s) (.slice c9.la c9.ln c9.lc) (.slice c9.fa c9.fn c9.fc)))))
      clear hB oR st hI9
      go_wp2
      clear r0 r1 r2 r3 r4 g0 g1 g2 g3 g4
      change bodyPost Tryd.prog Tryd.f70 _ _ _ (put5 w3 (w.heap.size) (.int .i64 c9.k) (.int .i64 c9.n) (sV c9.s) (.slice c9.la c9.ln c9.lc) (.slice c9.fa c9.fn c9.fc))
      generalize put5 w3 (w.heap.size) (.int .i64 c9.k) (.int .i64 c9.n) (sV c9.s) (.slice c9.la c9.ln c9.lc) (.slice c9.fa c9.fn c9.fc) = U at *
      obtain ⟨oS, hB, st, hI9⟩ := HS.out
      have c0 := oS.cell (i := 0) rfl
      have c1 := oS.cell (i := 1) rfl
      have c2 := oS.cell (i := 2) rfl
      have c3 := oS.cell (i := 3) rfl
      have c4 := oS.cell (i := 4) rfl
      exact bodyPost_ret (v := c9.val) (by simp [results, Tryd.results70, go_sem, c0, c1, c2, c3, c4, VC.val]) rfl (Res.mkOk (b := (.mk 4 0 [] [] [], n, q2)) (by unfold listR; rw [HQ.out]; simp [HD.out]) hB ⟨⟨c9, rfl, hI9.mono (fun b hb => hb.2)⟩, st⟩)
    · have HD0 := Lib.hid h93
      have HQ0 := HQ
      obtain ⟨v, rfl, rfl, st2⟩ := hres.ok (false, d0 :: q2) (by simp [closeR, HQ.out, show ¬ d0 = 93 from fun e => h93 (by rw [e]; rfl)])
      have HS2 := Lib.hid (And.intro (HS1.out.1.trans hres.but) (And.intro (Own.but HS1.out.2.1 hres.but (by omega)) st2))
      clear hres st2 HS1 h93
      go_wp2
      go_loopg [5] 65 (fun g v wr => ∃ (m : Nat) (cs : List VC) (l : List T) (n' : Nat) (r' : Str), g = m + 1 ∧ cs.length + m = 64 ∧ n' ≤ 600 ∧ But pb w wr ∧ Own wr w.heap.size [.int .i64 0, .int .i64 0, .string ⟨#[]⟩, .slice none 0 0, .slice none 0 0] 26 ∧ wr.ownsRow (w.heap.size + 1) 26 5 v cs.length (cs.flatMap VC.cells) ∧ AccV (w.heap.size + 1) v wr cs l ∧ St pb s r' (n' : Int) wr ∧ Hid ((∀ t ∈ l, t.size ≤ 600) ∧ elemsR pv 64 n r = prepL l (elemsR pv m n' r')))
      case atStart => exact ⟨64, [], [], n, d0 :: q2, rfl, by simp, hn, HS2.out.1, HS2.out.2.1, own_nil _ _ _ _, AccV.nil _ _ _, HS2.out.2.2, Lib.hid ⟨by simp, by rw [prepL_nil, ← HQ.out]; rw [elemsR, elemsR, PV'.skp]⟩⟩
      case round =>
        obtain ⟨m, cs, l, n', r', hg, hm, hn', hb, oR, hown, hA, st, HE0⟩ := hrel
        have HE : Hid (elemsR pv 64 n r = prepL l (elemsR pv m n' r')) := Lib.hid HE0.out.2
        have HSZ0 := Lib.hid HE0.out.1
        have HG := Lib.hid hg
        have HAL := Lib.hid hA.len
        clear hg HS2 HE0 HQ
        obtain ⟨ao, cap, hu, -, -, -⟩ := (Flat.of_own hown).out
        
        have hfull : (((cs.length : Nat) : Int) == 64) = decide (m = 0) := by
          by_cases h : m = 0
          · rw [decide_eq_true h, beq_iff_eq]; omega
          · rw [decide_eq_false h, beq_eq_false_iff_ne]; omega
        have C := Lib.hid (HV (decide (m = 0)) n' r' wr hn' st)
        subst hu
        generalize hN : cs.length = N at *
        have HN := Lib.hid hN
        have hN64 : N ≤ 64 := by omega
        have hwr := oR.lt
        have HM := Lib.hid hm
        have HS3 := Lib.hid (And.intro hb (And.intro oR (And.intro hown hA)))
        clear hN hb oR hown hA st hm
        obtain ⟨fb, hfb⟩ : ∃ fb, decide (m = 0) = fb := ⟨_, rfl⟩
        rw [hfb] at hfull C
        have HFB := Lib.hid hfb
        clear hfb
        go_wp2_with fail
        refine C.out.mono ?_
        rintro e w5 hres
        clear C
        cases hR : pv fb n' r' with
        | er a b =>
          obtain rfl := hres.er a b hR
          have HB := Lib.hid (HS3.out.1.trans hres.but)
          clear hres
          go_wp2
          exact ⟨rfl, Res.mkEr (k := a) (c := b) (by unfold listR; rw [HQ0.out]; simp only [HD0.out, if_false]; rw [HE.out, elemsR, HFB.out, hR]; rfl) HB.out⟩
        | ok q =>
          obtain ⟨t, n2, r2⟩ := q
          obtain ⟨v, rfl, hqv⟩ := hres.ok _ hR
          obtain ⟨c6, rfl, hI6⟩ := hqv.val
          rw [← HFB.out] at hR
          have hsz := (PV'.size _ _ _ _ _ _ hn' hR)
          have HR := Lib.hid hR
          have hb5 := HS3.out.1.trans hres.but
          have oR5 := Own.but HS3.out.2.1 hres.but (by omega)
          have hown5 := row_but HS3.out.2.2.1 hres.but (by omega)
          have hA5 := HS3.out.2.2.2.but hres.but (by omega)
          have hs5 := hres.but.size
          have hrlt : ∀ k, (Value.slice ao N cap).ownBlock = some k → k < wr.heap.size := fun k h => (HS3.out.2.2.1.lt k h).2
          have hrl := own_row hown5
          have hAN := hA5.snoc (c := c6) (t := t) (hI6.mono (fun b hb => ⟨by have : wr.heap.size ≤ b := hb; omega, fun e => by have := hrlt b e; have : wr.heap.size ≤ b := hb; omega⟩))
          have HSZ : Hid (∀ y ∈ l ++ [t], y.size ≤ 600) := Lib.hid (fun x hx => by
            rcases List.mem_append.1 hx with h | h
            · exact HSZ0.out x h
            · obtain rfl := List.mem_singleton.1 h; omega)
          have HS5 := Lib.hid (And.intro (hb5.all (below_alloc w5 (.cells #[.int .i64 c6.k, .int .i64 c6.n, sV c6.s, .slice c6.la c6.ln c6.lc, .slice c6.fa c6.fn c6.fc] 26))) (And.intro (oR5.alloc (.cells #[.int .i64 c6.k, .int .i64 c6.n, sV c6.s, .slice c6.la c6.ln c6.lc, .slice c6.fa c6.fn c6.fc] 26)) (And.intro (hqv.st.all (below_alloc w5 (.cells #[.int .i64 c6.k, .int .i64 c6.n, sV c6.s, .slice c6.la c6.ln c6.lc, .slice c6.fa c6.fn c6.fc] 26))) (hAN.below (below_alloc w5 (.cells #[.int .i64 c6.k, .int .i64 c6.n, sV c6.s, .slice c6.la c6.ln c6.lc, .slice c6.fa c6.fn c6.fc] 26))))))
          clear hres hI6 hqv hR hAN hA5 hb5 oR5 HS3 HSZ0
          go_wp2_with (first | (at_builtin; refine wpList_append_lies _ rfl (.tmp 11) (.tmp 19) 23 rfl (w.heap.size + 1) 26 iE (.agg #[.int .i64 0, .int .i64 0, .string ⟨#[]⟩, .slice none 0 0, .slice none 0 0]) 5 80 Tryd.underlying23 hiE hzE hsE hyE rfl (by decide) _ _ _ rfl (hown5.alloc _) ⟨w5.heap.size, 0, none⟩ 1 1 (VC.cells c6) rfl rfl (own_src (Own.new _ _ _)) (five_one c6) (by decide) (by unfold maxLen; omega) (by omega) (by rw [size_alloc]; omega) _ rfl ?_; intro gg gcap w7 hown7 hgrow7 hlies hglt; have HS7 := Lib.hid (And.intro (HS5.out.1.grown hgrow7 (fun k h => by have := hrl k h; omega)) (And.intro (own_kept' HS5.out.2.1 hgrow7 (fun e => by have := hrl _ e; omega)) (And.intro (HS5.out.2.2.1.grown hgrow7 (fun e => by have := hrl _ e; omega)) (And.intro hown7 (HS5.out.2.2.2.grow (n := N + 1) (cap := gcap) hgrow7 (by rcases hlies with h | h; exact Or.inl h; exact Or.inr h)))))); clear hown7 hgrow7 hlies hglt HS5 hown5) | fail)
          have C := Lib.hid (readSeparator_any hl (c := 93) (ci := 93) rfl HS7.out.2.2.1)
          generalize Value.slice (some ⟨gg, 0, none⟩) (N + 1) gcap = v7 at *
          go_wp2_with fail
          refine C.out.mono ?_
          rintro e w8 hres
          clear C
          obtain ⟨q, hq⟩ : ∃ q, skp r2 = q := ⟨_, rfl⟩
          have HSK := Lib.hid hq
          clear hq
          cases q with
          | nil =>
            obtain rfl := hres.er 0 3 (sepR_nil HSK.out)
            have HB := Lib.hid (HS7.out.1.trans hres.but)
            clear hres
            go_wp2
            exact ⟨rfl, Res.mkEr (k := 0) (c := 3) (by unfold listR; rw [HQ0.out]; simp only [HD0.out, if_false]; rw [HE.out, elemsR, HR.out]; simp only [HSK.out]; rfl) HB.out⟩
          | cons dd r3 =>
            by_cases h93 : dd.toNat = 93
            · have H93 := Lib.hid h93
              obtain ⟨v, rfl, rfl, st8⟩ := hres.ok (true, r3) (sepR_close (by rw [HSK.out, show dd = 93 from UInt8.toNat_inj.1 h93]))
              have hown8 := row_but HS7.out.2.2.2.1 hres.but (by omega)
              have hA8 := HS7.out.2.2.2.2.but hres.but (by omega)
              have HS8 := Lib.hid (And.intro (HS7.out.1.trans hres.but) (And.intro (Own.but HS7.out.2.1 hres.but (by omega)) st8))
              have HAL2 : Hid (cs.length = l.length) := Lib.hid (by rw [HN.out]; exact HAL.out)
              clear hres st8 h93 HS7 HAL
              have C := Lib.hid (list_any v7 (l ++ [t]) w8 ⟨cs ++ [c6], by rw [List.length_append, List.length_append, HAL2.out]; rfl, by rw [List.length_append, ← HAL2.out]; exact Flat.of_own (by rw [snocV]; rw [HN.out]; exact hown8), fun i c t hc ht => (hA8.all i c t hc ht).is⟩ (by rw [List.length_append, ← HAL2.out, HN.out]; simp; omega) (fun t ht => by have := HSZ.out t ht; omega))
              clear hown8 hA8
              go_wp2_with fail
              refine C.out.mono ?_
              rintro e w9 ⟨c9, rfl, hb9, hI⟩
              clear C
              obtain ⟨hB, oR, st⟩ := HS8.out
              have hs2 := hB.size
              have hlt2 := oR.lt
              replace hB := hB.all hb9
              replace oR := oR.all hb9
              replace st := st.all hb9
              have hI9 : IsA w9 (fun b => w.heap.size < b ∧ w.heap.size ≤ b) c9 _ := hI.mono (fun b hb => ⟨by omega, by omega⟩)
              clear hI hb9 HS8
              have r0 := oR.cell (i := 0) rfl
              have r1 := oR.cell (i := 1) rfl
              have r2 := oR.cell (i := 2) rfl
              have r3 := oR.cell (i := 3) rfl
              have r4 := oR.cell (i := 4) rfl
              have g0 := oR.frozen 0
              have g1 := oR.frozen 1
              have g2 := oR.frozen 2
              have g3 := oR.frozen 3
              have g4 := oR.frozen 4
              have HS := Lib.hid (And.intro (own_put5 oR (.int .i64 c9.k) (.int .i64 c9.n) (sV c9.s) (.slice c9.la c9.ln c9.lc) (.slice c9.fa c9.fn c9.fc)) (And.intro (hB.put5 (b := w.heap.size) (by omega) (.int .i64 c9.k) (.int .i64 c9.n) (sV c9.s) (.slice c9.la c9.ln c9.lc) (.slice c9.fa c9.fn c9.fc)) (And.intro (st.put5 (b := w.heap.size) (by omega) (.int .i64 c9.k) (.int .i64 c9.n) (sV c9.s) (.slice c9.la c9.ln c9.lc) (.slice c9.fa c9.fn c9.fc)) (hI9.put5 (b := w.heap.size) (fun h => absurd h.1 (Nat.lt_irrefl _)) (.int .i64 c9.k) (.int .i64 c9.n) (sV c9.s) (.slice c9.la c9.ln c9.lc) (.slice c9.fa c9.fn c9.fc)))))
              clear hB oR st hI9
              go_wp2
              clear r0 r1 r2 r3 r4 g0 g1 g2 g3 g4
              change bodyPost Tryd.prog Tryd.f70 _ _ _ (put5 w9 (w.heap.size) (.int .i64 c9.k) (.int .i64 c9.n) (sV c9.s) (.slice c9.la c9.ln c9.lc) (.slice c9.fa c9.fn c9.fc))
              generalize put5 w9 (w.heap.size) (.int .i64 c9.k) (.int .i64 c9.n) (sV c9.s) (.slice c9.la c9.ln c9.lc) (.slice c9.fa c9.fn c9.fc) = U at *
              obtain ⟨oS, hB, st, hI9⟩ := HS.out
              have c0 := oS.cell (i := 0) rfl
              have c1 := oS.cell (i := 1) rfl
              have c2 := oS.cell (i := 2) rfl
              have c3 := oS.cell (i := 3) rfl
              have c4 := oS.cell (i := 4) rfl
              exact bodyPost_ret (v := c9.val) (by simp [results, Tryd.results70, go_sem, c0, c1, c2, c3, c4, VC.val]) rfl (Res.mkOk (b := (.mk 4 0 [] (l ++ [t]) [], n2, r3)) (by unfold listR; rw [HQ0.out]; simp only [HD0.out, if_false]; rw [HE.out, elemsR, HR.out]; simp only [HSK.out, H93.out, if_true, prepL]) hB ⟨⟨c9, rfl, hI9.mono (fun b hb => hb.2)⟩, st⟩)
            · by_cases h44 : dd.toNat = 44
              · have H44 := Lib.hid h44
                have hne : ¬ dd = 93 := fun e => h93 (by rw [e]; rfl)
                obtain ⟨v, rfl, rfl, st8⟩ := hres.ok (false, r3) (sepR_comma HSK.out hne h44)
                have HS8 := Lib.hid (And.intro (HS7.out.1.trans hres.but) (And.intro (Own.but HS7.out.2.1 hres.but (by omega)) (And.intro (row_but HS7.out.2.2.2.1 hres.but (by omega)) (And.intro (HS7.out.2.2.2.2.but hres.but (by omega)) st8))))
                clear hres st8 h93 h44 HS7 hne
                cases m with
                | zero => exact absurd HR.out (PV'.full n' r' _)
                | succ m =>
                  go_wp2
                  go_roundg (m + 1)
                  case measure => have := HG.out; omega
                  case rel => exact ⟨m, cs ++ [c6], l ++ [t], n2, r3, rfl, by rw [List.length_append, HN.out]; have := HM.out; simp; omega, hsz.1, HS8.out.1, HS8.out.2.1, by rw [snocV, List.length_append, HN.out]; exact HS8.out.2.2.1, HS8.out.2.2.2.1, HS8.out.2.2.2.2, Lib.hid ⟨HSZ.out, by rw [HE.out]; exact elemsR_next HR.out HSK.out H44.out l⟩⟩
              · have hne : ¬ dd = 93 := fun e => h93 (by rw [e]; rfl)
                obtain rfl := hres.er _ _ (sepR_bad HSK.out hne h44)
                have HB := Lib.hid (HS7.out.1.trans hres.but)
                clear hres
                go_wp2
                exact ⟨rfl, Res.mkEr (k := r3.length + 1) (c := 2) (by unfold listR; rw [HQ0.out]; simp only [HD0.out, if_false]; rw [HE.out, elemsR, HR.out]; simp only [HSK.out, h93, h44, if_false]; rfl) HB.out⟩
end Go.Proofs.YtjpmnlefjmdelaaDoor
