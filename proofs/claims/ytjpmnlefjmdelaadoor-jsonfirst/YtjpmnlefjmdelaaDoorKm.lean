/- Maps. -/
import Derived.Test.YtjpmnlefjmdelaaDoorKl
namespace Go.Proofs.YtjpmnlefjmdelaaDoor
open Go.RowKit Go.Sort Go.Proofs.LawFrame

set_option maxHeartbeats 8000000 in
set_option maxRecDepth 4000 in
theorem readMap_of {pb : Nat} {s r : Str} {n : Nat} {w : World} (hl : s.length ≤ 20000) {d : Int} {pv : PV} (hd1 : 0 ≤ d) (hd2 : d ≤ 100) (PV' : PVOk pv) (HV : RV pb s (d + 1) pv) (hn : n ≤ 600) {c0 : UInt8} (hc0 : c0.toNat = 123) (st : St pb s (c0 :: r) (n : Int) w) :
    Calls Tryd.prog 71 #[.pointer (some ⟨pb, 0, none⟩), .int .i64 d] w (Res pb s w (mapR pv n r) (QV pb s w)) := by
  have hpb := st.lt
  obtain ⟨iE, hiE, hzE, hsE, hyE⟩ := info_parts info35
  have hB := But.allow (b := pb) (below_alloc w (.cells #[.int .i64 0, .int .i64 0, .string ⟨#[]⟩, .slice none 0 0, .slice none 0 0] 26))
  have oR := Own.new w [.int .i64 0, .int .i64 0, .string ⟨#[]⟩, .slice none 0 0, .slice none 0 0] 26
  have st' := st.all (below_alloc w (.cells #[.int .i64 0, .int .i64 0, .string ⟨#[]⟩, .slice none 0 0, .slice none 0 0] 26))
  have HS := Lib.hid (And.intro hB (And.intro oR st'))
  have HR0 : Hid (byteR 123 (c0 :: r) = .ok r) := Lib.hid (by simp [byteR, show c0 = 123 from UInt8.toNat_inj.1 hc0])
  clear hB oR st' st hc0
  go_enter Tryd.func71, Tryd.ntmps71
  go_upto_region 1 with (fail)
  change Code.wp Tryd.prog _ _ _ (w.alloc (.cells #[.int .i64 0, .int .i64 0, .string ⟨#[]⟩, .slice none 0 0, .slice none 0 0] 26))
  generalize w.alloc (.cells #[.int .i64 0, .int .i64 0, .string ⟨#[]⟩, .slice none 0 0, .slice none 0 0] 26) = V at *
  have C := Lib.hid (readByte_any hl (c := 123) (ci := 123) rfl HS.out.2.2)
  go_wp2_with fail
  refine C.out.mono ?_
  rintro e w1 hres
  obtain ⟨v, rfl, rfl, st1⟩ := hres.ok _ HR0.out
  have HS1 := Lib.hid (And.intro (HS.out.1.trans hres.but) (And.intro (Own.but HS.out.2.1 hres.but (by omega)) st1))
  clear hres st1 HS C HR0
  have C := Lib.hid (readClosing_any hl (c := 125) (ci := 125) rfl HS1.out.2.2)
  go_wp2_with fail
  refine C.out.mono ?_
  rintro e w2 hres
  clear C
  obtain ⟨q, hq⟩ : ∃ q, skp r = q := ⟨_, rfl⟩
  have HQ := Lib.hid hq
  clear hq
  cases q with
  | nil =>
    obtain rfl := hres.er 0 3 (by simp [closeR, HQ.out])
    have HB := Lib.hid (HS1.out.1.trans hres.but)
    clear hres
    go_wp2
    exact ⟨rfl, Res.mkEr (k := 0) (c := 3) (by unfold mapR; rw [HQ.out]) HB.out⟩
  | cons d0 q2 =>
    by_cases h93 : d0.toNat = 125
    · have HD := Lib.hid h93
      obtain ⟨v, rfl, rfl, st2⟩ := hres.ok (true, q2) (by simp [closeR, HQ.out, show d0 = 125 from UInt8.toNat_inj.1 h93])
      have HS2 := Lib.hid (And.intro (HS1.out.1.trans hres.but) (And.intro (Own.but HS1.out.2.1 hres.but (by omega)) st2))
      clear hres st2 HS1 h93
      have C := Lib.hid (map_any (.slice none 0 0) [] w2 (flds_nil w2) (by simp) (by simp))
      go_wp2_with fail
      refine C.out.mono ?_
      rintro e w3 ⟨c9, M, rfl, hb3, hI, hM⟩
      clear C
      obtain rfl : M = [] := hM.unique mapOf_nil
      clear hM
      obtain ⟨hB, oR, st⟩ := HS2.out
      have hs2 := hB.size
      have hlt2 := oR.lt
      replace hB := hB.all hb3
      replace oR := oR.all hb3
      replace st := st.all hb3
      have hI9 : IsA w3 (fun b => w.heap.size < b ∧ w.heap.size ≤ b) c9 _ := hI.mono (fun b hb => ⟨by omega, by omega⟩)
      clear hI hb3 HS2
      have r0 := oR.cell (i := 0) rfl
      have r1 := oR.cell (i := 1) rfl
      have r2 := oR.cell (i := 2) rfl
      have r3 := oR.cell (i := 3) rfl
      have r4 := oR.cell (i := 4) rfl
      have g0 := oR.frozen 0
      have g1 := oR.frozen 1
      have g2 := oR.frozen 2
      have g3 := oR.frozen 3
      have g4 := oR.frozen 4
      have HS := Lib.hid (And.intro (own_put5 oR (.int .i64 c9.k) (.int .i64 c9.n) (sV c9.s) (.slice c9.la c9.ln c9.lc) (.slice c9.fa c9.fn c9.fc)) (And.intro (hB.put5 (b := w.heap.size) (by omega) (.int .i64 c9.k) (.int .i64 c9.n) (sV c9.s) (.slice c9.la c9.ln c9.lc) (.slice c9.fa c9.fn c9.fc)) (And.intro (st.put5 (b := w.heap.size) (by omega) (.int .i64 c9.k) (.int .i64 c9.n) (sV c9.s) (.slice c9.la c9.ln c9.lc) (.slice c9.fa c9.fn c9.fc)) (hI9.put5 (b := w.heap.size) (fun h => absurd h.1 (Nat.lt_irrefl _)) (.int .i64 c9.k) (.int .i64 c9.n) (sV c9.s) (.slice c9.la c9.ln c9.lc) (.slice c9.fa c9.fn c9.fc)))))
      clear hB oR st hI9
      go_wp2
      clear r0 r1 r2 r3 r4 g0 g1 g2 g3 g4
      change bodyPost Tryd.prog Tryd.f71 _ _ _ (put5 w3 (w.heap.size) (.int .i64 c9.k) (.int .i64 c9.n) (sV c9.s) (.slice c9.la c9.ln c9.lc) (.slice c9.fa c9.fn c9.fc))
      generalize put5 w3 (w.heap.size) (.int .i64 c9.k) (.int .i64 c9.n) (sV c9.s) (.slice c9.la c9.ln c9.lc) (.slice c9.fa c9.fn c9.fc) = U at *
      obtain ⟨oS, hB, st, hI9⟩ := HS.out
      have c0 := oS.cell (i := 0) rfl
      have c1 := oS.cell (i := 1) rfl
      have c2 := oS.cell (i := 2) rfl
      have c3 := oS.cell (i := 3) rfl
      have c4 := oS.cell (i := 4) rfl
      exact bodyPost_ret (v := c9.val) (by simp [results, Tryd.results71, go_sem, c0, c1, c2, c3, c4, VC.val]) rfl (Res.mkOk (b := (.mk 5 0 [] [] [], n, q2)) (by unfold mapR; rw [HQ.out]; simp [HD.out]) hB ⟨⟨c9, rfl, hI9.mono (fun b hb => hb.2)⟩, st⟩)
    · have HD0 := Lib.hid h93
      have HQ0 := HQ
      obtain ⟨v, rfl, rfl, st2⟩ := hres.ok (false, d0 :: q2) (by simp [closeR, HQ.out, show ¬ d0 = 125 from fun e => h93 (by rw [e]; rfl)])
      have HS2 := Lib.hid (And.intro (HS1.out.1.trans hres.but) (And.intro (Own.but HS1.out.2.1 hres.but (by omega)) st2))
      clear hres st2 HS1 h93
      go_wp2
      go_loopg [5] 65 (fun g v wr => ∃ (m : Nat) (cs : List FC) (l : List (Str × T)) (n' : Nat) (r' : Str), g = m + 1 ∧ cs.length + m = 64 ∧ n' ≤ 600 ∧ But pb w wr ∧ Own wr w.heap.size [.int .i64 0, .int .i64 0, .string ⟨#[]⟩, .slice none 0 0, .slice none 0 0] 26 ∧ wr.ownsRow (w.heap.size + 1) 43 6 v cs.length (cs.flatMap FC.cells) ∧ AccF (w.heap.size + 1) v wr cs l ∧ St pb s r' (n' : Int) wr ∧ Hid ((∀ t ∈ l, t.2.size ≤ 600) ∧ membersR pv 64 [] n r = prepL l (membersR pv m (l.map (·.1)) n' r')))
      case atStart => exact ⟨64, [], [], n, d0 :: q2, rfl, by simp, hn, HS2.out.1, HS2.out.2.1, own_nil _ _ _ _, AccF.nil _ _ _, HS2.out.2.2, Lib.hid ⟨by simp, by rw [prepL_nil, ← HQ.out]; simp only [List.map_nil]; rw [membersR, membersR]; unfold fieldR; rw [skp_skp]⟩⟩
      case round =>
        obtain ⟨m, cs, l, n', r', hg, hm, hn', hb, oR, hown, hA, st, HE0⟩ := hrel
        have HE : Hid (membersR pv 64 [] n r = prepL l (membersR pv m (l.map (·.1)) n' r')) := Lib.hid HE0.out.2
        have HSZ0 := Lib.hid HE0.out.1
        have HG := Lib.hid hg
        have HAL := Lib.hid hA.len
        clear hg HS2 HE0 HQ
        obtain ⟨ao, cap, hu, -, -, -⟩ := (Flat.of_own hown).out
        have HSEEN : Hid (l.map (·.1) = cs.map (·.x)) := Lib.hid (List.ext_getElem? (fun i => by rw [List.getElem?_map, List.getElem?_map]; rcases hx : cs[i]? with _ | c <;> rcases hy : l[i]? with _ | q <;> simp; exact (absurd (List.getElem?_eq_none_iff.1 hx) (by have := (List.getElem?_eq_some_iff.1 hy).1; have := hA.len; omega)); exact (absurd (List.getElem?_eq_none_iff.1 hy) (by have := (List.getElem?_eq_some_iff.1 hx).1; have := hA.len; omega)); exact ((hA.all i c q hx hy).1).symm))
        have C := Lib.hid (readField_of hl hd1 hd2 HV m _ cs hm hn' (Flat.of_own hown) st (fun w1 hb1 => Flat.of_own (row_but hown hb1 (by omega))))
        subst hu
        generalize hN : cs.length = N at *
        have HN := Lib.hid hN
        have hN64 : N ≤ 64 := by omega
        have hwr := oR.lt
        have HM := Lib.hid hm
        have HS3 := Lib.hid (And.intro hb (And.intro oR (And.intro hown hA)))
        clear hN hb oR hown hA st hm
        skip
        go_wp2_with fail
        refine C.out.mono ?_
        rintro e w5 hres
        clear C
        cases hR : fieldR pv m (cs.map (·.x)) n' r' with
        | er a b =>
          obtain rfl := hres.er a b hR
          have HB := Lib.hid (HS3.out.1.trans hres.but)
          clear hres
          go_wp2
          exact ⟨rfl, Res.mkEr (k := a) (c := b) (by unfold mapR; rw [HQ0.out]; simp only [HD0.out, if_false]; rw [HE.out, HSEEN.out, membersR, hR]; rfl) HB.out⟩
        | ok q =>
          obtain ⟨p, n2, r2⟩ := q
          obtain ⟨v, rfl, hqv⟩ := hres.ok _ hR
          obtain ⟨c6, rfl, hI6⟩ := hqv.val
          skip
          have hsz := (fieldR_size PV' hn' hR).2
          have HR := Lib.hid hR
          have hb5 := HS3.out.1.trans hres.but
          have oR5 := Own.but HS3.out.2.1 hres.but (by omega)
          have hown5 := row_but HS3.out.2.2.1 hres.but (by omega)
          have hA5 := HS3.out.2.2.2.but hres.but (by omega)
          have hs5 := hres.but.size
          have hrlt : ∀ k, (Value.slice ao N cap).ownBlock = some k → k < wr.heap.size := fun k h => (HS3.out.2.2.1.lt k h).2
          have hrl := own_row hown5
          have hAN := hA5.snoc (c := ⟨p.1, c6⟩) (t := p) (⟨rfl, hI6.mono (fun b hb => ⟨by have : wr.heap.size ≤ b := hb; omega, fun e => by have := hrlt b e; have : wr.heap.size ≤ b := hb; omega⟩)⟩)
          have HSZ : Hid (∀ y ∈ l ++ [p], y.2.size ≤ 600) := Lib.hid (fun x hx => by
            rcases List.mem_append.1 hx with h | h
            · exact HSZ0.out x h
            · obtain rfl := List.mem_singleton.1 h; omega)
          have HS5 := Lib.hid (And.intro (hb5.all (below_alloc w5 (.cells #[sV p.1, .int .i64 c6.k, .int .i64 c6.n, sV c6.s, .slice c6.la c6.ln c6.lc, .slice c6.fa c6.fn c6.fc] 43))) (And.intro (oR5.alloc (.cells #[sV p.1, .int .i64 c6.k, .int .i64 c6.n, sV c6.s, .slice c6.la c6.ln c6.lc, .slice c6.fa c6.fn c6.fc] 43)) (And.intro (hqv.st.all (below_alloc w5 (.cells #[sV p.1, .int .i64 c6.k, .int .i64 c6.n, sV c6.s, .slice c6.la c6.ln c6.lc, .slice c6.fa c6.fn c6.fc] 43))) (hAN.below (below_alloc w5 (.cells #[sV p.1, .int .i64 c6.k, .int .i64 c6.n, sV c6.s, .slice c6.la c6.ln c6.lc, .slice c6.fa c6.fn c6.fc] 43))))))
          clear hres hI6 hqv hR hAN hA5 hb5 oR5 HS3 HSZ0
          go_wp2_with (first | (at_builtin; refine wpList_append_lies _ rfl (.tmp 11) (.tmp 16) 24 rfl (w.heap.size + 1) 43 iE (.agg #[.string ⟨#[]⟩, .int .i64 0, .int .i64 0, .string ⟨#[]⟩, .slice none 0 0, .slice none 0 0]) 6 96 Tryd.underlying24 hiE hzE hsE hyE rfl (by decide) _ _ _ rfl (hown5.alloc _) ⟨w5.heap.size, 0, none⟩ 1 1 (FC.cells ⟨p.1, c6⟩) rfl rfl (own_src (Own.new _ _ _)) (six_one' ⟨p.1, c6⟩) (by decide) (by unfold maxLen; omega) (by omega) (by rw [size_alloc]; omega) _ rfl ?_; intro gg gcap w7 hown7 hgrow7 hlies hglt; have HS7 := Lib.hid (And.intro (HS5.out.1.grown hgrow7 (fun k h => by have := hrl k h; omega)) (And.intro (own_kept' HS5.out.2.1 hgrow7 (fun e => by have := hrl _ e; omega)) (And.intro (HS5.out.2.2.1.grown hgrow7 (fun e => by have := hrl _ e; omega)) (And.intro hown7 (HS5.out.2.2.2.grow (n := N + 1) (cap := gcap) hgrow7 (by rcases hlies with h | h; exact Or.inl h; exact Or.inr h)))))); clear hown7 hgrow7 hlies hglt HS5 hown5) | fail)
          have C := Lib.hid (readSeparator_any hl (c := 125) (ci := 125) rfl HS7.out.2.2.1)
          generalize Value.slice (some ⟨gg, 0, none⟩) (N + 1) gcap = v7 at *
          go_wp2_with fail
          refine C.out.mono ?_
          rintro e w8 hres
          clear C
          obtain ⟨q, hq⟩ : ∃ q, skp r2 = q := ⟨_, rfl⟩
          have HSK := Lib.hid hq
          clear hq
          cases q with
          | nil =>
            obtain rfl := hres.er 0 3 (sepR_nil HSK.out)
            have HB := Lib.hid (HS7.out.1.trans hres.but)
            clear hres
            go_wp2
            exact ⟨rfl, Res.mkEr (k := 0) (c := 3) (by unfold mapR; rw [HQ0.out]; simp only [HD0.out, if_false]; rw [HE.out, HSEEN.out, membersR, HR.out]; simp only [HSK.out]; rfl) HB.out⟩
          | cons dd r3 =>
            by_cases h93 : dd.toNat = 125
            · have H93 := Lib.hid h93
              obtain ⟨v, rfl, rfl, st8⟩ := hres.ok (true, r3) (sepR_close (by rw [HSK.out, show dd = 125 from UInt8.toNat_inj.1 h93]))
              have hown8 := row_but HS7.out.2.2.2.1 hres.but (by omega)
              have hA8 := HS7.out.2.2.2.2.but hres.but (by omega)
              have HS8 := Lib.hid (And.intro (HS7.out.1.trans hres.but) (And.intro (Own.but HS7.out.2.1 hres.but (by omega)) st8))
              have HAL2 : Hid (cs.length = l.length) := Lib.hid (by rw [HN.out]; exact HAL.out)
              clear hres st8 h93 HS7 HAL
              have C := Lib.hid (map_any v7 (l ++ [p]) w8 ⟨cs ++ [⟨p.1, c6⟩], by rw [List.length_append, List.length_append, HAL2.out]; rfl, by rw [List.length_append, ← HAL2.out]; exact Flat.of_own (by rw [snocF]; rw [HN.out]; exact hown8), fun i c t hc ht => (hA8.all i c t hc ht).1, fun i c t hc ht => (hA8.all i c t hc ht).2.is⟩ (by rw [List.length_append, ← HAL2.out, HN.out]; simp; omega) (fun t ht => by have := HSZ.out t ht; omega))
              clear hown8 hA8
              go_wp2_with fail
              refine C.out.mono ?_
              rintro e w9 ⟨c9, M, rfl, hb9, hI, hM⟩
              obtain rfl : M = mapL (l ++ [p]) := hM.unique (mapL_of _)
              clear hM
              clear C
              obtain ⟨hB, oR, st⟩ := HS8.out
              have hs2 := hB.size
              have hlt2 := oR.lt
              replace hB := hB.all hb9
              replace oR := oR.all hb9
              replace st := st.all hb9
              have hI9 : IsA w9 (fun b => w.heap.size < b ∧ w.heap.size ≤ b) c9 _ := hI.mono (fun b hb => ⟨by omega, by omega⟩)
              clear hI hb9 HS8
              have r0 := oR.cell (i := 0) rfl
              have r1 := oR.cell (i := 1) rfl
              have r2 := oR.cell (i := 2) rfl
              have r3 := oR.cell (i := 3) rfl
              have r4 := oR.cell (i := 4) rfl
              have g0 := oR.frozen 0
              have g1 := oR.frozen 1
              have g2 := oR.frozen 2
              have g3 := oR.frozen 3
              have g4 := oR.frozen 4
              have HS := Lib.hid (And.intro (own_put5 oR (.int .i64 c9.k) (.int .i64 c9.n) (sV c9.s) (.slice c9.la c9.ln c9.lc) (.slice c9.fa c9.fn c9.fc)) (And.intro (hB.put5 (b := w.heap.size) (by omega) (.int .i64 c9.k) (.int .i64 c9.n) (sV c9.s) (.slice c9.la c9.ln c9.lc) (.slice c9.fa c9.fn c9.fc)) (And.intro (st.put5 (b := w.heap.size) (by omega) (.int .i64 c9.k) (.int .i64 c9.n) (sV c9.s) (.slice c9.la c9.ln c9.lc) (.slice c9.fa c9.fn c9.fc)) (hI9.put5 (b := w.heap.size) (fun h => absurd h.1 (Nat.lt_irrefl _)) (.int .i64 c9.k) (.int .i64 c9.n) (sV c9.s) (.slice c9.la c9.ln c9.lc) (.slice c9.fa c9.fn c9.fc)))))
              clear hB oR st hI9
              go_wp2
              clear r0 r1 r2 r3 r4 g0 g1 g2 g3 g4
              change bodyPost Tryd.prog Tryd.f71 _ _ _ (put5 w9 (w.heap.size) (.int .i64 c9.k) (.int .i64 c9.n) (sV c9.s) (.slice c9.la c9.ln c9.lc) (.slice c9.fa c9.fn c9.fc))
              generalize put5 w9 (w.heap.size) (.int .i64 c9.k) (.int .i64 c9.n) (sV c9.s) (.slice c9.la c9.ln c9.lc) (.slice c9.fa c9.fn c9.fc) = U at *
              obtain ⟨oS, hB, st, hI9⟩ := HS.out
              have c0 := oS.cell (i := 0) rfl
              have c1 := oS.cell (i := 1) rfl
              have c2 := oS.cell (i := 2) rfl
              have c3 := oS.cell (i := 3) rfl
              have c4 := oS.cell (i := 4) rfl
              exact bodyPost_ret (v := c9.val) (by simp [results, Tryd.results71, go_sem, c0, c1, c2, c3, c4, VC.val]) rfl (Res.mkOk (b := (.mk 5 0 [] [] (mapL (l ++ [p])), n2, r3)) (by unfold mapR; rw [HQ0.out]; simp only [HD0.out, if_false]; rw [HE.out, HSEEN.out, membersR, HR.out]; simp only [HSK.out, H93.out, if_true, prepL]) hB ⟨⟨c9, rfl, hI9.mono (fun b hb => hb.2)⟩, st⟩)
            · by_cases h44 : dd.toNat = 44
              · have H44 := Lib.hid h44
                have hne : ¬ dd = 125 := fun e => h93 (by rw [e]; rfl)
                obtain ⟨v, rfl, rfl, st8⟩ := hres.ok (false, r3) (sepR_comma HSK.out hne h44)
                have HS8 := Lib.hid (And.intro (HS7.out.1.trans hres.but) (And.intro (Own.but HS7.out.2.1 hres.but (by omega)) (And.intro (row_but HS7.out.2.2.2.1 hres.but (by omega)) (And.intro (HS7.out.2.2.2.2.but hres.but (by omega)) st8))))
                clear hres st8 h93 h44 HS7 hne
                cases m with
                | zero => exact absurd rfl (fieldR_size PV' hn' HR.out).1
                | succ m =>
                  go_wp2
                  go_roundg (m + 1)
                  case measure => have := HG.out; omega
                  case rel => exact ⟨m, cs ++ [⟨p.1, c6⟩], l ++ [p], n2, r3, rfl, by rw [List.length_append, HN.out]; have := HM.out; simp; omega, hsz.1, HS8.out.1, HS8.out.2.1, by rw [snocF, List.length_append, HN.out]; exact HS8.out.2.2.1, HS8.out.2.2.2.1, HS8.out.2.2.2.2, Lib.hid ⟨HSZ.out, by rw [HE.out]; rw [List.map_append]; exact membersR_next (by rw [HSEEN.out]; exact HR.out) HSK.out H44.out l⟩⟩
              · have hne : ¬ dd = 125 := fun e => h93 (by rw [e]; rfl)
                obtain rfl := hres.er _ _ (sepR_bad HSK.out hne h44)
                have HB := Lib.hid (HS7.out.1.trans hres.but)
                clear hres
                go_wp2
                exact ⟨rfl, Res.mkEr (k := r3.length + 1) (c := 2) (by unfold mapR; rw [HQ0.out]; simp only [HD0.out, if_false]; rw [HE.out, HSEEN.out, membersR, HR.out]; simp only [HSK.out, h93, h44, if_false]; rfl) HB.out⟩
end Go.Proofs.YtjpmnlefjmdelaaDoor
