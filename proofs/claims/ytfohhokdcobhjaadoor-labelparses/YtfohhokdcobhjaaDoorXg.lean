/- The contract of readSelector. -/
import Derived.Test.YtfohhokdcobhjaaDoorXf
namespace Go.Proofs.YtfohhokdcobhjaaDoor
open Go.RowKit Go.Sort Go.Proofs.LawFrame

theorem pSel_none {T : List Str} (h : pReq T = none) : pSel T = none := by rw [pSel_eq, h]
theorem pSel_last {T : List Str} {r : Req} {S' : List Str} (h : pReq T = some (r, S')) (h1 : S' = []) : pSel T = some [r] := by rw [pSel_eq, h]; simp only; rw [if_pos h1]
theorem pSel_more {T : List Str} {r : Req} {S' : List Str} (h : pReq T = some (r, S')) (h1 : ¬ S' = []) (h2 : hd S' = [44]) : pSel T = (pSel S'.tail).map (r :: ·) := by
  rw [pSel_eq, h]; simp only; rw [if_neg h1, if_pos h2]
theorem pSel_bad {T : List Str} {r : Req} {S' : List Str} (h : pReq T = some (r, S')) (h1 : ¬ S' = []) (h2 : ¬ hd S' = [44]) : pSel T = none := by
  rw [pSel_eq, h]; simp only; rw [if_neg h1, if_neg h2]
theorem map_map_app {acc : List Req} {r : Req} (o : Option (List Req)) : (o.map (r :: ·)).map (acc ++ ·) = o.map ((acc ++ [r]) ++ ·) := by
  cases o with
  | none => rfl
  | some s => simp

set_option maxRecDepth 4000 in
set_option maxHeartbeats 8000000 in
theorem readSelector_any (text : Str) (w : World) (hl : text.length ≤ 20000) :
    Calls Tryd.prog 43 #[sV text] w fun e w' => ∃ sv, e = .returned (.tuple #[sv, .bool (readT text).isSome]) ∧ Reqs w' sv ((readT text).getD []) ∧ Below w.heap.size w w' := by
  obtain ⟨i43, hi43, hzi43, hsi43, hyi43⟩ := info_parts info43
  have hll := lex_len _ text (Nat.le_refl _)
  have o0 := Own.new w [sV [], sV text] 72
  have b0 := below_alloc w (.cells #[sV [], sV text] 72)
  have CA := Lib.hid (advance_any [] text w.heap.size _ o0 hl)
  go_enter Tryd.func43, Tryd.ntmps43
  go_wp2_with fail
  generalize w.alloc (.cells #[sV [], sV text] 72) = W0 at *
  have hz0 := o0.lt
  refine CA.out.mono ?_
  rintro e W1 ⟨rfl, r1, g1⟩
  have b1 := below_grown b0 g1 b0.size (fun k h => by cases h; exact Nat.le_refl _)
  clear CA o0 g1 b0
  have hz1 := r1.lt
  obtain ⟨rest1, ro1, -, -, -⟩ := r1.out
  have t0 := ro1.cell (i := 0) rfl
  by_cases hnil : lex text = []
  · have HR : Hid (readT text = some []) := Lib.hid (by unfold readT; rw [if_pos hnil])
    rw [hnil] at t0
    have t0' : W1.cell? ⟨w.heap.size, 0, none⟩ = some (.string ⟨#[]⟩) := t0
    clear t0
    go_wp2
    go_ret2
    exact ⟨.slice none 0 0, by rw [HR.out]; rfl, by rw [HR.out]; exact reqs_nil _, b1⟩
  have HR : Hid (readT text = pSel (lex text)) := Lib.hid (by unfold readT; rw [if_neg hnil])
  have hne0 : (hd (lex text) == []) = false := by
    cases hq : hd (lex text) with
    | nil => exact absurd (r1.nil hq) hnil
    | cons a t => rfl
  clear hnil
  generalize lex text = L at *
  go_wp2
  clear t0 hne0 ro1
  go_loopg [5] L.length (fun g p wr => ∃ (T : List Str) (acc : List Req) (cs : List RC), g = T.length ∧ acc.length + T.length ≤ L.length ∧ Hid (pSel L = (pSel T).map (acc ++ ·)) ∧ AccK (w.heap.size + 1) p wr cs acc ∧ Rd wr w.heap.size T ∧ Below w.heap.size w wr ∧ wr.ownsRow (w.heap.size + 1) 43 3 p cs.length (cs.flatMap RC.cells))
  case atStart => exact ⟨L, [], [], rfl, by simp, Lib.hid (by cases pSel L <;> rfl), AccK.nil _ _ _, r1, b1, own_nil _ _ _ _⟩
  case round =>
    clear r1 b1
    obtain ⟨T, acc, cs, hg, hacc, HS, hA, hrd, hb, hown⟩ := hrel
    have HG := Lib.hid hg
    clear hg
    have hzr := hrd.lt
    have hclen := hA.len
    have CR := Lib.hid (requirement_any T w.heap.size wr hrd (by omega))
    unfold ReqPost at CR
    cases hq : pReq T with
    | none =>
      rw [hq] at CR
      have HN : Hid (readT text = none) := Lib.hid (by rw [HR.out, HS.out, pSel_none hq]; rfl)
      clear hq
      go_wp2_with fail
      refine CR.out.mono ?_
      rintro e W2 ⟨c, rfl, -, g2⟩
      have b2 := below_grown hb g2 (by omega) (fun k h => by cases h; exact Nat.le_refl _)
      go_wp2
      go_ret2
      exact ⟨.slice none 0 0, by rw [HN.out]; rfl, by rw [HN.out]; exact reqs_nil _, below_next b2 (b2.size) (below_alloc _ _)⟩
    | some p =>
      obtain ⟨r, S'⟩ := p
      have hplt := pReq_lt hq
      simp only at hplt
      rw [hq] at CR
      have H1 := Lib.hid (fun h1 => pSel_last hq h1)
      have H2 := Lib.hid (fun h1 h2 => pSel_more hq h1 h2)
      have H3 := Lib.hid (fun h1 h2 => pSel_bad hq h1 h2)
      clear hq
      go_wp2_with fail
      refine CR.out.mono ?_
      rintro e W2 ⟨c, rfl, hp, g2⟩
      obtain ⟨hri, hhi, r2⟩ := hp (r, S') rfl
      simp only at hri r2
      have hpb := own_high hown
      have hpl : ∀ b, u5.ownBlock = some b → b < wr.heap.size := fun b h => (hown.lt b h).2
      have hA2 := (hA.grown g2 (by omega)).snoc hri (fun hn b hb' => ⟨by have := hhi b hb'; omega, flat_lt hri.vals (by rw [← hri.n_eq]; exact hn) b hb', fun e => by have := hhi b hb'; have := hpl b e; omega⟩)
      have ho2 := hown.kept g2 (hpb.ne (by omega))
      have b2 := below_grown hb g2 (by omega) (fun k h => by cases h; exact Nat.le_refl _)
      have hs2 := b2.size
      have hsw := g2.size
      clear CR g2 hp hhi hown hrd hA hb
      go_upto_region 9 with (fail)
      have o6 := Own.new W2 [sV c.key, .int .i64 c.op, .slice c.ao c.n c.cap] 43
      have b3 := below_alloc W2 (.cells #[sV c.key, .int .i64 c.op, .slice c.ao c.n c.cap] 43)
      have hA3 := hA2.below b3
      have ho3 := own_below ho2 b3
      have r3 := r2.below b3
      have bb3 := below_next b2 hs2 b3
      have hs3 := b3.size
      generalize W2.alloc (.cells #[sV c.key, .int .i64 c.op, .slice c.ao c.n c.cap] 43) = W3 at *
      have e0 := o6.cell (i := 0) rfl
      have e1 := o6.cell (i := 1) rfl
      have e2 := o6.cell (i := 2) rfl
      clear hA2 ho2 r2 b2 b3 o6
      have hcl2 : (cs ++ [c]).length = cs.length + 1 := by simp
      go_upto_region 10 with (at_builtin; refine wpList_append_lies _ rfl (.tmp 20) (.tmp 22) 23 rfl (w.heap.size + 1) 43 i43 (.agg #[.string ⟨#[]⟩, .int .i64 0, .slice none 0 0]) 3 48 Tryd.underlying23 hi43 hzi43 hsi43 hyi43 rfl (by decide) _ _ _ rfl (ho3.alloc _) ⟨W3.heap.size, 0, none⟩ 1 1 [sV c.key, .int .i64 c.op, .slice c.ao c.n c.cap] rfl rfl (cell_triple_new _ _ _ _ _) (fun u hu => by simp at hu; rcases hu with rfl | rfl | rfl <;> rfl) (by decide) (by unfold maxLen; omega) (by omega) (by simp; omega) _ rfl ?_; intro gg gcap W5 hown5 hgrow5 hlies hglt)
      have g5 : (W3.alloc (.cells #[sV c.key, .int .i64 c.op, .slice c.ao c.n c.cap] 43)).grownBy W5 u5.ownBlock := hgrow5
      have l5 : u5.ownBlock = some gg ∨ gg = (W3.alloc (.cells #[sV c.key, .int .i64 c.op, .slice c.ao c.n c.cap] 43)).heap.size := hlies
      have b4 := below_alloc W3 (.cells #[sV c.key, .int .i64 c.op, .slice c.ao c.n c.cap] 43)
      have hA5 := AccK.append (n := acc.length + 1) (cap := gcap) (hA3.below b4) g5 l5
      have r5 := (r3.below b4).kept g5 (fun e => by have := hpb w.heap.size e.symm; omega)
      have bb5 : Below w.heap.size w W5 := below_grown (below_next bb3 (by omega) b4) g5 (by simp; omega) (fun k h => by have := hpb k h; omega)
      have ho5 : W5.ownsRow (w.heap.size + 1) 43 3 (.slice (some ⟨gg, 0, none⟩) (acc.length + 1) gcap) (cs ++ [c]).length ((cs ++ [c]).flatMap RC.cells) := by
        rw [flatMap_snoc, List.length_append, ← hclen]; exact hown5
      have hal : (acc ++ [r]).length = acc.length + 1 := by simp
      clear hgrow5 hlies g5 l5 b4 hA3 r3 bb3 ho3 e0 e1 e2 hown5
      obtain ⟨rest5, ro5, -, -, -⟩ := r5.out
      have t5 := ro5.cell (i := 0) rfl
      clear ro5
      by_cases hS1 : S' = []
      · have HF : Hid (readT text = some (acc ++ [r])) := Lib.hid (by rw [HR.out, HS.out, H1.out hS1]; rfl)
        rw [hS1] at t5
        have t5' : W5.cell? ⟨w.heap.size, 0, none⟩ = some (.string ⟨#[]⟩) := t5
        have hRq := hA5.reqs ho5 hA5.len
        clear t5
        go_wp2
        go_ret2
        exact ⟨_, by rw [HF.out]; rfl, by rw [HF.out]; exact hRq, bb5⟩
      · have hne5 : (hd S' == []) = false := by
          cases hq : hd S' with
          | nil => exact absurd (r5.nil hq) hS1
          | cons a t => rfl
        have CB := Lib.hid (accept_any [44] S' w.heap.size W5 r5)
        by_cases h44 : hd S' = [44]
        · have HN2 : Hid (pSel L = (pSel S'.tail).map ((acc ++ [r]) ++ ·)) := Lib.hid (by rw [HS.out, H2.out hS1 h44, map_map_app])
          rw [decide_eq_true h44, show accRest S' [44] = S'.tail from by unfold accRest; rw [if_pos h44]] at CB
          have htl := tail_le S'
          clear h44 H1 H2 H3
          go_wp2_with fail
          refine CB.out.mono ?_
          rintro e W6 ⟨rfl, r6, g6⟩
          have hA6 := hA5.grown g6 (by omega)
          have ho6 := ho5.kept g6 ((own_high ho5).ne (by omega))
          have b6 := below_grown bb5 g6 bb5.size (fun k h => by cases h; exact Nat.le_refl _)
          clear CB g6 hA5 ho5 bb5 t5 r5
          go_wp2
          go_roundg S'.tail.length
          case measure => have := HG.out; omega
          case rel => exact ⟨S'.tail, acc ++ [r], cs ++ [c], rfl, by omega, HN2, hA6, r6, b6, ho6⟩
        · have HN2 : Hid (readT text = none) := Lib.hid (by rw [HR.out, HS.out, H3.out hS1 h44]; rfl)
          rw [decide_eq_false h44] at CB
          clear h44 H1 H2 H3
          go_wp2_with fail
          refine CB.out.mono ?_
          rintro e W6 ⟨rfl, r6, g6⟩
          have b6 := below_grown bb5 g6 bb5.size (fun k h => by cases h; exact Nat.le_refl _)
          clear CB g6 hA5 ho5 bb5 t5 r5
          go_wp2
          go_ret2
          exact ⟨.slice none 0 0, by rw [HN2.out]; rfl, by rw [HN2.out]; exact reqs_nil _, b6⟩
end Go.Proofs.YtfohhokdcobhjaaDoor
