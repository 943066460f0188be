/- The contract of the stable sort of fields. -/
import Derived.Test.YtmmembmohkideaaSe
namespace Go.Proofs.Ytmmembmohkideaa
open Go.RowKit Go.Sort Go.Proofs.LawFrame

structure Inserted (b : Nat) (rest : List Value) (P X S : List FC) (w' : World) : Prop where
  out : ∃ R L', L' = P ++ (R ++ S) ∧ R.length = X.length ∧ Srt ltF R ∧ Same FC.x X R ∧ Own w' b (L'.flatMap FC.cells ++ rest) 35
theorem insert_part (b cap a e N : Nat) (rest : List Value) (P X S L : List FC) (w : World) (ho : Own w b (L.flatMap FC.cells ++ rest) 35) (hL : L = P ++ (X ++ S)) (hN : L.length = N) (hn : N ≤ 1000) (ha : P.length = a) (he : a + X.length = e) (hcap : N ≤ cap) (hcm : cap ≤ maxLen) :
    Calls Try.prog 69 #[.slice (some ⟨b, 0, none⟩) N cap, .int .i64 (a : Int), .int .i64 (e : Int), .func (.func 50) #[] #[]] w fun en w' => en = .returned (.tuple #[]) ∧ But b w w' ∧ Inserted b rest P X S w' := by
  subst hN
  have hle : a ≤ 1000 ∧ e ≤ L.length := by rw [hL] at hn ⊢; simp at hn ⊢; omega
  refine (insertion_any b cap a e rest L w ho hn hle.1 hle.2 hcap hcm).mono ?_
  rintro en w' ⟨h1, h2, h3, -⟩
  obtain ⟨R, r1, r2, r3, r4⟩ := isort_part weak_field P X S (a := a) (e := e) ha.symm (by omega)
  rw [← hL] at r1
  exact ⟨h1, h2, ⟨R, _, r1, r2, r3, r4, h3⟩⟩

structure SortedTo (b : Nat) (rest : List Value) (L0 : List FC) (w' : World) : Prop where
  out : ∃ L', Srt ltF L' ∧ Same FC.x L0 L' ∧ L'.length = L0.length ∧ Own w' b (L'.flatMap FC.cells ++ rest) 35

set_option maxHeartbeats 8000000 in
set_option maxRecDepth 4000 in
theorem stable_any (b cap N : Nat) (rest : List Value) (L0 : List FC) (w : World) (ho : Own w b (L0.flatMap FC.cells ++ rest) 35) (hN : L0.length = N) (hn : N ≤ 1000) (hcap : N ≤ cap) (hcm : cap ≤ maxLen) :
    Calls Try.prog 64 #[.slice (some ⟨b, 0, none⟩) N cap, .int .i64 (N : Int), .func (.func 50) #[] #[]] w fun en w' => en = .returned (.tuple #[]) ∧ But b w w' ∧ SortedTo b rest L0 w' := by
  have HC := Lib.hid hcm
  unfold maxLen at hcm
  have HN := Lib.hid hN
  have R0 := Lib.hid ho
  clear hN ho
  go_enter Try.func64, Try.ntmps64
  go_wp2
  go_loopg [7, 8] N (fun g s s' wr => ∃ (a : Nat) (D E l' : List FC), a ≤ N ∧ g = N - a ∧ s = .int .i64 (a : Int) ∧ s' = .int .i64 ((a : Int) + 20) ∧ But b w wr ∧ Own wr b (l'.flatMap FC.cells ++ rest) 35 ∧
    Hid (l' = D ++ E ∧ D.length = a ∧ RunsE ltF 20 D ∧ Same FC.x L0 l' ∧ l'.length = N))
  case atStart => exact ⟨0, [], L0, L0, Nat.zero_le _, rfl, rfl, by go_num, But.refl _ _, R0.out, Lib.hid ⟨rfl, rfl, .nil, Same.refl _, HN.out⟩⟩
  case round =>
    obtain ⟨a, D, E, l', haN, hg, rfl, rfl, hbt, o, HI⟩ := hrel
    have HG := Lib.hid hg
    clear hg R0
    by_cases hlt : a + 20 ≤ N
    · have C := Lib.hid (insert_part b cap a (a + 20) N rest D (E.take 20) (E.drop 20) l' wr o (by rw [List.take_append_drop]; exact HI.out.1) HI.out.2.2.2.2 hn HI.out.2.1 (by
          obtain ⟨h1, h2, -, -, h5⟩ := HI.out
          rw [h1] at h5; simp at h5 ⊢; omega) hcap HC.out)
      rw [show ((a + 20 : Nat) : Int) = (a : Int) + 20 by omega] at C
      have HB := Lib.hid hbt
      have hlt2 : (a : Int) + 20 ≤ N := by omega
      clear hbt o
      go_wp2_with fail
      refine C.out.mono ?_
      rintro en w2 ⟨rfl, c1, c2⟩
      have HH := Lib.hid (And.intro c1 c2)
      clear c1 c2 C
      go_wp2
      go_roundg (N - (a + 20))
      case measure => have := HG.out; omega
      case rel =>
        obtain ⟨R, L', r1, r2, r3, r4, r5⟩ := HH.out.2.out
        obtain ⟨h1, h2, h3, h4, h5⟩ := HI.out
        have hE : 20 ≤ E.length := by rw [h1] at h5; simp at h5; omega
        have hR : R.length = 20 := by rw [r2]; simp; omega
        refine ⟨a + 20, D ++ R, E.drop 20, L', by omega, rfl, by go_num, by go_num, HB.out.trans HH.out.1, r5, Lib.hid ⟨by rw [r1]; simp, by simp; omega, .snoc h3 hR r3, ?_, ?_⟩⟩
        · refine h4.trans ?_
          rw [h1, r1]
          refine (Same.refl D).append ?_
          have : Same FC.x (E.take 20 ++ E.drop 20) (R ++ E.drop 20) := r4.append (Same.refl _)
          rwa [List.take_append_drop] at this
        · rw [r1]; rw [h1] at h5; simp at h5 ⊢; omega
    · have C := Lib.hid (insert_part b cap a N N rest D E [] l' wr o (by rw [HI.out.1]; simp) HI.out.2.2.2.2 hn HI.out.2.1 (by
          obtain ⟨h1, h2, -, -, h5⟩ := HI.out
          rw [h1] at h5; simp at h5; omega) hcap HC.out)
      have HB := Lib.hid hbt
      have hge : ¬ (a : Int) + 20 ≤ N := by omega
      clear hbt o
      go_wp2_with fail
      refine C.out.mono ?_
      rintro en w2 ⟨rfl, c1, c2⟩
      obtain ⟨R, l2, r1, r2, r3, r4, r5⟩ := c2.out
      have HJ : Hid (Runs ltF 20 l2 ∧ Same FC.x L0 l2 ∧ l2.length = N) := Lib.hid (by
        obtain ⟨h1, h2, h3, h4, h5⟩ := HI.out
        have hR : R.length ≤ 20 := by rw [h1] at h5; simp at h5; omega
        rw [r1]
        refine ⟨h3.runs (by rw [List.append_nil]; exact .last hR r3), ?_, ?_⟩
        · refine h4.trans ?_
          rw [h1, List.append_nil]
          exact (Same.refl D).append r4
        · rw [h1] at h5; simp at h5 ⊢; omega)
      have R1 := Lib.hid (And.intro (HB.out.trans c1) r5)
      clear c1 c2 C r1 r2 r3 r4 r5 HI HB
      go_wp2
      go_loopg [6] (N - 20) (fun g s wr => ∃ (bs : Nat) (l' : List FC), 20 ≤ bs ∧ bs ≤ 2000 ∧ g = N - bs ∧ s = .int .i64 (bs : Int) ∧ But b w wr ∧ Own wr b (l'.flatMap FC.cells ++ rest) 35 ∧ Hid (Runs ltF bs l' ∧ Same FC.x L0 l' ∧ l'.length = N))
      case atStart => exact ⟨20, l2, by omega, by omega, rfl, by go_num, R1.out.1, R1.out.2, HJ⟩
      case round =>
        obtain ⟨bs, l3, hb20, hb2, hg, rfl, hbt, o, HI⟩ := hrel
        have HG2 := Lib.hid hg
        clear hg R1 HJ
        by_cases hlt2 : bs < N
        case neg =>
          have hge2 : ¬ (bs : Int) < N := by omega
          go_wp2
          go_end0
          exact ⟨rfl, hbt, ⟨l3, HI.out.1.one (by have := HI.out.2.2; omega), HI.out.2.1, by rw [HI.out.2.2, HN.out], o⟩⟩
        generalize wr = W1 at *
        have R2 := Lib.hid (And.intro hbt o)
        clear hbt o
        go_wp2
        go_loopg [7, 8] N (fun g s s' wr => ∃ (a : Nat) (D E l' : List FC), a ≤ N ∧ g = N - a ∧ s = .int .i64 (a : Int) ∧ s' = .int .i64 ((a : Int) + 2 * (bs : Int)) ∧ But b w wr ∧ Own wr b (l'.flatMap FC.cells ++ rest) 35 ∧
          Hid (l' = D ++ E ∧ D.length = a ∧ RunsE ltF (2 * bs) D ∧ Runs ltF bs E ∧ Same FC.x L0 l' ∧ l'.length = N))
        case atStart => exact ⟨0, [], l3, l3, Nat.zero_le _, rfl, rfl, by go_num, R2.out.1, R2.out.2, Lib.hid ⟨rfl, rfl, .nil, HI.out.1, HI.out.2.1, HI.out.2.2⟩⟩
        case round =>
          obtain ⟨a, D, E, l', haN, hg, rfl, rfl, hbt, o, HJ⟩ := hrel
          have HG3 := Lib.hid hg
          clear hg R2 HI
          have HB := Lib.hid hbt
          by_cases hle : a + 2 * bs ≤ N
          · obtain ⟨X, Y, r, hE, hX, hY, sX, sY, hr⟩ := HJ.out.2.2.2.1.two (by
              obtain ⟨h1, h2, -, -, -, h6⟩ := HJ.out
              rw [h1] at h6; simp at h6; omega)
            have C := Lib.hid (symMerge_any _ b cap a (a + bs) (a + 2 * bs) N rest D X Y r l' wr (Nat.le_refl _) o (by rw [HJ.out.1, hE]) HJ.out.2.2.2.2.2 hn HJ.out.2.1 (by omega) (by omega) (by omega) (by omega) sX sY hcap HC.out)
            rw [show ((a + bs : Nat) : Int) = (a : Int) + bs by omega, show ((a + 2 * bs : Nat) : Int) = (a : Int) + 2 * bs by omega] at C
            have HE := Lib.hid (And.intro hE (And.intro hX (And.intro hY hr)))
            have hle2 : (a : Int) + 2 * bs ≤ N := by omega
            clear hbt o hE hX hY sX sY hr
            go_wp2_with fail
            refine C.out.mono ?_
            rintro en w2 ⟨rfl, c1, c2⟩
            have HH := Lib.hid (And.intro c1 c2)
            clear c1 c2 C
            go_wp2
            go_roundg (N - (a + 2 * bs))
            case measure => have := HG3.out; omega
            case rel =>
              obtain ⟨R, L', r1, r2, r3, r4, r5⟩ := HH.out.2.out
              obtain ⟨h1, h2, h3, h4, h5, h6⟩ := HJ.out
              obtain ⟨e1, e2, e3, e4⟩ := HE.out
              refine ⟨a + 2 * bs, D ++ R, r, L', by omega, rfl, by go_num, by go_num, HB.out.trans HH.out.1, r5, Lib.hid ⟨by rw [r1]; simp, by simp; omega, .snoc h3 (by omega) r3, e4, ?_, ?_⟩⟩
              · refine h5.trans ?_
                rw [h1, r1, e1]
                refine (Same.refl D).append ?_
                rw [← List.append_assoc]
                exact r4.append (Same.refl r)
              · rw [r1]; rw [h1, e1] at h6; simp at h6 ⊢; omega
          · have hge3 : ¬ (a : Int) + 2 * bs ≤ N := by omega
            by_cases hm : a + bs < N
            · obtain ⟨X, Y, hE, hX, sX, sY⟩ := HJ.out.2.2.2.1.rest (by
                obtain ⟨h1, h2, -, -, -, h6⟩ := HJ.out
                rw [h1] at h6; simp at h6; omega) (by
                obtain ⟨h1, h2, -, -, -, h6⟩ := HJ.out
                rw [h1] at h6; simp at h6; omega)
              have hYl : a + bs + Y.length = N := by
                obtain ⟨h1, h2, -, -, -, h6⟩ := HJ.out
                rw [h1, hE] at h6; simp at h6; omega
              have C := Lib.hid (symMerge_any _ b cap a (a + bs) N N rest D X Y [] l' wr (Nat.le_refl _) o (by rw [HJ.out.1, hE]; simp) HJ.out.2.2.2.2.2 hn HJ.out.2.1 (by omega) (by omega) (by omega) (by omega) sX sY hcap HC.out)
              rw [show ((a + bs : Nat) : Int) = (a : Int) + bs by omega] at C
              have HE := Lib.hid (And.intro hE (And.intro hX hYl))
              have hm2 : (a : Int) + bs < N := by omega
              clear hbt o hE hX sX sY hYl
              go_wp2_with fail
              refine C.out.mono ?_
              rintro en w2 ⟨rfl, c1, c2⟩
              have HH := Lib.hid (And.intro c1 c2)
              clear c1 c2 C
              go_wp2
              go_roundg (N - 2 * bs)
              case measure => have := HG2.out; omega
              case rel =>
                obtain ⟨R, L', r1, r2, r3, r4, r5⟩ := HH.out.2.out
                obtain ⟨h1, h2, h3, h4, h5, h6⟩ := HJ.out
                obtain ⟨e1, e2, e3⟩ := HE.out
                refine ⟨2 * bs, L', by omega, by omega, rfl, by go_num, HB.out.trans HH.out.1, r5, Lib.hid ⟨?_, ?_, ?_⟩⟩
                · rw [r1, List.append_nil]; exact h3.runs (.last (by omega) r3)
                · refine h5.trans ?_
                  rw [h1, r1, e1, List.append_nil]
                  exact (Same.refl D).append r4
                · rw [r1]; rw [h1, e1] at h6; simp at h6 ⊢; omega
            · have hm2 : ¬ (a : Int) + bs < N := by omega
              have R3 := Lib.hid (And.intro hbt o)
              clear hbt o
              go_wp2
              go_roundg (N - 2 * bs)
              case measure => have := HG2.out; omega
              case rel =>
                obtain ⟨h1, h2, h3, h4, h5, h6⟩ := HJ.out
                have hEl : E.length ≤ bs := by rw [h1] at h6; simp at h6; omega
                refine ⟨2 * bs, l', by omega, by omega, rfl, by go_num, R3.out.1, R3.out.2, Lib.hid ⟨?_, h5, h6⟩⟩
                rw [h1]; exact h3.runs (.last (by omega) (h4.one hEl))

set_option maxHeartbeats 400000 in
theorem sort_any (b cap N : Nat) (rest : List Value) (L0 : List FC) (w : World) (ho : Own w b (L0.flatMap FC.cells ++ rest) 35) (hN : L0.length = N) (hn : N ≤ 1000) (hcap : N ≤ cap) (hcm : cap ≤ maxLen) :
    Calls Try.prog 49 #[.slice (some ⟨b, 0, none⟩) N cap, .func (.func 50) #[] #[]] w fun en w' => en = .returned (.tuple #[]) ∧ But b w w' ∧ SortedTo b rest L0 w' := by
  have C := Lib.hid (stable_any b cap N rest L0 w ho hN hn hcap hcm)
  clear ho hN
  go_enter Try.func49, Try.ntmps49
  go_wp2_with fail
  refine C.out.mono ?_
  rintro e w1 ⟨rfl, h1, h2⟩
  have HH := Lib.hid (And.intro h1 h2)
  clear h1 h2 C
  go_wp2
  go_end0
  exact ⟨rfl, HH.out.1, HH.out.2⟩
end Go.Proofs.Ytmmembmohkideaa
