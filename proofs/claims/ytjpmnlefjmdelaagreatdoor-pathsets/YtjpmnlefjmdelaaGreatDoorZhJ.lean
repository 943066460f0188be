/- Trees and the blocks that they lie in: what is cut, put together again: no function of the program. The reference's fresh and replaced, with the blocks that their results lie in. -/
import Derived.Test.YtjpmnlefjmdelaaGreatDoorXtJ
import Derived.Test.YtjpmnlefjmdelaaGreatDoorYa
import Derived.Laws.AppendOwnNone
set_option linter.unusedSimpArgs false
set_option linter.unusedVariables false
namespace Go.Proofs.YtjpmnlefjmdelaaGreatDoor
open Go.RowKit Go.Sort Go.Proofs.LawFrame

theorem FlatA.of_own {w : World} {base : Nat} {A : Nat → Prop} {e : TypeId} {size : Nat} {v : Value} {n : Nat} {xs : List Value} (h : w.ownsRow base e size v n xs) (hA : ∀ b, base ≤ b → A b) : FlatA w A v n xs := by
  rcases h.2 with ⟨rfl, rfl⟩ | ⟨g, cap, cur, rfl, hb, hg, h1, h2, h3, h4⟩
  · exact FlatA.nil w A xs
  · refine ⟨some ⟨g, 0, none⟩, cap, rfl, h1, h2, fun _ => ⟨g, 0, rfl, ?_, hA g hb, fun j x hx => ?_⟩⟩
    · rcases Nat.lt_or_ge g w.heap.size with hlt | hge
      · exact hlt
      · rw [Array.getElem?_eq_none hge] at hg; cases hg
    · rw [Nat.zero_add, cell_of_row w g j cur e (0, 0) hg, ← Array.getElem?_toList]
      rw [← h4] at hx
      rw [List.getElem?_take] at hx
      split at hx
      · exact hx
      · cases hx
theorem Flat.isA {w : World} {v : Value} {n : Nat} {xs : List Value} (h : Flat w v n xs) : FlatA w (fun b => b < w.heap.size) v n xs := by
  obtain ⟨ao, cap, h1, h2, h3, h4⟩ := h.out
  refine ⟨ao, cap, h1, h2, h3, fun hl => ?_⟩
  obtain ⟨b, off, h5, h6, h7⟩ := h4 hl
  exact ⟨b, off, h5, h6, h6, h7⟩
theorem Is.isA {w : World} {c : VC} {t : T} (h : Is w c t) : IsA w (fun b => b < w.heap.size) c t := by
  induction h with
  | mk cs fs hl1 hl2 hl3 hf1 hf2 hf3 hf4 ih1 ih2 => exact .mk cs fs hl1 hl2.isA ih1 hf1 hf2.isA hf3 ih2
/-- the slice v holds these values, which lie in blocks of A -/
structure ValsA (w : World) (A : Nat → Prop) (v : Value) (l : List T) : Prop where
  out : ∃ cs : List VC, cs.length = l.length ∧ FlatA w A v l.length (cs.flatMap VC.cells) ∧ ∀ (i : Nat) (x : VC) (t : T), cs[i]? = some x → l[i]? = some t → IsA w A x t
structure FldsA (w : World) (A : Nat → Prop) (v : Value) (l : List (Str × T)) : Prop where
  out : ∃ cs : List FC, cs.length = l.length ∧ FlatA w A v l.length (cs.flatMap FC.cells) ∧ (∀ (i : Nat) (x : FC) (p : Str × T), cs[i]? = some x → l[i]? = some p → x.x = p.1) ∧
    ∀ (i : Nat) (x : FC) (p : Str × T), cs[i]? = some x → l[i]? = some p → IsA w A x.v p.2
theorem IsA.vals {w : World} {A : Nat → Prop} {c : VC} {k n : Int} {s : Str} {l : List T} {f : List (Str × T)} (h : IsA w A c (.mk k n s l f)) : ValsA w A (.slice c.la c.ln c.lc) l := by
  cases h with
  | mk cs fs hl1 hl2 hl3 hf1 hf2 hf3 hf4 => exact ⟨cs, hl1, hl2, hl3⟩
theorem IsA.flds {w : World} {A : Nat → Prop} {c : VC} {k n : Int} {s : Str} {l : List T} {f : List (Str × T)} (h : IsA w A c (.mk k n s l f)) : FldsA w A (.slice c.fa c.fn c.fc) f := by
  cases h with
  | mk cs fs hl1 hl2 hl3 hf1 hf2 hf3 hf4 => exact ⟨fs, hf1, hf2, hf3, hf4⟩
theorem IsA.same {w : World} {A : Nat → Prop} {c : VC} {k n : Int} {s : Str} {l : List T} {f : List (Str × T)} (h : IsA w A c (.mk k n s l f)) : c.k = k ∧ c.n = n ∧ c.s = s := by
  cases h; exact ⟨rfl, rfl, rfl⟩
theorem IsA.of {w : World} {A : Nat → Prop} {c : VC} {l : List T} {f : List (Str × T)} (h : ValsA w A (.slice c.la c.ln c.lc) l) (h' : FldsA w A (.slice c.fa c.fn c.fc) f) : IsA w A c (.mk c.k c.n c.s l f) := by
  obtain ⟨cs, h1, h2, h3⟩ := h.out
  obtain ⟨fs, g1, g2, g3, g4⟩ := h'.out
  exact .mk cs fs h1 h2 h3 g1 g2 g3 g4
theorem ValsA.keep {w w' : World} {A A' : Nat → Prop} {v : Value} {l : List T} (h : ValsA w A v l) (hs : w.heap.size ≤ w'.heap.size) (hA : ∀ b, A b → A' b) (hk : ∀ b, A b → b < w.heap.size → w'.heap[b]? = w.heap[b]?) : ValsA w' A' v l := by
  obtain ⟨cs, h1, h2, h3⟩ := h.out
  exact ⟨cs, h1, h2.keep hs hA hk, fun i x t hx ht => (h3 i x t hx ht).keep hs hA hk⟩
theorem FldsA.keep {w w' : World} {A A' : Nat → Prop} {v : Value} {l : List (Str × T)} (h : FldsA w A v l) (hs : w.heap.size ≤ w'.heap.size) (hA : ∀ b, A b → A' b) (hk : ∀ b, A b → b < w.heap.size → w'.heap[b]? = w.heap[b]?) : FldsA w' A' v l := by
  obtain ⟨cs, h1, h2, h3, h4⟩ := h.out
  exact ⟨cs, h1, h2.keep hs hA hk, h3, fun i x t hx ht => (h4 i x t hx ht).keep hs hA hk⟩
theorem ValsA.all {w w' : World} {A A' : Nat → Prop} {v : Value} {l : List T} (h : ValsA w A v l) (hb : Below w.heap.size w w') (hA : ∀ b, A b → A' b) : ValsA w' A' v l := h.keep hb.size hA (fun b _ hlt => hb.block b hlt)
theorem FldsA.all {w w' : World} {A A' : Nat → Prop} {v : Value} {l : List (Str × T)} (h : FldsA w A v l) (hb : Below w.heap.size w w') (hA : ∀ b, A b → A' b) : FldsA w' A' v l := h.keep hb.size hA (fun b _ hlt => hb.block b hlt)
theorem ValsA.at {w wr : World} {A : Nat → Prop} {ao : Option Addr} {n cap : Nat} {l : List T} (h : ValsA w A (.slice ao n cap) l) (hb : Below w.heap.size w wr) {i : Nat} {t : T} (hk : l[i]? = some t) :
    ∃ (b off : Nat) (c : VC), ao = some ⟨b, off, none⟩ ∧ b < w.heap.size ∧ IsA wr A c t ∧ wr.cell? ⟨b, off + i * 5, none⟩ = some (.int .i64 c.k) ∧ wr.cell? ⟨b, off + i * 5 + 1, none⟩ = some (.int .i64 c.n) ∧
      wr.cell? ⟨b, off + i * 5 + 2, none⟩ = some (sV c.s) ∧ wr.cell? ⟨b, off + i * 5 + 3, none⟩ = some (.slice c.la c.ln c.lc) ∧ wr.cell? ⟨b, off + i * 5 + 4, none⟩ = some (.slice c.fa c.fn c.fc) := by
  obtain ⟨cs, g1, g2, g3⟩ := h.out
  obtain ⟨ao', cap', h1, h2, h3, h4⟩ := g2.out
  cases h1
  obtain ⟨hk', -⟩ := List.getElem?_eq_some_iff.1 hk
  obtain ⟨b, off, rfl, h6, -, h7⟩ := h4 (by omega)
  have hc : cs[i]? = some cs[i] := List.getElem?_eq_getElem (by omega)
  generalize cs[i] = c at hc
  have hq : ∀ j x, c.cells[j]? = some x → wr.cell? ⟨b, off + i * 5 + j, none⟩ = some x := fun j x hx => by
    have hj : j < 5 := (List.getElem?_eq_some_iff.1 hx).1
    rw [hb.cell (p := ⟨b, off + i * 5 + j, none⟩) h6, Nat.add_assoc]
    exact h7 (i * 5 + j) x (by rw [flat_get VC.cells (m := 5) (fun _ => rfl) cs i j c hc hj]; exact hx)
  exact ⟨b, off, c, rfl, h6, (g3 i c t hc hk).all hb, hq 0 _ rfl, hq 1 _ rfl, hq 2 _ rfl, hq 3 _ rfl, hq 4 _ rfl⟩
theorem FldsA.at {w wr : World} {A : Nat → Prop} {ao : Option Addr} {n cap : Nat} {l : List (Str × T)} (h : FldsA w A (.slice ao n cap) l) (hb : Below w.heap.size w wr) {i : Nat} {p : Str × T} (hk : l[i]? = some p) :
    ∃ (b off : Nat) (c : VC), ao = some ⟨b, off, none⟩ ∧ b < w.heap.size ∧ IsA wr A c p.2 ∧ wr.cell? ⟨b, off + i * 6, none⟩ = some (sV p.1) ∧ wr.cell? ⟨b, off + i * 6 + 1, none⟩ = some (.int .i64 c.k) ∧ wr.cell? ⟨b, off + i * 6 + 2, none⟩ = some (.int .i64 c.n) ∧
      wr.cell? ⟨b, off + i * 6 + 3, none⟩ = some (sV c.s) ∧ wr.cell? ⟨b, off + i * 6 + 4, none⟩ = some (.slice c.la c.ln c.lc) ∧ wr.cell? ⟨b, off + i * 6 + 5, none⟩ = some (.slice c.fa c.fn c.fc) := by
  obtain ⟨cs, g1, g2, g3, g4⟩ := h.out
  obtain ⟨ao', cap', h1, h2, h3, h4⟩ := g2.out
  cases h1
  obtain ⟨hk', -⟩ := List.getElem?_eq_some_iff.1 hk
  obtain ⟨b, off, rfl, h6, -, h7⟩ := h4 (by omega)
  have hc : cs[i]? = some cs[i] := List.getElem?_eq_getElem (by omega)
  generalize cs[i] = c at hc
  have hq : ∀ j x, c.cells[j]? = some x → wr.cell? ⟨b, off + i * 6 + j, none⟩ = some x := fun j x hx => by
    have hj : j < 6 := (List.getElem?_eq_some_iff.1 hx).1
    rw [hb.cell (p := ⟨b, off + i * 6 + j, none⟩) h6, Nat.add_assoc]
    exact h7 (i * 6 + j) x (by rw [flat_get FC.cells (m := 6) (fun _ => rfl) cs i j c hc hj]; exact hx)
  have hx := g3 i c p hc hk
  exact ⟨b, off, c.v, rfl, h6, (g4 i c p hc hk).all hb, by rw [← hx]; exact hq 0 _ rfl, hq 1 _ rfl, hq 2 _ rfl, hq 3 _ rfl, hq 4 _ rfl, hq 5 _ rfl⟩
theorem IsA.lt {w : World} {A : Nat → Prop} {c : VC} {t : T} (h : IsA w A c t) : IsA w (fun b => A b ∧ b < w.heap.size) c t := by
  induction h with
  | mk cs fs hl1 hl2 hl3 hf1 hf2 hf3 hf4 ih1 ih2 =>
    have g : ∀ {v : Value} {n : Nat} {xs : List Value}, FlatA w A v n xs → FlatA w (fun b => A b ∧ b < w.heap.size) v n xs := fun h => by
      obtain ⟨ao, cap, h1, h2, h3, h4⟩ := h.out
      refine ⟨ao, cap, h1, h2, h3, fun hl => ?_⟩
      obtain ⟨b, off, h5, h6, h7, h8⟩ := h4 hl
      exact ⟨b, off, h5, h6, ⟨h7, h6⟩, h8⟩
    exact .mk cs fs hl1 (g hl2) ih1 hf1 (g hf2) hf3 ih2
end Go.Proofs.YtjpmnlefjmdelaaGreatDoor
namespace Go.Proofs.YtjpmnlefjmdelaaGreatDoor
open Go.RowKit Go.Sort Go.Proofs.LawFrame

theorem IsA.upB {w w' : World} {A : Nat → Prop} {c : VC} {t : T} {m : Nat} (h : IsA w A c t) (hb : Below w.heap.size w w') : IsA w' (fun b => A b ∨ m ≤ b) c t := h.keep hb.size (fun b h => Or.inl h) (fun b _ hlt => hb.block b hlt)
theorem fldsA_oneP {w : World} {A : Nat → Prop} {b : Nat} {x : Str} {c : VC} {t : T} (o : Own w b (FC.cells ⟨x, c⟩) 58) (hA : A b) (hI : IsA w A c t) : FldsA w A (.slice (some ⟨b, 0, none⟩) 1 1) [(x, t)] := by
  refine ⟨[⟨x, c⟩], rfl, ⟨_, _, rfl, Nat.le_refl _, by decide, fun _ => ⟨b, 0, rfl, o.lt, hA, fun j u hu => by rw [Nat.zero_add]; exact o.cell (by simpa using hu)⟩⟩, fun i c' t' hc ht => ?_, fun i c' t' hc ht => ?_⟩
  · cases i with
    | zero => simp at hc ht; subst hc ht; rfl
    | succ i => simp at hc
  · cases i with
    | zero => simp at hc ht; subst hc ht; exact hI
    | succ i => simp at hc
theorem isA_leafP (w : World) (A : Nat → Prop) (k n : Int) (s : Str) : IsA w A ⟨k, n, s, none, 0, 0, none, 0, 0⟩ (.mk k n s [] []) :=
  .mk (c := ⟨k, n, s, none, 0, 0, none, 0, 0⟩) [] [] rfl (FlatA.nil _ _ _) (fun i x t h => by simp at h) rfl (FlatA.nil _ _ _) (fun i x t h => by simp at h) (fun i x t h => by simp at h)
theorem isA_mapP {w : World} {A : Nat → Prop} {a : Option Addr} {n c : Nat} {f : List (Str × T)} (h : FldsA w A (.slice a n c) f) : IsA w A ⟨5, 0, [], none, 0, 0, a, n, c⟩ (.mk 5 0 [] [] f) :=
  IsA.of (c := ⟨5, 0, [], none, 0, 0, a, n, c⟩) ⟨[], rfl, FlatA.nil _ _ _, fun i x t h => by simp at h⟩ h

theorem newT_plain' {s : S} (h : ¬ s.k = 3) : newT s = .mk 5 0 [] [] [] := by unfold newT; rw [if_neg h]
set_option maxHeartbeats 8000000 in
set_option maxRecDepth 4000 in
theorem pfreshA_any (s : S) (w : World) : Calls Tryz.prog 124 #[s.val] w fun e w' => ∃ c' : VC, e = .returned c'.val ∧ Below w.heap.size w w' ∧ IsA w' (fun b => w.heap.size ≤ b) c' (newT s) := by
  obtain ⟨sk, sn, si, sv⟩ := s
  show Calls Tryz.prog 124 #[.agg #[.int .i64 sk, sV sn, .int .i64 si, sV sv]] w _
  have hb0 : Below w.heap.size w ((w.alloc (.cells #[.int .i64 sk, sV sn, .int .i64 si, sV sv] 52)).alloc (.cells #[.int .i64 0, .int .i64 0, .string ⟨#[]⟩, .slice none 0 0, .slice none 0 0] 25)) := ((Below.refl _ _).alloc (Nat.le_refl _) _).alloc (by simp) _
  have oS : Own ((w.alloc (.cells #[.int .i64 sk, sV sn, .int .i64 si, sV sv] 52)).alloc (.cells #[.int .i64 0, .int .i64 0, .string ⟨#[]⟩, .slice none 0 0, .slice none 0 0] 25)) w.heap.size [.int .i64 sk, sV sn, .int .i64 si, sV sv] 52 := (Own.new _ _ _).alloc _
  have oR : Own ((w.alloc (.cells #[.int .i64 sk, sV sn, .int .i64 si, sV sv] 52)).alloc (.cells #[.int .i64 0, .int .i64 0, .string ⟨#[]⟩, .slice none 0 0, .slice none 0 0] 25)) (w.heap.size + 1) [.int .i64 0, .int .i64 0, .string ⟨#[]⟩, .slice none 0 0, .slice none 0 0] 25 := Own.new_at (by rw [size_alloc]) _ _
  have hs0 : ((w.alloc (.cells #[.int .i64 sk, sV sn, .int .i64 si, sV sv] 52)).alloc (.cells #[.int .i64 0, .int .i64 0, .string ⟨#[]⟩, .slice none 0 0, .slice none 0 0] 25)).heap.size = w.heap.size + 2 := by rw [size_alloc, size_alloc]
  go_enter Tryz.func124, Tryz.ntmps124
  go_upto_region 1 with (fail)
  change Code.wp Tryz.prog _ _ _ ((w.alloc (.cells #[.int .i64 sk, sV sn, .int .i64 si, sV sv] 52)).alloc (.cells #[.int .i64 0, .int .i64 0, .string ⟨#[]⟩, .slice none 0 0, .slice none 0 0] 25))
  generalize ((w.alloc (.cells #[.int .i64 sk, sV sn, .int .i64 si, sV sv] 52)).alloc (.cells #[.int .i64 0, .int .i64 0, .string ⟨#[]⟩, .slice none 0 0, .slice none 0 0] 25)) = V at *
  have HS := Lib.hid (And.intro hb0 (And.intro oR hs0))
  have s0 := oS.cell (i := 0) rfl
  by_cases h3 : sk = 3
  · subst h3
    have s1 := oS.cell (i := 1) rfl
    have s3 := oS.cell (i := 3) rfl
    have hbA := below_alloc V (.cells #[sV sn, .int .i64 3, .int .i64 0, sV sv, .slice none 0 0, .slice none 0 0] 58)
    have oF := Own.new V [sV sn, .int .i64 3, .int .i64 0, sV sv, .slice none 0 0, .slice none 0 0] 58
    have HT : Hid (newT ⟨3, sn, si, sv⟩ = .mk 5 0 [] [] [(sn, .mk 3 0 sv [] [])]) := Lib.hid (by simp [newT])
    have oN := oR.all hbA
    have q0 := oN.cell (i := 0) rfl
    have q1 := oN.cell (i := 1) rfl
    have q2 := oN.cell (i := 2) rfl
    have q3 := oN.cell (i := 3) rfl
    have q4 := oN.cell (i := 4) rfl
    have g0 := oN.frozen 0
    have g1 := oN.frozen 1
    have g2 := oN.frozen 2
    have g3 := oN.frozen 3
    have g4 := oN.frozen 4
    have HU := Lib.hid (And.intro (own_put5 oN (.int .i64 5) (.int .i64 0) (.string ⟨#[]⟩) (.slice none 0 0) (.slice (some ⟨V.heap.size, 0, none⟩) 1 1)) (And.intro (below_put5 (b := w.heap.size + 1) (below_all hb0 hbA) (Nat.le_succ _) (.int .i64 5) (.int .i64 0) (.string ⟨#[]⟩) (.slice none 0 0) (.slice (some ⟨V.heap.size, 0, none⟩) 1 1)) (Own.put5n (b := V.heap.size) (c := w.heap.size + 1) oF (by omega) (.int .i64 5) (.int .i64 0) (.string ⟨#[]⟩) (.slice none 0 0) (.slice (some ⟨V.heap.size, 0, none⟩) 1 1))))
    clear oN oF hbA oR hb0 oS hs0
    go_wp2
    clear q0 q1 q2 q3 q4 g0 g1 g2 g3 g4 s0 s1 s3
    change bodyPost Tryz.prog Tryz.f124 _ _ _ (put5 (V.alloc (.cells #[sV sn, .int .i64 3, .int .i64 0, sV sv, .slice none 0 0, .slice none 0 0] 58)) (w.heap.size + 1) (.int .i64 5) (.int .i64 0) (.string ⟨#[]⟩) (.slice none 0 0) (.slice (some ⟨V.heap.size, 0, none⟩) 1 1))
    generalize put5 (V.alloc (.cells #[sV sn, .int .i64 3, .int .i64 0, sV sv, .slice none 0 0, .slice none 0 0] 58)) (w.heap.size + 1) (.int .i64 5) (.int .i64 0) (.string ⟨#[]⟩) (.slice none 0 0) (.slice (some ⟨V.heap.size, 0, none⟩) 1 1) = U at *
    generalize V.heap.size = nb at *
    have c0 := HU.out.1.cell (i := 0) rfl
    have c1 := HU.out.1.cell (i := 1) rfl
    have c2 := HU.out.1.cell (i := 2) rfl
    have c3 := HU.out.1.cell (i := 3) rfl
    have c4 := HU.out.1.cell (i := 4) rfl
    exact bodyPost_ret (v := .agg #[.int .i64 5, .int .i64 0, .string ⟨#[]⟩, .slice none 0 0, .slice (some ⟨nb, 0, none⟩) 1 1]) (by simp [results, Tryz.results124, go_sem, c0, c1, c2, c3, c4]) rfl ⟨⟨5, 0, [], none, 0, 0, some ⟨nb, 0, none⟩, 1, 1⟩, rfl, HU.out.2.1, by rw [HT.out]; exact isA_mapP (fldsA_oneP (A := fun b => w.heap.size ≤ b) (c := ⟨3, 0, sv, none, 0, 0, none, 0, 0⟩) HU.out.2.2 (by have := HS.out.2.2; omega) (isA_leafP _ _ 3 0 sv))⟩
  · have HT : Hid (newT ⟨sk, sn, si, sv⟩ = .mk 5 0 [] [] []) := Lib.hid (newT_plain' h3)
    have e3 : (sk == 3) = false := by rw [beq_eq_false_iff_ne]; exact h3
    clear hb0 oR oS hs0 h3
    have oFin := HS.out.2.1
    have q0 := oFin.cell (i := 0) rfl
    have q1 := oFin.cell (i := 1) rfl
    have q2 := oFin.cell (i := 2) rfl
    have q3 := oFin.cell (i := 3) rfl
    have q4 := oFin.cell (i := 4) rfl
    have g0 := oFin.frozen 0
    have g1 := oFin.frozen 1
    have g2 := oFin.frozen 2
    have g3 := oFin.frozen 3
    have g4 := oFin.frozen 4
    have HU := Lib.hid (And.intro (own_put5 oFin (.int .i64 5) (.int .i64 0) (.string ⟨#[]⟩) (.slice none 0 0) (.slice none 0 0)) (below_put5 (b := w.heap.size + 1) HS.out.1 (Nat.le_succ _) (.int .i64 5) (.int .i64 0) (.string ⟨#[]⟩) (.slice none 0 0) (.slice none 0 0)))
    clear oFin
    go_wp2
    clear q0 q1 q2 q3 q4 g0 g1 g2 g3 g4
    change bodyPost Tryz.prog Tryz.f124 _ _ _ (put5 V (w.heap.size + 1) (.int .i64 5) (.int .i64 0) (.string ⟨#[]⟩) (.slice none 0 0) (.slice none 0 0))
    generalize put5 V (w.heap.size + 1) (.int .i64 5) (.int .i64 0) (.string ⟨#[]⟩) (.slice none 0 0) (.slice none 0 0) = U at *
    have c0 := HU.out.1.cell (i := 0) rfl
    have c1 := HU.out.1.cell (i := 1) rfl
    have c2 := HU.out.1.cell (i := 2) rfl
    have c3 := HU.out.1.cell (i := 3) rfl
    have c4 := HU.out.1.cell (i := 4) rfl
    exact bodyPost_ret (v := .agg #[.int .i64 5, .int .i64 0, .string ⟨#[]⟩, .slice none 0 0, .slice none 0 0]) (by simp [results, Tryz.results124, go_sem, c0, c1, c2, c3, c4]) rfl ⟨⟨5, 0, [], none, 0, 0, none, 0, 0⟩, rfl, HU.out.2, by rw [HT.out]; exact .mk (c := ⟨5, 0, [], none, 0, 0, none, 0, 0⟩) [] [] rfl (FlatA.nil _ _ _) (fun i x t h => by simp at h) rfl (FlatA.nil _ _ _) (fun i x t h => by simp at h) (fun i x t h => by simp at h)⟩


theorem row_lit {w : World} {b base : Nat} (o : Own w b [] 25) (hb : base ≤ b) : w.ownsRow base 25 5 (.slice (some ⟨b, 0, none⟩) 0 0) 0 [] :=
  ⟨by simp, Or.inr ⟨b, 0, #[], rfl, hb, o, Nat.le_refl _, Nat.zero_le _, by simp, by simp⟩⟩
theorem vcs_one (cs : List VC) : ∀ u ∈ cs.flatMap VC.cells, u.oneCell' = true := by
  intro u hu
  rw [List.mem_flatMap] at hu
  obtain ⟨c, -, hc⟩ := hu
  exact five_one c u hc
theorem vcs_len (cs : List VC) : (cs.flatMap VC.cells).length = cs.length * 5 := flat_length VC.cells (m := 5) (fun _ => rfl) cs
/-- a part of a list's cells -/
theorem vcs_part {w wr : World} {b off : Nat} {cs : List VC} (h : ∀ j x, (cs.flatMap VC.cells)[j]? = some x → w.cell? ⟨b, off + j, none⟩ = some x) (hb : Below w.heap.size w wr) (hbl : b < w.heap.size) (k m : Nat) :
    ∀ j u, (((cs.drop k).take m).flatMap VC.cells)[j]? = some u → wr.cell? ((⟨b, off + k * 5, none⟩ : Addr).add j) = some u := by
  intro j u hu
  rw [Addr.add_lit, hb.cell (p := ⟨b, off + k * 5 + j, none⟩) hbl, Nat.add_assoc]
  apply h
  have hj := (List.getElem?_eq_some_iff.1 hu).1
  rw [vcs_len] at hj
  have e : cs = cs.take k ++ ((cs.drop k).take m ++ (cs.drop k).drop m) := by rw [List.take_append_drop, List.take_append_drop]
  have hk : k ≤ cs.length := by
    rcases Nat.lt_or_ge cs.length k with h' | h'
    · rw [List.drop_eq_nil_of_le (by omega)] at hj; simp at hj
    · exact h'
  have hlk : ((cs.take k).flatMap VC.cells).length = k * 5 := by rw [vcs_len, List.length_take]; congr 1; omega
  have h2 : (cs.flatMap VC.cells)[k * 5 + j]? = (((cs.drop k).take m ++ (cs.drop k).drop m).flatMap VC.cells)[j]? := by
    conv => lhs; rw [e]
    rw [List.flatMap_append, List.getElem?_append_right (by omega)]
    congr 1; omega
  rw [h2, List.flatMap_append, List.getElem?_append_left (by rw [vcs_len]; exact hj)]
  exact hu
theorem vals_of_own {w : World} {A : Nat → Prop} {base m : Nat} {v : Value} {n : Nat} {cs : List VC} {l : List T} (h : w.ownsRow base 25 5 v n (cs.flatMap VC.cells)) (hm : m ≤ base) (hn : n = l.length) (hc : cs.length = l.length) (hI : ∀ (i : Nat) (x : VC) (t : T), cs[i]? = some x → l[i]? = some t → IsA w (fun b => A b ∨ m ≤ b) x t) : ValsA w (fun b => A b ∨ m ≤ b) v l := by
  subst hn
  exact ⟨cs, hc, FlatA.of_own h (fun b hb => Or.inr (Nat.le_trans hm hb)), hI⟩

set_option maxHeartbeats 8000000 in
set_option maxRecDepth 4000 in
theorem preplacedA_any (cx : VC) (v : Value) (l : List T) (x : T) (i : Nat) (w : World) (A : Nat → Prop) (hv : ValsA w A v l) (hX : IsA w A cx x) (hi : i ≤ l.length) (hl : l.length ≤ 4000) :
    Calls Tryz.prog 126 #[v, .int .i64 i, cx.val] w fun e w' => ∃ v', e = .returned v' ∧ Below w.heap.size w w' ∧ ValsA w' (fun b => A b ∨ w.heap.size ≤ b) v' (if i < l.length then l.set i x else l ++ [x]) := by
  obtain ⟨i25, hi25, hz25, hs25, hy25⟩ := info_parts info25
  obtain ⟨xk, xn, xs, xla, xln, xlc, xfa, xfn, xfc⟩ := cx
  obtain ⟨cs, hcl, hfl, hci⟩ := hv.out
  obtain ⟨ao, cap, rfl, hlc, hlm, hat⟩ := hfl.out
  have hmx := hlm
  unfold maxLen at hlm
  show Calls Tryz.prog 126 #[.slice ao l.length cap, .int .i64 i, .agg #[.int .i64 xk, .int .i64 xn, sV xs, .slice xla xln xlc, .slice xfa xfn xfc]] w _
  have hb0 := below_alloc w (.cells #[.int .i64 xk, .int .i64 xn, sV xs, .slice xla xln xlc, .slice xfa xfn xfc] 25)
  have oX := Own.new w [.int .i64 xk, .int .i64 xn, sV xs, .slice xla xln xlc, .slice xfa xfn xfc] 25
  have hVs : (w.alloc (.cells #[.int .i64 xk, .int .i64 xn, sV xs, .slice xla xln xlc, .slice xfa xfn xfc] 25)).heap.size = w.heap.size + 1 := size_alloc _ _
  go_enter Tryz.func126, Tryz.ntmps126
  go_upto_region 1 with (fail)
  change Code.wp Tryz.prog _ _ _ (w.alloc (.cells #[.int .i64 xk, .int .i64 xn, sV xs, .slice xla xln xlc, .slice xfa xfn xfc] 25))
  generalize w.alloc (.cells #[.int .i64 xk, .int .i64 xn, sV xs, .slice xla xln xlc, .slice xfa xfn xfc] 25) = V at *
  have hic : i ≤ cap := by omega
  have hbL := below_all hb0 (below_alloc V (.cells #[] 25))
  have hrow := row_lit (base := w.heap.size + 1) (Own.new V [] 25) (by omega)
  have oX1 := oX.all (below_alloc V (.cells #[] 25))
  have HS := Lib.hid (And.intro hbL (And.intro oX1 hVs))
  by_cases hpos : 0 < l.length
  case neg =>
    have hl0 : l = [] := List.eq_nil_of_length_eq_zero (by omega)
    subst hl0
    have hi0 : i = 0 := by simpa using hi
    subst hi0
    clear hat hfl hci hcl hv hVs
    cases ao with
    | none =>
      go_upto_region 2 with (fail)
      have a0 := oX1.cell (i := 0) rfl
      have a1 := oX1.cell (i := 1) rfl
      have a2 := oX1.cell (i := 2) rfl
      have a3 := oX1.cell (i := 3) rfl
      have a4 := oX1.cell (i := 4) rfl
      go_upto_region 3 with (first | (at_builtin; refine wpList_append_own _ rfl (.tmp 13) (.tmp 15) 22 rfl (w.heap.size + 1) 25 i25 (.agg #[.int .i64 0, .int .i64 0, .string ⟨#[]⟩, .slice none 0 0, .slice none 0 0]) 5 80 Tryz.underlying22 hi25 hz25 hs25 hy25 rfl (by decide) _ 0 [] rfl (hrow.alloc _) ⟨V.heap.size + 1, 0, none⟩ 1 1 (VC.cells ⟨xk, xn, xs, xla, xln, xlc, xfa, xfn, xfc⟩) rfl rfl (own_src (Own.new_at (by simp) _ _)) (five_one ⟨xk, xn, xs, xla, xln, xlc, xfa, xfn, xfc⟩) (by unfold maxLen; omega) (by omega) (by have := HS.out.2.2; simp; omega) ?_; intro v2 w2 hown2 hgrow2 hnil2))
      have hb2 := below_rowq (HS.out.1.alloc HS.out.1.size (.cells #[.int .i64 xk, .int .i64 xn, sV xs, .slice xla xln xlc, .slice xfa xfn xfc] 25)) hgrow2 (fun k hk => by have := own_row hrow k hk; omega)
      obtain ⟨ao2, cap2, hu2, -, -, -⟩ := (Flat.of_own hown2).out
      subst hu2
      have hV : ValsA w2 (fun b => A b ∨ w.heap.size ≤ b) (.slice ao2 (0 + 1) cap2) [x] := vals_of_own (cs := [⟨xk, xn, xs, xla, xln, xlc, xfa, xfn, xfc⟩]) (by simpa using hown2) (Nat.le_succ _) rfl rfl (fun j c t hc ht => by
        cases j with
        | zero => simp at hc ht; subst hc ht; exact hX.upB hb2
        | succ j => simp at hc)
      have HV := Lib.hid (And.intro hb2 hV)
      clear hb2 hV hown2 hgrow2 hnil2 a0 a1 a2 a3 a4
      go_wp2
      go_ret
      exact ⟨.slice ao2 (0 + 1) cap2, rfl, HV.out.1, (by have h := HV.out.2; first | exact h | simpa using h)⟩
    | some ad =>
      go_upto_region 2 with (fail)
      have a0 := oX1.cell (i := 0) rfl
      have a1 := oX1.cell (i := 1) rfl
      have a2 := oX1.cell (i := 2) rfl
      have a3 := oX1.cell (i := 3) rfl
      have a4 := oX1.cell (i := 4) rfl
      go_upto_region 3 with (first | (at_builtin; refine wpList_append_own _ rfl (.tmp 13) (.tmp 15) 22 rfl (w.heap.size + 1) 25 i25 (.agg #[.int .i64 0, .int .i64 0, .string ⟨#[]⟩, .slice none 0 0, .slice none 0 0]) 5 80 Tryz.underlying22 hi25 hz25 hs25 hy25 rfl (by decide) _ 0 [] rfl (hrow.alloc _) ⟨V.heap.size + 1, 0, none⟩ 1 1 (VC.cells ⟨xk, xn, xs, xla, xln, xlc, xfa, xfn, xfc⟩) rfl rfl (own_src (Own.new_at (by simp) _ _)) (five_one ⟨xk, xn, xs, xla, xln, xlc, xfa, xfn, xfc⟩) (by unfold maxLen; omega) (by omega) (by have := HS.out.2.2; simp; omega) ?_; intro v2 w2 hown2 hgrow2 hnil2))
      have hb2 := below_rowq (HS.out.1.alloc HS.out.1.size (.cells #[.int .i64 xk, .int .i64 xn, sV xs, .slice xla xln xlc, .slice xfa xfn xfc] 25)) hgrow2 (fun k hk => by have := own_row hrow k hk; omega)
      obtain ⟨ao2, cap2, hu2, -, -, -⟩ := (Flat.of_own hown2).out
      subst hu2
      have hV : ValsA w2 (fun b => A b ∨ w.heap.size ≤ b) (.slice ao2 (0 + 1) cap2) [x] := vals_of_own (cs := [⟨xk, xn, xs, xla, xln, xlc, xfa, xfn, xfc⟩]) (by simpa using hown2) (Nat.le_succ _) rfl rfl (fun j c t hc ht => by
        cases j with
        | zero => simp at hc ht; subst hc ht; exact hX.upB hb2
        | succ j => simp at hc)
      have HV := Lib.hid (And.intro hb2 hV)
      clear hb2 hV hown2 hgrow2 hnil2 a0 a1 a2 a3 a4
      go_wp2
      go_ret
      exact ⟨.slice ao2 (0 + 1) cap2, rfl, HV.out.1, (by have h := HV.out.2; first | exact h | simpa using h)⟩
  obtain ⟨b, off, rfl, hbl, -, hcell⟩ := hat hpos
  have hsrc := vcs_part hcell hbL hbl 0 i
  rw [Nat.zero_mul, Nat.add_zero, List.drop_zero] at hsrc
  have HC := Lib.hid (And.intro hcell (And.intro hci (And.intro hX hcl)))
  clear hcell hci hX hfl hat hv hb0 oX hVs
  go_upto_region 2 with (first | (at_builtin; refine wpList_append_own _ rfl (.tmp 8) (.tmp 11) 22 rfl (w.heap.size + 1) 25 i25 (.agg #[.int .i64 0, .int .i64 0, .string ⟨#[]⟩, .slice none 0 0, .slice none 0 0]) 5 80 Tryz.underlying22 hi25 hz25 hs25 hy25 rfl (by decide) _ _ _ rfl hrow ⟨b, off, none⟩ i cap ((cs.take i).flatMap VC.cells) rfl (by rw [vcs_len, List.length_take]; congr 1; have := HC.out.2.2.2; omega) hsrc (vcs_one _) (by unfold maxLen; omega) (by omega) (by have := HS.out.2.2; simp; omega) ?_; intro v1 w1 hown1 hgrow1 hnil1))
  rw [Nat.zero_add, List.nil_append] at hown1
  have hb1 := below_rowq HS.out.1 hgrow1 (fun k hk => by have := own_row hrow k hk; omega)
  have oX2 := own_kept' HS.out.2.1 hgrow1 (fun e => by have := own_row hrow _ e; omega)
  have hs1 : w.heap.size + 1 ≤ w1.heap.size := by have h1 := hgrow1.size; have h2 := HS.out.2.2; rw [size_alloc] at h1; omega
  obtain ⟨ao1, cap1, hu1, -, -, -⟩ := (Flat.of_own hown1).out
  subst hu1
  have HS1 := Lib.hid (And.intro hb1 oX2)
  clear hgrow1 hnil1 hsrc hbL hrow oX1 hb1 HS
  have a0 := oX2.cell (i := 0) rfl
  have a1 := oX2.cell (i := 1) rfl
  have a2 := oX2.cell (i := 2) rfl
  have a3 := oX2.cell (i := 3) rfl
  have a4 := oX2.cell (i := 4) rfl
  clear oX2
  go_upto_region 3 with (first | (at_builtin; refine wpList_append_own _ rfl (.tmp 13) (.tmp 15) 22 rfl (w.heap.size + 1) 25 i25 (.agg #[.int .i64 0, .int .i64 0, .string ⟨#[]⟩, .slice none 0 0, .slice none 0 0]) 5 80 Tryz.underlying22 hi25 hz25 hs25 hy25 rfl (by decide) _ _ _ rfl (hown1.alloc _) ⟨w1.heap.size, 0, none⟩ 1 1 (VC.cells ⟨xk, xn, xs, xla, xln, xlc, xfa, xfn, xfc⟩) rfl rfl (own_src (Own.new _ _ _)) (five_one ⟨xk, xn, xs, xla, xln, xlc, xfa, xfn, xfc⟩) (by unfold maxLen; omega) (by omega) (by simp; omega) ?_; intro v2 w2 hown2 hgrow2 hnil2))
  have hb2 := below_rowq (HS1.out.1.alloc HS1.out.1.size (.cells #[.int .i64 xk, .int .i64 xn, sV xs, .slice xla xln xlc, .slice xfa xfn xfc] 25)) hgrow2 (fun k hk => by have := own_row hown1 k hk; omega)
  have hs2 : w.heap.size + 1 ≤ w2.heap.size := by have h1 := hgrow2.size; rw [size_alloc] at h1; omega
  obtain ⟨ao2, cap2, hu2, -, -, -⟩ := (Flat.of_own hown2).out
  subst hu2
  have e2 : (cs.take i).flatMap VC.cells ++ VC.cells ⟨xk, xn, xs, xla, xln, xlc, xfa, xfn, xfc⟩ = (cs.take i ++ ([⟨xk, xn, xs, xla, xln, xlc, xfa, xfn, xfc⟩] : List VC)).flatMap VC.cells := by simp
  rw [e2] at hown2
  clear a0 a1 a2 a3 a4 hgrow2 hnil2 HS1 hown1 hs1 e2
  by_cases hlt : i < l.length
  case neg =>
    obtain rfl : i = l.length := by omega
    have hlc2 := HC.out.2.2.2
    rw [List.take_of_length_le (by omega)] at hown2
    have hV : ValsA w2 (fun b => A b ∨ w.heap.size ≤ b) (.slice ao2 (l.length + 1) cap2) (if l.length < l.length then l.set l.length x else l ++ [x]) := by
      rw [if_neg (by omega)]
      refine vals_of_own hown2 (Nat.le_succ _) (by simp) (by simp; omega) (fun j c t hc ht => ?_)
      rcases Nat.lt_or_ge j l.length with h | h
      · rw [List.getElem?_append_left (by omega)] at hc
        rw [List.getElem?_append_left h] at ht
        exact (HC.out.2.1 j c t hc ht).upB hb2
      · rw [List.getElem?_append_right (by omega)] at hc
        rw [List.getElem?_append_right h] at ht
        have hj : j - l.length = 0 := by
          have := (List.getElem?_eq_some_iff.1 ht).1; simp at this; omega
        rw [hj] at ht
        rw [show j - cs.length = 0 by omega] at hc
        simp at hc ht
        subst hc ht
        exact HC.out.2.2.1.upB hb2
    have HV := Lib.hid (And.intro hb2 hV)
    clear hb2 hV hown2 hlc2 hs2
    go_wp2
    go_ret
    exact ⟨.slice ao2 (l.length + 1) cap2, rfl, HV.out.1, (by have h := HV.out.2; first | exact h | simpa [hlt] using h | simpa using h)⟩
  have hlc2 := HC.out.2.2.2
  have fin : ∀ (v3 : Value) (w3 : World) (n3 : Nat) (ds : List VC), w3.ownsRow (w.heap.size + 1) 25 5 v3 n3 (ds.flatMap VC.cells) → n3 = l.length → ds = cs.set i ⟨xk, xn, xs, xla, xln, xlc, xfa, xfn, xfc⟩ → Below w.heap.size w w3 → ValsA w3 (fun b => A b ∨ w.heap.size ≤ b) v3 (if i < l.length then l.set i x else l ++ [x]) := by
    intro v3 w3 n3 ds h1 h2 h3 h4
    subst h3
    rw [if_pos hlt]
    refine vals_of_own h1 (Nat.le_succ _) (by rw [h2]; simp) (by simp; omega) (fun j c t hc ht => ?_)
    rw [List.getElem?_set] at hc ht
    by_cases e : i = j
    · rw [if_pos e, if_pos (by omega)] at hc ht
      cases hc; cases ht
      exact HC.out.2.2.1.upB h4
    · rw [if_neg e] at hc ht
      exact (HC.out.2.1 j c t hc ht).upB h4
  have FIN := Lib.hid fin
  have hset : cs.take i ++ ([⟨xk, xn, xs, xla, xln, xlc, xfa, xfn, xfc⟩] : List VC) ++ (cs.drop (i + 1)).take (l.length - (i + 1)) = cs.set i ⟨xk, xn, xs, xla, xln, xlc, xfa, xfn, xfc⟩ := by
    have h1 : (cs.drop (i + 1)).take (l.length - (i + 1)) = cs.drop (i + 1) := List.take_of_length_le (by rw [List.length_drop]; omega)
    rw [List.set_eq_take_append_cons_drop, if_pos (by omega), h1]; simp
  have HSET := Lib.hid hset
  have HB2 := Lib.hid hb2
  have hsrc2 := vcs_part HC.out.1 hb2 hbl (i + 1) (l.length - (i + 1))
  have hnl : (((cs.drop (i + 1)).take (l.length - (i + 1))).flatMap VC.cells).length = (l.length - (i + 1)) * 5 := by
    rw [vcs_len, List.length_take, List.length_drop]; congr 1; omega
  clear fin hset hb2 hlc2
  go_upto_region 4 with (fail)
  by_cases hcap : cap = i + 1
  · subst hcap
    have hm0 : l.length - (i + 1) = 0 := by omega
    go_upto_region 5 with (first | (at_builtin; refine wpList_append_own _ rfl (.tmp 21) (.tmp 25) 22 rfl (w.heap.size + 1) 25 i25 (.agg #[.int .i64 0, .int .i64 0, .string ⟨#[]⟩, .slice none 0 0, .slice none 0 0]) 5 80 Tryz.underlying22 hi25 hz25 hs25 hy25 rfl (by decide) _ _ _ rfl hown2 ⟨b, off, none⟩ 0 0 [] rfl rfl (fun j u h => by simp at h) (fun u h => by cases h) (by unfold maxLen; omega) (by omega) (by omega) ?_; intro v3 w3 hown3 hgrow3 hnil3))
    have hb3 := below_rowq HB2.out hgrow3 (fun k hk => by have := own_row hown2 k hk; omega)
    rw [List.append_nil] at hown3
    have hV := FIN.out _ _ _ _ hown3 (by omega) (by have := HSET.out; rw [hm0, List.take_zero, List.append_nil] at this; exact this) hb3
    have HV := Lib.hid (And.intro hb3 hV)
    clear hb3 hV hown3 hgrow3 hnil3 hown2 hsrc2 hnl
    go_wp2
    go_ret
    exact ⟨v3, rfl, HV.out.1, (by have h := HV.out.2; first | exact h | simpa [hlt] using h | simpa using h)⟩
  · go_upto_region 5 with (first | (at_builtin; refine wpList_append_own _ rfl (.tmp 21) (.tmp 25) 22 rfl (w.heap.size + 1) 25 i25 (.agg #[.int .i64 0, .int .i64 0, .string ⟨#[]⟩, .slice none 0 0, .slice none 0 0]) 5 80 Tryz.underlying22 hi25 hz25 hs25 hy25 rfl (by decide) _ _ _ rfl hown2 ⟨b, off + (i + 1) * 5, none⟩ (l.length - (i + 1)) (cap - (i + 1)) (((cs.drop (i + 1)).take (l.length - (i + 1))).flatMap VC.cells) rfl hnl hsrc2 (vcs_one _) (by unfold maxLen; omega) (by omega) (by omega) ?_; intro v3 w3 hown3 hgrow3 hnil3))
    have hb3 := below_rowq HB2.out hgrow3 (fun k hk => by have := own_row hown2 k hk; omega)
    rw [← List.flatMap_append] at hown3
    have hV := FIN.out _ _ _ _ hown3 (by omega) HSET.out hb3
    have HV := Lib.hid (And.intro hb3 hV)
    clear hb3 hV hown3 hgrow3 hnil3 hown2 hsrc2 hnl
    go_wp2
    go_ret
    exact ⟨v3, rfl, HV.out.1, (by have h := HV.out.2; first | exact h | simpa [hlt] using h | simpa using h)⟩

end Go.Proofs.YtjpmnlefjmdelaaGreatDoor
