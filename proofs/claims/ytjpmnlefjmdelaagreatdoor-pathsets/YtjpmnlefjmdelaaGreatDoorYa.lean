/- The chapter's example of paths: its mathematics. -/
import Derived.Test.YtjpmnlefjmdelaaGreatDoorXzJ
set_option linter.unusedSimpArgs false
set_option linter.unusedVariables false
namespace Go.Proofs.YtjpmnlefjmdelaaGreatDoor
open Go.RowKit Go.Sort Go.Proofs.LawFrame

theorem vals_oneP {w : World} {b : Nat} {c : VC} {t : T} (o : Own w b (VC.cells c) 25) (hI : Is w c t) : Vals w (.slice (some ⟨b, 0, none⟩) 1 1) [t] :=
  ⟨[c], rfl, ⟨some ⟨b, 0, none⟩, 1, rfl, Nat.le_refl _, by decide, fun _ => ⟨b, 0, rfl, o.lt, fun j x hx => by rw [Nat.zero_add]; exact o.cell (by simpa using hx)⟩⟩, fun i x t' hx ht => by
    cases i with
    | zero => simp at hx ht; subst hx ht; exact hI
    | succ i => simp at hx⟩
theorem flds_twoP {w : World} {b : Nat} {x y : Str} {c d : VC} {t u : T} (o : Own w b (FC.cells ⟨x, c⟩ ++ FC.cells ⟨y, d⟩) 58) (hI : Is w c t) (hJ : Is w d u) : Flds w (.slice (some ⟨b, 0, none⟩) 2 2) [(x, t), (y, u)] :=
  ⟨[⟨x, c⟩, ⟨y, d⟩], rfl, ⟨some ⟨b, 0, none⟩, 2, rfl, Nat.le_refl _, by decide, fun _ => ⟨b, 0, rfl, o.lt, fun j z hz => by rw [Nat.zero_add]; exact o.cell (by simpa using hz)⟩⟩, fun i z p hz hp => by
    match i with
    | 0 => simp at hz hp; subst hz hp; rfl
    | 1 => simp at hz hp; subst hz hp; rfl
    | i + 2 => simp at hz, fun i z p hz hp => by
    match i with
    | 0 => simp at hz hp; subst hz hp; exact hI
    | 1 => simp at hz hp; subst hz hp; exact hJ
    | i + 2 => simp at hz⟩
theorem flds_oneP {w : World} {b : Nat} {x : Str} {c : VC} {t : T} (o : Own w b (FC.cells ⟨x, c⟩) 58) (hI : Is w c t) : Flds w (.slice (some ⟨b, 0, none⟩) 1 1) [(x, t)] :=
  ⟨[⟨x, c⟩], rfl, ⟨some ⟨b, 0, none⟩, 1, rfl, Nat.le_refl _, by decide, fun _ => ⟨b, 0, rfl, o.lt, fun j z hz => by rw [Nat.zero_add]; exact o.cell (by simpa using hz)⟩⟩, fun i z p hz hp => by
    match i with
    | 0 => simp at hz hp; subst hz hp; rfl
    | i + 1 => simp at hz, fun i z p hz hp => by
    match i with
    | 0 => simp at hz hp; subst hz hp; exact hI
    | i + 1 => simp at hz⟩
theorem is_leafP (w : World) (k n : Int) (s : Str) : Is w ⟨k, n, s, none, 0, 0, none, 0, 0⟩ (.mk k n s [] []) :=
  .mk (c := ⟨k, n, s, none, 0, 0, none, 0, 0⟩) [] [] rfl (Flat.nil _ _ _ (Nat.zero_le _) _) (fun i x t h => by simp at h) rfl (Flat.nil _ _ _ (Nat.zero_le _) _) (fun i x t h => by simp at h) (fun i x t h => by simp at h)
theorem is_mapP {w : World} {a : Option Addr} {n c : Nat} {f : List (Str × T)} (h : Flds w (.slice a n c) f) : Is w ⟨5, 0, [], none, 0, 0, a, n, c⟩ (.mk 5 0 [] [] f) := by
  obtain ⟨fs, h1, h2, h3, h4⟩ := h.out
  exact .mk (c := ⟨5, 0, [], none, 0, 0, a, n, c⟩) [] fs rfl (Flat.nil _ _ _ (Nat.zero_le _) _) (fun i x t h => by simp at h) h1 h2 h3 h4
theorem is_listP {w : World} {a : Option Addr} {n c : Nat} {l : List T} (h : Vals w (.slice a n c) l) : Is w ⟨4, 0, [], a, n, c, none, 0, 0⟩ (.mk 4 0 [] l []) := by
  obtain ⟨cs, h1, h2, h3⟩ := h.out
  exact .mk (c := ⟨4, 0, [], a, n, c, none, 0, 0⟩) cs [] h1 h2 h3 rfl (Flat.nil _ _ _ (Nat.zero_le _) _) (fun i x t h => by simp at h) (fun i x t h => by simp at h)
def eP : List S := [⟨1, [99], 0, []⟩, ⟨3, [110, 97, 109, 101], 0, [120]⟩, ⟨1, [110], 0, []⟩]
def eS : Str := [99, 91, 110, 97, 109, 101, 61, 34, 120, 34, 93, 46, 110]
def eI : T := .mk 5 0 [] [] [([110], .mk 2 1 [] [] []), ([110, 97, 109, 101], .mk 3 0 [120] [] [])]
def eT : T := .mk 5 0 [] [] [([99], .mk 4 0 [] [eI] [])]
def eI2 : T := .mk 5 0 [] [] [([110], .mk 3 0 [121] [] []), ([110, 97, 109, 101], .mk 3 0 [120] [] [])]
def eT2 : T := .mk 5 0 [] [] [([99], .mk 4 0 [] [eI2] [])]
theorem e_parse : resP eS = (eP, 0) := by first | kernel_rfl | decide +kernel
theorem e_ok : pathOk eP = true := by first | decide | kernel_rfl
theorem e_print : prP eP = (eS, 0) := by first | kernel_rfl | decide +kernel
theorem e_get : findT eT eP = some (.mk 2 1 [] [] []) := by kernel_rfl
theorem e_get2 : findT eT2 eP = some (.mk 3 0 [121] [] []) := by kernel_rfl
theorem e_rem : remT eP eT = some (.mk 5 0 [] [] [([99], .mk 4 0 [] [.mk 5 0 [] [] [([110, 97, 109, 101], .mk 3 0 [120] [] [])]] [])]) := by kernel_rfl
theorem e_pre : hasPre eP (eP.take 2) = true := by first | decide | kernel_rfl
theorem e_set : setP eP eT (.mk 3 0 [121] [] []) = (eT2, 0) := by kernel_rfl
theorem val_lf (s : Str) (hs : s.length ≤ 100) (hv : s = [120] ∨ s = [121]) : ∀ d, Val (d + 1) (.mk 3 0 s [] []) := fun d => by
  rw [val_eq]
  refine ⟨⟨Or.inl rfl, Or.inr rfl, Or.inl rfl, Or.inl rfl⟩, Or.inr (Or.inr (Or.inr (Or.inl ⟨rfl, ?_⟩))), by simp, by simp⟩
  rcases hv with rfl | rfl <;> decide
theorem val_one2 (x : T) (hx : Val 9 x) : Val 12 (.mk 5 0 [] [] [([99], .mk 4 0 [] [.mk 5 0 [] [] [([110], x), ([110, 97, 109, 101], .mk 3 0 [120] [] [])]] [])]) := by
  rw [val_eq]
  refine ⟨⟨Or.inl rfl, Or.inl rfl, Or.inl rfl, Or.inr rfl⟩, Or.inr (Or.inr (Or.inr (Or.inr (Or.inr ⟨rfl, by simp, ?_⟩)))), by simp, ?_⟩
  · intro i p hi hp
    match i with
    | 0 => simp at hp; subst hp; exact ⟨(by decide : nameOk [99] = true), fun q h => absurd h (by omega)⟩
    | i + 1 => simp at hi
  · intro p hp
    simp only [List.mem_singleton] at hp
    subst hp
    rw [val_eq]
    refine ⟨⟨Or.inl rfl, Or.inl rfl, Or.inr rfl, Or.inl rfl⟩, Or.inr (Or.inr (Or.inr (Or.inr (Or.inl ⟨rfl, by simp⟩)))), ?_, by simp⟩
    intro t ht
    simp only [List.mem_singleton] at ht
    subst ht
    rw [val_eq]
    refine ⟨⟨Or.inl rfl, Or.inl rfl, Or.inl rfl, Or.inr rfl⟩, Or.inr (Or.inr (Or.inr (Or.inr (Or.inr ⟨rfl, by simp, ?_⟩)))), by simp, ?_⟩
    · intro i p hi hp
      match i with
      | 0 => simp at hp; subst hp; exact ⟨(by decide : nameOk [110] = true), fun q h => absurd h (by omega)⟩
      | 1 => simp at hp; subst hp; exact ⟨by decide, fun q _ hq => by simp at hq; subst hq; exact (by decide : cmpS [110] [110, 97, 109, 101] = -1)⟩
      | i + 2 => simp at hi; omega
    · intro p hp
      simp only [List.mem_cons, List.not_mem_nil, or_false] at hp
      rcases hp with rfl | rfl
      · exact hx
      · exact val_lf [120] (by decide) (Or.inl rfl) 8
theorem e_val1 : OkT eT := by
  refine ⟨val_one2 _ ?_, by simp [eT, eI, T.size, sizeL, sizeF]⟩
  rw [val_eq]
  exact ⟨⟨Or.inr (Or.inr rfl), Or.inl rfl, Or.inl rfl, Or.inl rfl⟩, Or.inr (Or.inr (Or.inl ⟨rfl, by decide, by decide⟩)), by simp, by simp⟩
theorem e_val2 : OkT eT2 := ⟨val_one2 _ (val_lf [121] (by decide) (Or.inr rfl) 8), by simp [eT2, eI2, T.size, sizeL, sizeF]⟩
theorem e_val3 : OkT (.mk 3 0 [121] [] []) := ⟨val_lf [121] (by decide) (Or.inr rfl) 11, by simp [T.size, sizeL, sizeF]⟩
theorem e_set2 : resS eP eT (.mk 3 0 [121] [] []) = (eT2, 0) := by
  rw [resS_ok ⟨e_ok, e_val1, e_val3⟩ (by rw [e_set]) (by rw [e_set]; exact e_val2), e_set]
set_option maxHeartbeats 2000000 in
theorem text59_any (s : Str) (w : World) : Calls Tryz.prog 59 #[sV s] w fun e w' => e = .returned (.agg #[.int .i64 3, .int .i64 0, sV s, .slice none 0 0, .slice none 0 0]) ∧ Below w.heap.size w w' := by
  go_enter Tryz.func59, Tryz.ntmps59
  go_wp2
  have hb : Below w.heap.size w (w.alloc (.cells #[.int .i64 3, .int .i64 0, sV s, .slice none 0 0, .slice none 0 0] 25)) := (Below.refl _ _).alloc (Nat.le_refl _) _
  have oR : Own (w.alloc (.cells #[.int .i64 3, .int .i64 0, sV s, .slice none 0 0, .slice none 0 0] 25)) w.heap.size [.int .i64 3, .int .i64 0, sV s, .slice none 0 0, .slice none 0 0] 25 := Own.new _ _ _
  change bodyPost Tryz.prog Tryz.f59 _ _ _ (w.alloc (.cells #[.int .i64 3, .int .i64 0, sV s, .slice none 0 0, .slice none 0 0] 25))
  generalize w.alloc (.cells #[.int .i64 3, .int .i64 0, sV s, .slice none 0 0, .slice none 0 0] 25) = U at *
  have c0 := oR.cell (i := 0) rfl
  have c1 := oR.cell (i := 1) rfl
  have c2 := oR.cell (i := 2) rfl
  have c3 := oR.cell (i := 3) rfl
  have c4 := oR.cell (i := 4) rfl
  exact bodyPost_ret (v := .agg #[.int .i64 3, .int .i64 0, sV s, .slice none 0 0, .slice none 0 0]) (by simp [results, Tryz.results59, go_sem, c0, c1, c2, c3, c4]) rfl ⟨rfl, hb⟩
end Go.Proofs.YtjpmnlefjmdelaaGreatDoor
