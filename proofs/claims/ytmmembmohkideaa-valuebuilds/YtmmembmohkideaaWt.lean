/- The contract of awake: the chapter's examples hold. -/
import Derived.Test.YtmmembmohkideaaWs
import Derived.Test.YtmmembmohkideaaWkJ
import Derived.Test.YtmmembmohkideaaWh
import Derived.Test.YtmmembmohkideaaWa
namespace Go.Proofs.Ytmmembmohkideaa
open Go.RowKit Go.Sort Go.Proofs.LawFrame

/-- a field with an integer -/
def F3 (x : UInt8) (n : Int) : FC := ⟨[x], ⟨2, n, [], none, 0, 0, none, 0, 0⟩⟩
def leafT (k n : Int) (s : Str) : T := .mk k n s [] []
def mT : T := .mk 5 0 [] [] [([97], leafT 2 2 []), ([98], leafT 2 3 [])]
def mC (b : Nat) : VC := ⟨5, 0, [], none, 0, 0, some ⟨b, 0, none⟩, 2, 2⟩
theorem leaf_is (w : World) (k n : Int) (s : Str) : Is w ⟨k, n, s, none, 0, 0, none, 0, 0⟩ (leafT k n s) :=
  Is.mk (c := ⟨k, n, s, none, 0, 0, none, 0, 0⟩) [] [] rfl (Flat.nil _ _ _ (Nat.zero_le _) _) (fun i x t h => by simp at h) rfl (Flat.nil _ _ _ (Nat.zero_le _) _) (fun i x p h => by simp at h) (fun i x p h => by simp at h)
theorem m_flat {w : World} {b : Nat} (o : Own w b ([F3 97 2, F3 98 3].flatMap FC.cells) 35) : Flat w (.slice (some ⟨b, 0, none⟩) 2 2) 2 ([F3 97 2, F3 98 3].flatMap FC.cells) :=
  ⟨some ⟨b, 0, none⟩, 2, rfl, Nat.le_refl _, by unfold maxLen; omega, fun _ => ⟨b, 0, rfl, o.lt, fun j x hx => by rw [Nat.zero_add]; exact o.cell hx⟩⟩
theorem m_is {w : World} {b : Nat} (o : Own w b ([F3 97 2, F3 98 3].flatMap FC.cells) 35) : Is w (mC b) mT := by
  refine Is.mk (c := mC b) [] [F3 97 2, F3 98 3] rfl (Flat.nil _ _ _ (Nat.zero_le _) _) (fun i x t h => by simp at h) rfl (m_flat o) ?_ ?_
  · intro i x p hx hp
    match i, hx, hp with
    | 0, hx, hp => simp at hx hp; subst hx hp; rfl
    | 1, hx, hp => simp at hx hp; subst hx hp; rfl
    | i + 2, hx, hp => simp at hx
  · intro i x p hx hp
    match i, hx, hp with
    | 0, hx, hp => simp at hx hp; subst hx hp; exact leaf_is w 2 2 []
    | 1, hx, hp => simp at hx hp; subst hx hp; exact leaf_is w 2 3 []
    | i + 2, hx, hp => simp at hx
theorem m_size : mT.size = 3 := by simp [mT, leafT, T.size, sizeL, sizeF]
theorem m_depth : mT.depth = 2 := by simp [mT, leafT, T.depth, depthL, depthF]; rfl
theorem leaf_val (d : Nat) (n : Int) (h1 : -1000000000000000 ≤ n) (h2 : n ≤ 1000000000000000) : Val (d + 1) (leafT 2 n []) := by
  rw [leafT, Val]
  exact ⟨Or.inr (Or.inl ⟨rfl, h1, h2, rfl⟩), by simp, by simp, Or.inr rfl, Or.inr rfl, NmTo.zero _, by simp, by simp⟩
theorem m_val : Val 12 mT ∧ mT.size ≤ 600 := by
  refine ⟨?_, by rw [m_size]; omega⟩
  rw [mT, Val]
  refine ⟨Or.inr (Or.inr (Or.inr ⟨Or.inr (Or.inr rfl), rfl, rfl⟩)), by simp, by simp, Or.inr rfl, Or.inl rfl, ?_, by simp, ?_⟩
  · refine ((NmTo.zero _).succ (p := ([97], leafT 2 2 [])) rfl (by decide) (fun q h => absurd h (by omega))).succ (p := ([98], leafT 2 3 [])) rfl (by decide) (fun q _ hq => ?_)
    simp at hq; subst hq; decide
  · intro p hp
    simp at hp
    rcases hp with rfl | rfl
    · exact leaf_val 10 2 (by omega) (by omega)
    · exact leaf_val 10 3 (by omega) (by omega)
theorem tab_val : ¬ (Val 12 (leafT 3 0 [9]) ∧ (leafT 3 0 [9]).size ≤ 600) := by
  rintro ⟨h, -⟩
  rw [leafT, Val] at h
  rcases h.1 with ⟨h, -⟩ | ⟨h, -⟩ | ⟨-, -, h⟩ | ⟨h | h | h, -⟩
  · cases h
  · cases h
  · revert h; decide
  · cases h
  · cases h
  · cases h
theorem cmp1 : cmpT (leafT 2 (-1) []) (leafT 2 0 []) = -1 := by simp [leafT, cmpT, cmpL, cmpF, cmpI, lexi]
theorem cmp2 : cmpT (leafT 3 0 []) (leafT 2 5 []) = 1 := by simp [leafT, cmpT, cmpL, cmpF, cmpI, lexi]
theorem cmp3 : (cmpT (leafT 0 0 []) (leafT 0 0 []) == 0) = true := by rw [cmpT_refl]; rfl

theorem size_m {w : World} {b : Nat} (o : Own w b ([F3 97 2, F3 98 3].flatMap FC.cells) 35) : Calls Try.prog 13 #[(mC b).val] w fun e w' => e = .returned (.int .i64 3) ∧ Below w.heap.size w w' := by
  have := size_any _ mT (Nat.le_refl _) (mC b) w (m_is o) (by rw [m_size]; omega)
  rw [m_size] at this; exact this
theorem depth_m {w : World} {b : Nat} (o : Own w b ([F3 97 2, F3 98 3].flatMap FC.cells) 35) : Calls Try.prog 15 #[(mC b).val] w fun e w' => e = .returned (.int .i64 2) ∧ Below w.heap.size w w' := by
  have := depth_any _ mT (Nat.le_refl _) (mC b) w (m_is o) (by rw [m_size]; omega)
  rw [m_depth] at this; exact this
theorem valid_m {w : World} {b : Nat} (o : Own w b ([F3 97 2, F3 98 3].flatMap FC.cells) 35) : Calls Try.prog 11 #[(mC b).val] w fun e w' => e = .returned (.bool true) ∧ Below w.heap.size w w' :=
  (valid_any mT (mC b) w (m_is o)).mono (fun e w' h => by obtain ⟨r, h1, h2, h3⟩ := h.out; rw [h3.2 m_val] at h1; exact ⟨h1, h2⟩)
theorem valid_tab (w : World) : Calls Try.prog 11 #[.agg #[.int .i64 3, .int .i64 0, sV [9], .slice none 0 0, .slice none 0 0]] w fun e w' => e = .returned (.bool false) ∧ Below w.heap.size w w' :=
  (valid_any (leafT 3 0 [9]) ⟨3, 0, [9], none, 0, 0, none, 0, 0⟩ w (leaf_is w 3 0 [9])).mono (fun e w' h => by
    obtain ⟨r, h1, h2, h3⟩ := h.out
    cases r with
    | false => exact ⟨h1, h2⟩
    | true => exact absurd (h3.1 rfl) tab_val)
theorem compare1 (w : World) : Calls Try.prog 17 #[.agg #[.int .i64 2, .int .i64 (-1), sV [], .slice none 0 0, .slice none 0 0], .agg #[.int .i64 2, .int .i64 0, sV [], .slice none 0 0, .slice none 0 0]] w fun e w' => e = .returned (.int .i64 (-1)) ∧ Below w.heap.size w w' := by
  have := compare_any _ (leafT 2 (-1) []) (Nat.le_refl _) (leafT 2 0 []) ⟨2, -1, [], none, 0, 0, none, 0, 0⟩ ⟨2, 0, [], none, 0, 0, none, 0, 0⟩ w (leaf_is _ _ _ _) (leaf_is _ _ _ _)
  rw [cmp1] at this; exact this
theorem compare2 (w : World) : Calls Try.prog 17 #[.agg #[.int .i64 3, .int .i64 0, sV [], .slice none 0 0, .slice none 0 0], .agg #[.int .i64 2, .int .i64 5, sV [], .slice none 0 0, .slice none 0 0]] w fun e w' => e = .returned (.int .i64 1) ∧ Below w.heap.size w w' := by
  have := compare_any _ (leafT 3 0 []) (Nat.le_refl _) (leafT 2 5 []) ⟨3, 0, [], none, 0, 0, none, 0, 0⟩ ⟨2, 5, [], none, 0, 0, none, 0, 0⟩ w (leaf_is _ _ _ _) (leaf_is _ _ _ _)
  rw [cmp2] at this; exact this
theorem equal3 (w : World) : Calls Try.prog 19 #[.agg #[.int .i64 0, .int .i64 0, sV [], .slice none 0 0, .slice none 0 0], .agg #[.int .i64 0, .int .i64 0, sV [], .slice none 0 0, .slice none 0 0]] w fun e w' => e = .returned (.bool true) ∧ Below w.heap.size w w' := by
  have := equal_any (leafT 0 0 []) (leafT 0 0 []) ⟨0, 0, [], none, 0, 0, none, 0, 0⟩ ⟨0, 0, [], none, 0, 0, none, 0, 0⟩ w (leaf_is _ _ _ _) (leaf_is _ _ _ _)
  rw [cmp3] at this; exact this
theorem get_m {w : World} {b : Nat} (o : Own w b ([F3 97 2, F3 98 3].flatMap FC.cells) 35) : Calls Try.prog 31 #[(mC b).val, sV [98]] w fun e w' => e = .returned (.tuple #[.agg #[.int .i64 2, .int .i64 3, sV [], .slice none 0 0, .slice none 0 0], .bool true]) ∧ Below w.heap.size w w' :=
  get_leaf [98] (some ⟨b, 0, none⟩) 2 [F3 97 2, F3 98 3] w (m_flat o) 1 (F3 98 3) rfl (by decide) (fun j d hj hd => by
    obtain rfl : j = 0 := by omega
    simp at hd; subst hd; decide) rfl rfl
theorem map_m (w : World) : Calls Try.prog 22 #[.slice (some ⟨w.heap.size, 0, none⟩) 3 3] (w.alloc (.cells ([F3 98 1, F3 97 2, F3 98 3].flatMap FC.cells).toArray 35)) fun e w' => ∃ b, e = .returned (.agg #[.int .i64 5, .int .i64 0, sV [], .slice none 0 0, .slice (some ⟨b, 0, none⟩) 2 2]) ∧ Own w' b ([F3 97 2, F3 98 3].flatMap FC.cells) 35 ∧ Below w.heap.size w w' := by
  have o := Own.new w ([F3 98 1, F3 97 2, F3 98 3].flatMap FC.cells) 35
  have hF : Flat (w.alloc (.cells ([F3 98 1, F3 97 2, F3 98 3].flatMap FC.cells).toArray 35)) (.slice (some ⟨w.heap.size, 0, none⟩) 3 3) 3 ([F3 98 1, F3 97 2, F3 98 3].flatMap FC.cells) := ⟨_, 3, rfl, Nat.le_refl _, by unfold maxLen; omega, fun _ => ⟨_, 0, rfl, o.lt, fun j x hx => by rw [Nat.zero_add]; exact o.cell hx⟩⟩
  refine (map_leaf (.slice (some ⟨w.heap.size, 0, none⟩) 3 3) [F3 98 1, F3 97 2, F3 98 3] _ hF (by decide) (by decide) [F3 97 2, F3 98 1, F3 98 3] [F3 97 2, F3 98 3] (by rfl) (by rfl) (by decide) ?_).mono ?_
  · intro c hc
    simp at hc
    rcases hc with rfl | rfl | rfl <;> exact ⟨rfl, rfl⟩
  · rintro e w' ⟨b, he, -, hO, hB⟩
    exact ⟨b, he, hO, below_all (below_alloc w _) hB⟩
end Go.Proofs.Ytmmembmohkideaa
