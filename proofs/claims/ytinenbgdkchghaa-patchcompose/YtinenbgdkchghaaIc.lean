/- Mathematics: what the patches make of maps in order is in order. -/
import Derived.Test.YtinenbgdkchghaaGc
import Derived.Test.YtinenbgdkchghaaGb
set_option linter.unusedSimpArgs false
set_option linter.unusedVariables false
namespace Go.Proofs.Ytinenbgdkchghaa

theorem mp_mrg : ∀ (N : Nat) (p v : T), SizeOf.sizeOf p ≤ N → Mp p → Mp v → Mp (mrgT p v) := by
  intro N
  induction N with
  | zero => intro p v h; cases p; simp at h
  | succ N ih =>
    intro p v hN hp hv
    by_cases h5 : kd p = 5
    case neg => rw [mrgT_leaf h5]; exact hp
    rw [mrgT_map h5]
    refine .map (mrgF_srt hv.fls) (fun q hq => ?_)
    have hl := look_self (mrgF_srt hv.fls) hq
    rw [mrgF_look q.1 hp.fls hv.fls] at hl
    cases hk : look q.1 (fls p) with
    | none => rw [hk] at hl; exact hv.look hl
    | some t =>
      rw [hk] at hl
      simp only at hl
      split at hl
      · cases hl
      · rw [← Option.some.inj hl]
        exact ih t _ (by have := mp_size hk; omega) (hp.look hk) hv.getD
theorem mrg_mp {p v : T} (hp : Mp p) (hv : Mp v) : Mp (mrgT p v) := mp_mrg _ p v (Nat.le_refl _) hp hv
theorem cpo_mp : ∀ {p v : T}, Mp p → Mp v → Mp (cpoT p v) := by
  suffices H : ∀ (N : Nat) (p v : T), SizeOf.sizeOf p ≤ N → Mp p → Mp v → Mp (cpoT p v) from fun {p v} => H _ p v (Nat.le_refl _)
  intro N
  induction N with
  | zero => intro p v h; cases p; simp at h
  | succ N ih =>
    intro p v hN hp hv
    by_cases h5 : kd p = 5
    case neg => rw [cpoT_leaf h5]; exact hp
    by_cases hv5 : kd v = 5
    case neg => rw [cpoT_null h5 hv5]; exact mrg_mp hp mp_T0
    rw [cpoT_map h5 hv5]
    refine .map (cpoF_srt hv.fls) (fun q hq => ?_)
    have hl := look_self (cpoF_srt hv.fls) hq
    rw [cpoF_look q.1 hp.fls hv.fls] at hl
    cases hk : look q.1 (fls p) with
    | none => rw [hk] at hl; exact hv.look hl
    | some t =>
      rw [hk] at hl
      simp only at hl
      cases hu : look q.1 (fls v) with
      | none => rw [hu] at hl; rw [← Option.some.inj hl]; exact hp.look hk
      | some u => rw [hu] at hl; rw [← Option.some.inj hl]; exact ih t u (by have := mp_size hk; omega) (hp.look hk) (hv.look hu)
theorem dif_mp : ∀ {p v : T}, Mp p → Mp v → Mp (difT p v) := by
  suffices H : ∀ (N : Nat) (p v : T), SizeOf.sizeOf p ≤ N → Mp p → Mp v → Mp (difT p v) from fun {p v} => H _ p v (Nat.le_refl _)
  intro N
  induction N with
  | zero => intro p v h; cases p; simp at h
  | succ N ih =>
    intro p v hN hp hv
    by_cases h5 : kd p = 5 ∧ kd v = 5
    case neg => rw [difT_leaf h5]; exact hp
    rw [difT_map h5.1 h5.2]
    have hs0 : SSrt (nulF (fls v) (fls p) []) := nulF_srt List.Pairwise.nil
    refine .map (difF_srt hs0) (fun q hq => ?_)
    have hl := look_self (difF_srt hs0) hq
    rw [difF_look q.1 hp.fls hs0] at hl
    cases hk : look q.1 (fls p) with
    | none =>
      rw [hk] at hl
      simp only at hl
      rw [nulF_look q.1 List.Pairwise.nil] at hl
      split at hl
      · rw [← Option.some.inj hl]; exact mp_T0
      · simp [look] at hl
    | some t =>
      rw [hk] at hl
      simp only at hl
      cases hu : look q.1 (fls v) with
      | none => rw [hu] at hl; rw [← Option.some.inj hl]; exact hp.look hk
      | some u =>
        rw [hu] at hl
        simp only at hl
        split at hl
        · rw [nulF_look q.1 List.Pairwise.nil] at hl
          split at hl
          · rw [← Option.some.inj hl]; exact mp_T0
          · simp [look] at hl
        · rw [← Option.some.inj hl]; exact ih t u (by have := mp_size hk; omega) (hp.look hk) (hv.look hu)
/-- a valid value's maps are in order -/
theorem snd_mp {t : T} (h : Val 12 t ∧ t.size ≤ 600) : Mp t := val_mp h.1
end Go.Proofs.Ytinenbgdkchghaa
