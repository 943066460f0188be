/- A printed text, read: plain mathematics. -/
import Derived.Test.YtjpmnlefjmdelaaDoorMvJ
import Derived.Test.YtjpmnlefjmdelaaDoorNhJ
namespace Go.Proofs.YtjpmnlefjmdelaaDoor

def NotDig : Str → Prop
  | [] => True
  | c :: _ => dig c = false
theorem nd {c : UInt8} {r : Str} (h : dig c = false) : NotDig (c :: r) := h
theorem u8_of {c d : UInt8} (h : c.toNat = d.toNat) : c = d := UInt8.toNat_inj.1 h
theorem digTo_dd {u d : Nat} (hu : u ≤ 1000000000000000) (hd : d < 10) : digTo (u : Int) (UInt8.ofNat (48 + d)) = ((10 * u + d : Nat) : Int) := by
  unfold digTo
  rw [if_pos (by omega), dig_nat hd]
  omega
theorem digTo_zero {d : Nat} (hd : d < 10) : digTo 0 (UInt8.ofNat (48 + d)) = (d : Int) := by
  unfold digTo
  rw [if_pos (by omega), dig_nat hd]
  omega
theorem dig_dd {d : Nat} (hd : d < 10) : dig (UInt8.ofNat (48 + d)) = true := by
  unfold dig; rw [dig_nat hd]; simp; omega
theorem digs_dd (u : Nat) (hu : u ≤ 1000000000000000) (r : Str) : digsR 0 (Lib.decDigits u ++ r) = digsR (u : Int) r := by
  by_cases h10 : u < 10
  · rw [dd_small h10]
    simp only [List.cons_append, List.nil_append, digsR]
    rw [if_pos (dig_dd h10), digTo_zero h10]
  · have hm : u % 10 < 10 := Nat.mod_lt _ (by omega)
    rw [dd_big h10, List.append_assoc, digs_dd (u / 10) (by omega)]
    simp only [List.cons_append, List.nil_append, digsR]
    rw [if_pos (dig_dd hm), digTo_dd (by omega) hm, show 10 * (u / 10) + u % 10 = u by omega]
termination_by u
decreasing_by omega
theorem digs_stop {n : Int} {r : Str} (h : NotDig r) : digsR n r = (n, r) := by
  cases r with
  | nil => rfl
  | cons c r => simp only [digsR]; rw [if_neg (by rw [show dig c = false from h]; simp)]
theorem dd_head (u : Nat) (hu : 1 ≤ u) : ∃ c r, Lib.decDigits u = c :: r ∧ 49 ≤ c.toNat ∧ c.toNat ≤ 57 := by
  by_cases h10 : u < 10
  · exact ⟨_, [], dd_small h10, by rw [dig_nat h10]; omega, by rw [dig_nat h10]; omega⟩
  · obtain ⟨c, r, h, h1, h2⟩ := dd_head (u / 10) (by omega)
    exact ⟨c, r ++ [UInt8.ofNat (48 + u % 10)], by rw [dd_big h10, h]; rfl, h1, h2⟩
termination_by u
decreasing_by omega
theorem dd_head0 (u : Nat) : ∃ c r, Lib.decDigits u = c :: r ∧ 48 ≤ c.toNat ∧ c.toNat ≤ 57 := by
  rcases Nat.eq_zero_or_pos u with rfl | hp
  · exact ⟨_, [], dd_small (by omega), by rw [dig_nat (by omega)]; omega, by rw [dig_nat (by omega)]; omega⟩
  · obtain ⟨c, r, h, h1, h2⟩ := dd_head u hp
    exact ⟨c, r, h, by omega, h2⟩
theorem digitsR_dd {u : Nat} (hu : u ≤ 1000000000000000) {r : Str} (h : NotDig r) : digitsR (Lib.decDigits u ++ r) = .ok ((u : Int), r) := by
  have hz : zeroD (Lib.decDigits u ++ r) = none := by
    rcases Nat.eq_zero_or_pos u with rfl | hp
    · rw [dd_small (by omega)]
      cases r with
      | nil => rfl
      | cons d r =>
        simp only [List.cons_append, List.nil_append, zeroD]
        rw [if_neg]
        rintro ⟨-, hd⟩
        rw [show dig d = false from h] at hd
        cases hd
    · obtain ⟨c, q, hq, h1, h2⟩ := dd_head u hp
      rw [hq, List.cons_append]
      cases hqr : q ++ r with
      | nil => rfl
      | cons d q' => simp only [zeroD]; rw [if_neg (fun hh => by have := hh.1; omega)]
  unfold digitsR
  rw [hz]
  simp only
  rw [digs_dd u hu, digs_stop h]
theorem dig_of {c : UInt8} (h : 48 ≤ c.toNat) (h' : c.toNat ≤ 57) : dig c = true := by unfold dig; simp; omega
theorem numR_itoa {n : Int} (h0 : -1000000000000000 ≤ n) (h1 : n ≤ 1000000000000000) {r : Str} (h : NotDig r) : numR (Lib.itoa n ++ r) = .ok (n, r) := by
  by_cases hn : n < 0
  · obtain ⟨c, q, hq, h2, h3⟩ := dd_head n.natAbs (by omega)
    have e : Lib.itoa n = 45 :: Lib.decDigits n.natAbs := by unfold Lib.itoa; rw [if_pos hn]
    have hd := digitsR_dd (u := n.natAbs) (by omega) h
    rw [e, List.cons_append]
    simp only [numR]
    rw [if_pos (by decide)]
    rw [hq, List.cons_append] at hd ⊢
    simp only [minusR]
    rw [if_pos ⟨dig_of (by omega) h3, by omega⟩, hd]
    simp only [numF]
    rw [if_neg (by omega), show -1 * (n.natAbs : Int) = n by omega]
  · obtain ⟨c, q, hq, h2, h3⟩ := dd_head0 n.toNat
    have e : Lib.itoa n = Lib.decDigits n.toNat := by unfold Lib.itoa; rw [if_neg hn]
    have hd := digitsR_dd (u := n.toNat) (by omega) h
    rw [e]
    rw [hq, List.cons_append] at hd ⊢
    simp only [numR]
    rw [if_neg (by omega), hd]
    simp only [numF]
    rw [if_neg (by omega), show 1 * (n.toNat : Int) = n by omega]
theorem itoa_head (n : Int) : ∃ c r, Lib.itoa n = c :: r ∧ (c.toNat = 45 ∨ 48 ≤ c.toNat ∧ c.toNat ≤ 57) := by
  unfold Lib.itoa
  split
  · exact ⟨45, _, rfl, Or.inl (by decide)⟩
  · obtain ⟨c, q, hq, h2, h3⟩ := dd_head0 n.toNat
    exact ⟨c, q, hq, Or.inr ⟨h2, h3⟩⟩
theorem esc_pos (c : UInt8) : 1 ≤ (esc c).length := by unfold esc; split; simp; split; simp; split <;> simp
theorem escs_pos (x : Str) : x.length ≤ (x.flatMap esc).length := by
  induction x with
  | nil => simp
  | cons c x ih => rw [List.flatMap_cons, List.length_append, List.length_cons]; have := esc_pos c; omega
theorem strR_quote : ∀ (x : Str) (f k : Nat) (r : Str), x.all byteOk = true → x.length + 1 ≤ f → k + x.length ≤ 200 → strR f k (x.flatMap esc ++ 34 :: r) = .ok (x, r) := by
  intro x
  induction x with
  | nil =>
    intro f k r _ hf _
    obtain ⟨f, rfl⟩ : ∃ g, f = g + 1 := ⟨f - 1, by simp at hf; omega⟩
    simp only [List.flatMap_nil, List.nil_append, strR]
    rw [if_pos (by decide)]
  | cons c x ih =>
    intro f k r hb hf hk
    obtain ⟨f, rfl⟩ : ∃ g, f = g + 1 := ⟨f - 1, by simp at hf; omega⟩
    simp only [List.all_cons, Bool.and_eq_true] at hb
    simp only [List.length_cons] at hf hk
    have hI := ih f (k + 1) r hb.2 (by omega) (by omega)
    rw [List.flatMap_cons, List.append_assoc]
    generalize x.flatMap esc ++ 34 :: r = q at hI ⊢
    have hk2 : ¬ k = 200 := by omega
    unfold esc
    by_cases h1 : c.toNat = 34
    · rw [if_pos h1]
      obtain rfl : c = 34 := u8_of h1
      have e : charR (92 :: 34 :: q) = .ok (34, q) := by simp [charR, escR]
      simp only [List.cons_append, List.nil_append, strR]
      rw [if_neg (by decide), if_neg (by decide), if_neg hk2, e]
      simp only
      rw [hI]
    rw [if_neg h1]
    by_cases h2 : c.toNat = 92
    · rw [if_pos h2]
      obtain rfl : c = 92 := u8_of h2
      have e : charR (92 :: 92 :: q) = .ok (92, q) := by simp [charR, escR]
      simp only [List.cons_append, List.nil_append, strR]
      rw [if_neg (by decide), if_neg (by decide), if_neg hk2, e]
      simp only
      rw [hI]
    rw [if_neg h2]
    by_cases h3 : c.toNat = 10
    · rw [if_pos h3]
      obtain rfl : c = 10 := u8_of h3
      have e : charR (92 :: 110 :: q) = .ok (10, q) := by simp [charR, escR]
      simp only [List.cons_append, List.nil_append, strR]
      rw [if_neg (by decide), if_neg (by decide), if_neg hk2, e]
      simp only
      rw [hI]
    rw [if_neg h3]
    have hp : prt c = true := by have := hb.1; unfold byteOk at this; unfold prt; simp at this ⊢; omega
    have e : charR (c :: q) = .ok (c, q) := by simp only [charR]; rw [if_neg h2]
    simp only [List.cons_append, List.nil_append, strR]
    rw [if_neg h1, if_neg (by rw [hp]; simp), if_neg hk2, e]
    simp only
    rw [hI]
theorem nm_byte {c : UInt8} (h : nmByte c = true) : ¬ c.toNat = 34 ∧ ¬ c.toNat = 92 ∧ ¬ c.toNat = 10 := by unfold nmByte at h; simp at h; omega
theorem nm_escs {x : Str} (h : x.all nmByte = true) : x.flatMap esc = x := by
  induction x with
  | nil => rfl
  | cons c x ih =>
    simp only [List.all_cons, Bool.and_eq_true] at h
    obtain ⟨h1, h2, h3⟩ := nm_byte h.1
    rw [List.flatMap_cons, ih h.2, esc, if_neg h1, if_neg h2, if_neg h3]
    rfl
theorem nameR_quote : ∀ (x : Str) (k : Nat) (r : Str), x.all nmByte = true → k + x.length ≤ 40 → (¬ k = 0 ∨ x ≠ []) → nameR k (x ++ 34 :: r) = .ok (x, r) := by
  intro x
  induction x with
  | nil =>
    intro k r _ _ hk
    have hk : ¬ k = 0 := by rcases hk with h | h; exact h; exact absurd rfl h
    simp only [List.nil_append, nameR]
    rw [if_pos ⟨by decide, hk⟩]
  | cons c x ih =>
    intro k r hb hk _
    simp only [List.all_cons, Bool.and_eq_true] at hb
    simp only [List.length_cons] at hk
    simp only [List.cons_append, nameR]
    rw [if_neg (fun hh => (nm_byte hb.1).1 hh.1), if_neg (by rw [hb.1]; simp), if_neg (by omega), ih (k + 1) r hb.2 (by omega) (Or.inl (by omega))]
theorem skp_cons {c : UInt8} {r : Str} (h : blk c = false) : skp (c :: r) = c :: r := by simp [skp, h]
theorem bgn_of {c : UInt8} (h : bgn c = true) : blk c = false ∧ ¬ c.toNat = 93 ∧ ¬ c.toNat = 125 ∧ ¬ c.toNat = 44 := by
  unfold bgn dig at h
  unfold blk
  simp at h ⊢
  omega
theorem bgn_num {c : UInt8} (h : c.toNat = 45 ∨ 48 ≤ c.toNat ∧ c.toNat ≤ 57) : bgn c = true := by
  unfold bgn dig
  simp
  omega
theorem prV_head {d : Nat} {t : T} (h : Val d t) : ∃ c r, prV t = c :: r ∧ bgn c = true := by
  cases d with
  | zero => exact h.elim
  | succ d =>
    obtain ⟨k, n, s, l, f⟩ := t
    rw [val_eq] at h
    obtain ⟨-, hm, -, -⟩ := h
    unfold Mem at hm
    rcases hm with rfl | ⟨rfl, -⟩ | ⟨rfl, -⟩ | ⟨rfl, -⟩ | ⟨rfl, -⟩ | ⟨rfl, -⟩
    · exact ⟨110, [117, 108, 108], by simp [prV], by decide⟩
    · cases hb : decide (n = 1)
      · exact ⟨102, [97, 108, 115, 101], by simp [prV, hb, boolW], by decide⟩
      · exact ⟨116, [114, 117, 101], by simp [prV, hb, boolW], by decide⟩
    · obtain ⟨c, q, hq, hc⟩ := itoa_head n
      exact ⟨c, q, by simp [prV, hq], bgn_num hc⟩
    · exact ⟨34, s.flatMap esc ++ [34], by simp [prV, quoteR], by decide⟩
    · exact ⟨91, prL true l ++ [93], by simp [prV], by decide⟩
    · exact ⟨123, prF true f ++ [125], by simp [prV], by decide⟩

/-- reading with d levels gives a printed value back -/
def PR (d : Nat) : Prop := ∀ (t : T), Val d t → ∀ (n : Nat) (rest : Str), NotDig rest → (n : Int) + t.size ≤ 600 → ∃ n' : Nat, (n' : Int) = n + t.size ∧ valR d false n (prV t ++ rest) = .ok (t, n', rest)
theorem elemsR_print {d : Nat} (H : PR d) : ∀ (l : List T) (t : T) (m n : Nat) (rest : Str), (∀ x ∈ t :: l, Val d x) → l.length + 1 ≤ m → (n : Int) + t.size + sizeL l ≤ 600 →
    ∃ n' : Nat, (n' : Int) = n + t.size + sizeL l ∧ elemsR (valR d) m n (prV t ++ (prL false l ++ 93 :: rest)) = .ok (t :: l, n', rest) := by
  intro l
  induction l with
  | nil =>
    intro t m n rest hv hm hs
    simp only [sizeL, List.length_nil] at hs hm ⊢
    obtain ⟨n1, e1, h1⟩ := H t (hv t List.mem_cons_self) n (93 :: rest) (nd (by decide)) (by omega)
    refine ⟨n1, by omega, ?_⟩
    simp only [prL, List.nil_append]
    unfold elemsR
    rw [show decide (m = 0) = false by simp; omega, h1]
    simp only
    rw [skp_cons (by decide)]
    simp only
    rw [if_pos (by decide)]
  | cons t' l ih =>
    intro t m n rest hv hm hs
    simp only [sizeL, List.length_cons] at hs hm ⊢
    have hp := sizeL_nonneg l
    have hp' := size_pos t'
    obtain ⟨m, rfl⟩ : ∃ m', m = m' + 1 := ⟨m - 1, by omega⟩
    obtain ⟨n1, e1, h1⟩ := H t (hv t List.mem_cons_self) n (44 :: (prV t' ++ (prL false l ++ 93 :: rest))) (nd (by decide)) (by omega)
    obtain ⟨n2, e2, h2⟩ := ih t' m n1 rest (fun x hx => hv x (List.mem_cons_of_mem _ hx)) (by omega) (by omega)
    refine ⟨n2, by omega, ?_⟩
    rw [show prL false (t' :: l) ++ 93 :: rest = 44 :: (prV t' ++ (prL false l ++ 93 :: rest)) by simp [prL]]
    unfold elemsR
    rw [show decide (m + 1 = 0) = false by simp, h1]
    simp only
    rw [skp_cons (by decide)]
    simp only
    rw [if_neg (by decide), if_pos (by decide), h2]
theorem fieldR_print {d : Nat} (H : PR d) {x : Str} {t : T} {m n : Nat} {seen : List Str} {rest : Str} (hx : nameOk x = true) (hs : x ∉ seen) (hv : Val d t) (hm : ¬ m = 0) (hr : NotDig rest) (hz : (n : Int) + t.size ≤ 600) :
    ∃ n' : Nat, (n' : Int) = n + t.size ∧ fieldR (valR d) m seen n (quoteR x ++ (58 :: (prV t ++ rest))) = .ok ((x, t), n', rest) := by
  obtain ⟨n1, e1, h1⟩ := H t hv n rest hr hz
  refine ⟨n1, e1, ?_⟩
  unfold nameOk at hx
  simp only [Bool.and_eq_true, decide_eq_true_eq] at hx
  have hq : quoteR x ++ (58 :: (prV t ++ rest)) = 34 :: (x ++ 34 :: (58 :: (prV t ++ rest))) := by unfold quoteR; rw [nm_escs hx.2]; simp
  have hb : byteR 58 (58 :: (prV t ++ rest)) = .ok (prV t ++ rest) := by simp [byteR]
  rw [hq]
  unfold fieldR
  rw [skp_cons (by decide)]
  simp only
  rw [if_neg (by decide), if_neg hm, nameR_quote x 0 _ hx.2 (by omega) (Or.inr (fun e => by rw [e] at hx; simp at hx))]
  simp only
  rw [if_neg hs, skp_cons (by decide), hb]
  simp only
  rw [h1]
theorem membersR_print {d : Nat} (H : PR d) : ∀ (l : List (Str × T)) (x : Str) (t : T) (m n : Nat) (seen : List Str) (rest : Str), (∀ p ∈ (x, t) :: l, Val d p.2 ∧ nameOk p.1 = true ∧ p.1 ∉ seen) → SSrt ((x, t) :: l) → l.length + 1 ≤ m → (n : Int) + t.size + sizeF l ≤ 600 →
    ∃ n' : Nat, (n' : Int) = n + t.size + sizeF l ∧ membersR (valR d) m seen n (quoteR x ++ (58 :: (prV t ++ (prF false l ++ 125 :: rest)))) = .ok ((x, t) :: l, n', rest) := by
  intro l
  induction l with
  | nil =>
    intro x t m n seen rest hv hss hm hs
    simp only [sizeF, List.length_nil] at hs hm ⊢
    obtain ⟨v1, v2, v3⟩ := hv (x, t) List.mem_cons_self
    obtain ⟨n1, e1, h1⟩ := fieldR_print H (m := m) (n := n) (seen := seen) (rest := 125 :: rest) v2 v3 v1 (by omega) (nd (by decide)) (by simp only; omega)
    refine ⟨n1, by simp only at e1; omega, ?_⟩
    simp only [prF, List.nil_append]
    unfold membersR
    rw [h1]
    simp only
    rw [skp_cons (by decide)]
    simp only
    rw [if_pos (by decide)]
  | cons p l ih =>
    obtain ⟨y, u⟩ := p
    intro x t m n seen rest hv hss hm hs
    simp only [sizeF, List.length_cons] at hs hm ⊢
    have hp := sizeF_nonneg l
    have hp' := size_pos u
    obtain ⟨m, rfl⟩ : ∃ m', m = m' + 1 := ⟨m - 1, by omega⟩
    obtain ⟨v1, v2, v3⟩ := hv (x, t) List.mem_cons_self
    obtain ⟨n1, e1, h1⟩ := fieldR_print H (m := m + 1) (n := n) (seen := seen) (rest := 44 :: (quoteR y ++ (58 :: (prV u ++ (prF false l ++ 125 :: rest))))) v2 v3 v1 (by omega) (nd (by decide)) (by simp only; omega)
    simp only at e1 h1
    obtain ⟨n2, e2, h2⟩ := ih y u m n1 (seen ++ [x]) rest (fun q hq => by
      obtain ⟨w1, w2, w3⟩ := hv q (List.mem_cons_of_mem _ hq)
      refine ⟨w1, w2, fun hm => ?_⟩
      rcases List.mem_append.1 hm with h | h
      · exact w3 h
      · exact cmpS_ne (hss.head q hq) (List.mem_singleton.1 h).symm) hss.tail (by omega) (by omega)
    refine ⟨n2, by omega, ?_⟩
    rw [show prF false ((y, u) :: l) ++ 125 :: rest = 44 :: (quoteR y ++ (58 :: (prV u ++ (prF false l ++ 125 :: rest)))) by simp [prF]]
    unfold membersR
    rw [h1]
    simp only
    rw [skp_cons (by decide)]
    simp only
    rw [if_neg (by decide), if_pos (by decide), h2]
theorem uses_nil {α : Type} {l : List α} (h : l.length = 0) : l = [] := List.length_eq_zero_iff.1 h
theorem valR_print : ∀ d, PR d := by
  intro d
  induction d with
  | zero => intro t h; exact h.elim
  | succ d ih =>
    intro t hv n rest hr hz
    obtain ⟨c, q, hq, hc⟩ := prV_head hv
    obtain ⟨hbl, -⟩ := bgn_of hc
    have hsp := size_pos t
    have key : ∃ n' : Nat, (n' : Int) = n + t.size ∧ bodyR (valR d) (n + 1) c (q ++ rest) = .ok (t, n', rest) := by
      obtain ⟨k, m, s, l, f⟩ := t
      rw [val_eq] at hv
      obtain ⟨⟨u1, u2, u3, u4⟩, hm, hl, hf⟩ := hv
      unfold Mem at hm
      rcases hm with rfl | ⟨rfl, hb⟩ | ⟨rfl, hb, hb'⟩ | ⟨rfl, hb⟩ | ⟨rfl, hb⟩ | ⟨rfl, hb, hb'⟩
      · obtain rfl : m = 0 := by omega
        obtain rfl : s = [] := by rcases u2 with h | h; exact h; omega
        obtain rfl : l = [] := uses_nil (by omega)
        obtain rfl : f = [] := uses_nil (by omega)
        rw [show prV (.mk 0 0 [] [] []) = [110, 117, 108, 108] by simp [prV]] at hq
        cases hq
        refine ⟨n + 1, by simp [T.size, sizeL, sizeF], ?_⟩
        simp [bodyR, wordR, byteR, wordV]
      · obtain rfl : s = [] := by rcases u2 with h | h; exact h; omega
        obtain rfl : l = [] := uses_nil (by omega)
        obtain rfl : f = [] := uses_nil (by omega)
        rcases hb with rfl | rfl
        · rw [show prV (.mk 1 0 [] [] []) = [102, 97, 108, 115, 101] by simp [prV, boolW]] at hq
          cases hq
          refine ⟨n + 1, by simp [T.size, sizeL, sizeF], ?_⟩
          simp [bodyR, wordR, byteR, wordV]
        · rw [show prV (.mk 1 1 [] [] []) = [116, 114, 117, 101] by simp [prV, boolW]] at hq
          cases hq
          refine ⟨n + 1, by simp [T.size, sizeL, sizeF], ?_⟩
          simp [bodyR, wordR, byteR, wordV]
      · obtain rfl : s = [] := by rcases u2 with h | h; exact h; omega
        obtain rfl : l = [] := uses_nil (by omega)
        obtain rfl : f = [] := uses_nil (by omega)
        rw [show prV (.mk 2 m [] [] []) = Lib.itoa m by simp [prV]] at hq
        obtain ⟨c', q', hq', hc'⟩ := itoa_head m
        rw [hq'] at hq
        cases hq
        refine ⟨n + 1, by simp [T.size, sizeL, sizeF], ?_⟩
        have hN := numR_itoa hb hb' hr
        rw [hq', List.cons_append] at hN
        unfold bodyR
        rw [if_neg (by omega), if_neg (by omega), if_neg (by omega), if_neg (by omega), if_neg (by omega), if_neg (by omega), hN]
        rfl
      · obtain rfl : m = 0 := by omega
        obtain rfl : l = [] := uses_nil (by omega)
        obtain rfl : f = [] := uses_nil (by omega)
        rw [show prV (.mk 3 0 s [] []) = 34 :: (s.flatMap esc ++ [34]) by simp [prV, quoteR]] at hq
        cases hq
        refine ⟨n + 1, by simp [T.size, sizeL, sizeF], ?_⟩
        unfold strOk at hb
        simp only [Bool.and_eq_true, decide_eq_true_eq] at hb
        have hlen := escs_pos s
        have hS := strR_quote s ((s.flatMap esc ++ [34] ++ rest).length + 1) 0 rest hb.2 (by simp only [List.length_append, List.length_singleton]; omega) (by omega)
        rw [show s.flatMap esc ++ 34 :: rest = s.flatMap esc ++ [34] ++ rest by simp] at hS
        unfold bodyR
        rw [if_neg (by decide), if_neg (by decide), if_neg (by decide), if_pos (by decide), hS]
        rfl
      · obtain rfl : m = 0 := by omega
        obtain rfl : s = [] := by rcases u2 with h | h; exact h; omega
        obtain rfl : f = [] := uses_nil (by omega)
        rw [show prV (.mk 4 0 [] l []) = 91 :: (prL true l ++ [93]) by simp [prV]] at hq
        cases hq
        simp only [T.size, sizeF] at hz ⊢
        unfold bodyR
        rw [if_neg (by decide), if_neg (by decide), if_neg (by decide), if_neg (by decide), if_pos (by decide)]
        cases l with
        | nil =>
          refine ⟨n + 1, by simp [sizeL], ?_⟩
          simp only [prL, List.nil_append, List.cons_append]
          unfold listR
          rw [skp_cons (by decide)]
          simp only
          rw [if_pos (by decide)]
        | cons t l =>
          simp only [sizeL] at hz ⊢
          obtain ⟨n1, e1, h1⟩ := elemsR_print ih l t 64 (n + 1) rest hl (by simpa using hb) (by omega)
          refine ⟨n1, by omega, ?_⟩
          obtain ⟨c', q', hq', hc'⟩ := prV_head (hl t List.mem_cons_self)
          obtain ⟨g1, g2, -⟩ := bgn_of hc'
          rw [show prL true (t :: l) ++ [93] ++ rest = prV t ++ (prL false l ++ 93 :: rest) by simp [prL]]
          unfold listR
          rw [h1, hq', List.cons_append, skp_cons g1]
          simp only
          rw [if_neg g2]
      · obtain rfl : m = 0 := by omega
        obtain rfl : s = [] := by rcases u2 with h | h; exact h; omega
        obtain rfl : l = [] := uses_nil (by omega)
        rw [show prV (.mk 5 0 [] [] f) = 123 :: (prF true f ++ [125]) by simp [prV]] at hq
        cases hq
        simp only [T.size, sizeL] at hz ⊢
        unfold bodyR
        rw [if_neg (by decide), if_neg (by decide), if_neg (by decide), if_neg (by decide), if_neg (by decide), if_pos (by decide)]
        cases f with
        | nil =>
          refine ⟨n + 1, by simp [sizeF], ?_⟩
          simp only [prF, List.nil_append, List.cons_append]
          unfold mapR
          rw [skp_cons (by decide)]
          simp only
          rw [if_pos (by decide)]
        | cons p f =>
          obtain ⟨x, t⟩ := p
          simp only [sizeF] at hz ⊢
          have hss := ssrt_of_nm hb'
          have hnm : ∀ p ∈ (x, t) :: f, nameOk p.1 = true := fun p hp => by
            obtain ⟨i, hi, rfl⟩ := List.getElem_of_mem hp
            exact (hb' i _ hi (List.getElem?_eq_getElem hi)).1
          obtain ⟨n1, e1, h1⟩ := membersR_print ih f x t 64 (n + 1) [] rest (fun p hp => ⟨hf p hp, hnm p hp, by simp⟩) hss (by simpa using hb) (by omega)
          refine ⟨n1, by omega, ?_⟩
          rw [show prF true ((x, t) :: f) ++ [125] ++ rest = quoteR x ++ (58 :: (prV t ++ (prF false f ++ 125 :: rest))) by simp [prF]]
          unfold mapR
          rw [h1, show quoteR x ++ (58 :: (prV t ++ (prF false f ++ 125 :: rest))) = 34 :: (x.flatMap esc ++ [34] ++ (58 :: (prV t ++ (prF false f ++ 125 :: rest)))) by simp [quoteR], skp_cons (by decide)]
          simp only
          rw [if_neg (by decide), (mapL_of _).unique (mapOf_self hss)]
    obtain ⟨n', e, hb⟩ := key
    refine ⟨n', e, ?_⟩
    rw [valR_succ, hq, List.cons_append, skp_cons hbl]
    simp only
    rw [if_neg (by rw [hc]; simp), if_neg (by simp; omega), hb]
theorem text_print {t : T} (hv : Val 12 t) (hz : t.size ≤ 600) : textR (prV t) = .ok t := by
  obtain ⟨n', -, h⟩ := valR_print 12 t hv 0 [] trivial (by simpa using hz)
  rw [List.append_nil] at h
  unfold textR
  rw [h]
  rfl
theorem text_blanks {t : T} (hv : Val 12 t) (hz : t.size ≤ 600) : textR ([32, 9] ++ prV t ++ [13, 10]) = .ok t := by
  obtain ⟨n', -, h⟩ := valR_print 12 t hv 0 [13, 10] (nd (by decide)) (by simpa using hz)
  have e : valR 12 false 0 ([32, 9] ++ prV t ++ [13, 10]) = valR 12 false 0 (prV t ++ [13, 10]) := by
    rw [← (valR_ok 12).skp false 0 ([32, 9] ++ prV t ++ [13, 10]), ← (valR_ok 12).skp false 0 (prV t ++ [13, 10])]
    congr 1
  unfold textR
  rw [e, h]
  rfl
end Go.Proofs.YtjpmnlefjmdelaaDoor
