/- The reference's reader of paths: names, digits, numbers, quoted strings. The reference's reader of paths: quoted strings. -/
import Derived.Test.YtjpmnlefjmdelaaGreatDoorYcJ
import Derived.Test.YtjpmnlefjmdelaaGreatDoorXeJ
set_option linter.unusedSimpArgs false
set_option linter.unusedVariables false
namespace Go.Proofs.YtjpmnlefjmdelaaGreatDoor
open Go.RowKit Go.Sort Go.Proofs.LawFrame

theorem dropB {s : Str} {j : Nat} {c : UInt8} {r : Str} (h : s.drop j = c :: r) : ∃ hlt : j < s.length, s[j] = c ∧ s.drop (j + 1) = r ∧ s.length = j + 1 + r.length := by
  have hlt : j < s.length := by
    rcases Nat.lt_or_ge j s.length with h' | h'
    · exact h'
    · rw [List.drop_eq_nil_of_le h'] at h; cases h
  rw [List.drop_eq_getElem_cons hlt] at h
  simp only [List.cons.injEq] at h
  refine ⟨hlt, h.1, h.2, ?_⟩
  have := congrArg List.length h.2
  rw [List.length_drop] at this; omega
theorem dropE {s : Str} {j : Nat} (h : s.drop j = []) (hj : j ≤ s.length) : j = s.length := by
  have := congrArg List.length h
  rw [List.length_drop] at this; simp at this; omega
theorem dropL {s : Str} {j : Nat} {r : Str} (h : s.drop j = r) (hj : j ≤ s.length) : s.length = j + r.length := by
  have := congrArg List.length h
  rw [List.length_drop] at this; omega
theorem dropA {s : Str} {j : Nat} {r : Str} (k : Nat) (h : s.drop j = r) : s.drop (j + k) = r.drop k := by rw [← h, List.drop_drop]
theorem strs_cat (l m : Str) : (⟨l.toArray⟩ : ByteArray) ++ ⟨m.toArray⟩ = ⟨(l ++ m).toArray⟩ := by
  apply ByteArray.ext; rw [ByteArray.data_append]; simp

set_option maxHeartbeats 4000000 in
set_option maxRecDepth 4000 in
theorem pname_any {s : Str} {i : Nat} {r : Str} (hl : s.length ≤ 1000000) (hi : i ≤ s.length) (hd : s.drop i = r) (w : World) : Calls Tryz.prog 111 #[sV s, .int .i64 i] w fun e w' => e = .returned (.int .i64 ((i + nlen r : Nat) : Int)) ∧ w = w' := by
  have hlen := dropL hd hi
  go_enter Tryz.func111, Tryz.ntmps111
  go_wp2
  go_loopg [1] r.length (fun g v wr => ∃ k : Nat, k ≤ r.length ∧ g = r.length - k ∧ v = .int .i64 ((i + k : Nat) : Int) ∧ w = wr ∧ Hid (AllTo nmByte r k))
  case atStart => exact ⟨0, Nat.zero_le _, rfl, rfl, rfl, Lib.hid (AllTo_zero _ _)⟩
  case round =>
    obtain ⟨k, hk, hg, rfl, rfl, HA⟩ := hrel
    have HG := Lib.hid hg
    clear hg
    obtain ⟨j, hj⟩ : ∃ j, i + k = j := ⟨_, rfl⟩
    have hjl : j ≤ s.length := by omega
    by_cases hlt : k < r.length
    · have hdk := dropA k hd
      rw [List.drop_eq_getElem_cons hlt] at hdk
      obtain ⟨hjlt, hc, -, -⟩ := dropB hdk
      have CN := nameChar_any r[k] w
      obtain ⟨B, hB⟩ : ∃ B, nmByte r[k] = B := ⟨_, rfl⟩
      rw [hB] at CN
      have HB := Lib.hid hB
      have hm : ((⟨s.toArray⟩ : ByteArray)[i + k]'hjlt).toNat = r[k].toNat := by rw [← hc]; rfl
      generalize r[k].toNat = m at *
      have HX := Lib.hid (And.intro hd hdk)
      have CN := Lib.hid CN
      clear hB hd hdk hc
      rw [hj]
      subst hj
      have hjlt : i + k < s.length := hjlt
      go_wp2_with fail
      refine CN.out.mono ?_
      rintro e w' ⟨rfl, rfl⟩
      clear CN
      cases B with
      | false =>
        go_wp2
        go_ret
        exact ⟨ret_int (by rw [nlen_at HA.out hlt HB.out]; first | done | omega), rfl⟩
      | true =>
        go_wp2
        go_roundg (r.length - (k + 1))
        case measure => have := HG.out; omega
        case rel => exact ⟨k + 1, by omega, rfl, by go_num, rfl, Lib.hid (AllTo_succ HA.out hlt HB.out)⟩
    · obtain rfl : k = r.length := by omega
      clear hj hjl
      clear j
      have he : ¬ ((i + r.length : Nat) : Int) < (s.length : Int) := by omega
      go_wp2
      go_ret
      exact ⟨ret_int (by rw [nlen_all (all_of HA.out)]; first | done | omega), rfl⟩

theorem idxOk_iff (d : Str) : idxOk d = ((decide (d.length = 1) || (decide (1 < d.length) && !decide (d.head? = some 48))) && d.all dig) := by
  unfold idxOk
  cases d with
  | nil => rfl
  | cons c d => cases d with
    | nil => simp
    | cons e d => simp
set_option maxHeartbeats 4000000 in
set_option maxRecDepth 4000 in
theorem pdigits_any (d : Str) (w : World) (hl : d.length ≤ 1000000) : Calls Tryz.prog 151 #[sV d] w fun e w' => e = .returned (.bool (idxOk d)) ∧ w = w' := by
  rw [idxOk_iff]
  go_enter Tryz.func151, Tryz.ntmps151
  go_wp2
  go_loop [3] (fun i => ∃ k : Nat, k ≤ d.length ∧ i = .int .i64 k ∧ Hid (AllTo dig d k)) (fun i => d.length - (intOf i).toNat)
  case atStart => exact ⟨0, Nat.zero_le _, rfl, Lib.hid (AllTo_zero _ _)⟩
  case round =>
    obtain ⟨k, hk, rfl, hd⟩ := hrel
    by_cases hlt : k < d.length
    · have hm : ((⟨d.toArray⟩ : ByteArray)[k]'hlt).toNat = d[k].toNat := rfl
      have hm256 : d[k].toNat < 256 := d[k].toNat_lt
      generalize hmm : d[k].toNat = m at hm hm256
      have HMM := Lib.hid hmm
      clear hmm
      go_wp2
      all_goals first
        | (exfalso; omega)
        | (go_ret; exact ⟨ret_bool (by rw [all_not hlt (by unfold dig; rw [HMM.out, Bool.eq_false_iff]; simp; omega)]; simp), rfl⟩)
        | (go_round
           case rel => exact ⟨k + 1, by omega, by go_num, Lib.hid (AllTo_succ hd.out hlt (by unfold dig; rw [HMM.out]; simp; omega))⟩
           case measure => simp [intOf]; omega)
    · obtain rfl : k = d.length := by omega
      have HD := Lib.hid (all_of hd.out)
      by_cases h1 : d.length = 1
      · go_wp2
        go_ret
        exact ⟨ret_bool (by have hh := HD.out; first | (simp [hh, h1]; done) | (simp_all; done)), rfl⟩
      by_cases h2 : 1 < d.length
      · have h0 : 0 < d.length := by omega
        have hm : ((⟨d.toArray⟩ : ByteArray)[0]'h0).toNat = d[0].toNat := rfl
        have hhd : d.head? = some d[0] := by cases d with
          | nil => simp at h0
          | cons c d => rfl
        have hmm : d[0].toNat = 48 ↔ d[0] = 48 := ⟨fun h => UInt8.toNat_inj.1 h, fun h => by rw [h]; rfl⟩
        have HH := Lib.hid (And.intro hhd hmm)
        clear hhd hmm
        generalize hm0 : d[0].toNat = m at *
        have HM0 := Lib.hid hm0
        clear hm0
        go_wp2
        all_goals
          go_ret
          exact ⟨ret_bool (by
            have h3 := HH.out.2
            have h4 := HD.out
            have h5 := HH.out.1
            have h6 : (((d.length : Nat) : Int) == 1) = false := by rw [beq_eq_false_iff_ne]; omega
            by_cases hm48 : m = 48
            · have h7 := h3.1 hm48
              subst hm48
              first | (simp [h4, h5, h6, h7, h1, h2]; done) | (simp_all; done)
            · have h7 : ¬ d[0] = 48 := fun h => hm48 (h3.2 h)
              have h8 : ((m : Int) != 48) = true := by rw [bne_iff_ne]; omega
              first | (simp [h4, h5, h6, h7, h8, h1, h2]; done) | (simp [h4, h5, h6, h7, h1, h2]; omega) | (simp_all; done)), rfl⟩
      · go_wp2
        all_goals
          go_ret
          exact ⟨ret_bool (by have hh := HD.out; first | (simp [hh, h1, h2]; done) | (simp; omega) | (simp_all; done) | (simp_all; omega)), rfl⟩
/-- what number makes of a text -/
def numI (n : Int) : Str → Int
  | [] => min n 65
  | c :: r => if n < 65 then numI (10 * n + (((c.toNat : Int) + 208) % 256)) r else 65
theorem numI_idx : ∀ {d : Str} {n : Int}, d.all dig = true → 0 ≤ n → numI n d = idxN (min n 65) d
  | [], n, _, _ => by simp [numI, idxN]
  | c :: r, n, h, h0 => by
    simp only [List.all_cons, Bool.and_eq_true] at h
    have hc := h.1
    unfold dig at hc
    simp only [Bool.and_eq_true, decide_eq_true_eq] at hc
    have big : ∀ r : Str, r.all dig = true → idxN 65 r = 65 := by
      intro r
      induction r with
      | nil => intro _; rfl
      | cons a r ih =>
        intro h
        simp only [List.all_cons, Bool.and_eq_true] at h
        have ha := h.1
        unfold dig at ha
        simp only [Bool.and_eq_true, decide_eq_true_eq] at ha
        simp only [idxN]
        rw [show min (10 * 65 + ((a.toNat : Int) - 48)) 65 = 65 by omega]
        exact ih h.2
    simp only [numI, idxN]
    by_cases hn : n < 65
    · rw [if_pos hn, numI_idx h.2 (by omega)]
      congr 1
      omega
    · rw [if_neg hn, show min (10 * min n 65 + ((c.toNat : Int) - 48)) 65 = 65 by omega, big r h.2]
theorem numI_big {n : Int} {r : Str} (h : 65 ≤ n) : numI n r = 65 := by
  cases r with
  | nil => simp only [numI]; omega
  | cons c r => simp only [numI]; rw [if_neg (by omega)]
set_option maxHeartbeats 4000000 in
set_option maxRecDepth 4000 in
theorem pnumber_any (d : Str) (w : World) (hl : d.length ≤ 1000000) : Calls Tryz.prog 150 #[sV d] w fun e w' => e = .returned (.int .i64 (numI 0 d)) ∧ w = w' := by
  go_enter Tryz.func150, Tryz.ntmps150
  go_wp2
  go_loop [3, 4] (fun n i => ∃ (k : Nat) (m : Int), k ≤ d.length ∧ i = .int .i64 k ∧ n = .int .i64 m ∧ 0 ≤ m ∧ m ≤ 10000 ∧ Hid (numI 0 d = numI m (d.drop k))) (fun n i => d.length - (intOf i).toNat)
  case atStart => exact ⟨0, 0, Nat.zero_le _, rfl, rfl, by omega, by omega, Lib.hid rfl⟩
  case round =>
    obtain ⟨k, m, hk, rfl, rfl, hm0, hm1, HE⟩ := hrel
    by_cases hlt : k < d.length ∧ m < 65
    · obtain ⟨hlt, hm65⟩ := hlt
      have hm : ((⟨d.toArray⟩ : ByteArray)[k]'hlt).toNat = d[k].toNat := rfl
      have hm256 : d[k].toNat < 256 := d[k].toNat_lt
      have hE2 : numI 0 d = numI (10 * m + (((d[k].toNat : Int) + 208) % 256)) (d.drop (k + 1)) := by rw [HE.out, List.drop_eq_getElem_cons hlt]; simp only [numI]; rw [if_pos hm65]
      generalize hmm : d[k].toNat = q at hm hm256 hE2
      have HE2 := Lib.hid hE2
      clear hmm hE2 HE
      go_wp2
      go_round
      case rel => exact ⟨k + 1, 10 * m + (((q : Int) + 208) % 256), by omega, by go_num, by go_num, by omega, by omega, HE2⟩
      case measure => simp [intOf]; omega
    · have hF : numI 0 d = min m 65 := by
        rw [HE.out]
        by_cases h65 : m < 65
        · have : k = d.length := by omega
          subst this
          rw [List.drop_length]; rfl
        · rw [numI_big (by omega)]; omega
      have HF := Lib.hid hF
      clear hF HE
      have hlt2 : ¬ k < d.length ∨ (k < d.length ∧ ¬ m < 65) := by omega
      clear hlt
      by_cases h65 : 65 < m
      · rcases hlt2 with hlt | ⟨hlt, hr⟩
        all_goals
          go_wp2
          go_ret
          exact ⟨ret_int (by rw [HF.out, show min m 65 = 65 by omega]), rfl⟩
      · rcases hlt2 with hlt | ⟨hlt, hr⟩
        all_goals
          go_wp2
          go_ret
          exact ⟨ret_int (by rw [HF.out, show min m 65 = m by omega]), rfl⟩
end Go.Proofs.YtjpmnlefjmdelaaGreatDoor
namespace Go.Proofs.YtjpmnlefjmdelaaGreatDoor
open Go.RowKit Go.Sort Go.Proofs.LawFrame

theorem cat_sV (a b : Str) : Value.string ((⟨a.toArray⟩ : ByteArray) ++ ⟨b.toArray⟩) = sV (a ++ b) := by rw [strs_cat]
/-- what quoted answers -/
structure QQ (s : Str) (w : World) (res : Option (Str × Str)) (e : Ending) (w' : World) : Prop where
  same : w = w'
  ok : ∀ v q, res = some (v, q) → ∃ j : Nat, e = .returned (.tuple #[sV v, .int .i64 j, .bool true]) ∧ j ≤ s.length ∧ s.drop j = q
  no : res = none → ∃ (v : Str) (j : Nat), e = .returned (.tuple #[sV v, .int .i64 j, .bool false])
def quoI (r : Str) : Option (Str × Str) := match cutP [34] r with
  | none => none
  | some q => quoP q
theorem quoI_no {c : UInt8} {r : Str} (h : ¬ c.toNat = 34) : quoI (c :: r) = none := by
  unfold quoI
  have : cutP [34] (c :: r) = none := by
    rw [cutP, if_neg (fun e => h (by rw [← e]; rfl))]
  rw [this]
theorem quoI_yes {c : UInt8} {r : Str} (h : c.toNat = 34) : quoI (c :: r) = quoP r := by
  unfold quoI
  have : cutP [34] (c :: r) = some r := by
    rw [cutP, if_pos (UInt8.toNat_inj.1 (show (34 : UInt8).toNat = c.toNat from h.symm)), cutP]
  rw [this]
def accP (acc : Str) (o : Option (Str × Str)) : Option (Str × Str) := o.map (fun p => (acc ++ p.1, p.2))
theorem accP_nil (o : Option (Str × Str)) : accP [] o = o := by cases o <;> rfl
theorem accP_step (acc : Str) (c : UInt8) (o : Option (Str × Str)) : accP acc (o.map (fun p => (c :: p.1, p.2))) = accP (acc ++ [c]) o := by
  unfold accP; cases o <;> simp
theorem QQ.mkNo {s : Str} {w w' : World} {res : Option (Str × Str)} {v : Str} {j : Nat} (h : w = w') (hr : res = none) : QQ s w res (.returned (.tuple #[sV v, .int .i64 j, .bool false])) w' :=
  ⟨h, fun v q h => (by rw [hr] at h; cases h), fun _ => ⟨v, j, rfl⟩⟩
theorem QQ.mkOk {s : Str} {w w' : World} {res : Option (Str × Str)} {v q : Str} {j : Nat} (h : w = w') (hr : res = some (v, q)) (hj : j ≤ s.length) (hd : s.drop j = q) : QQ s w res (.returned (.tuple #[sV v, .int .i64 j, .bool true])) w' :=
  ⟨h, fun v q h => (by rw [hr] at h; cases h; exact ⟨j, rfl, hj, hd⟩), fun h => (by rw [hr] at h; cases h)⟩

set_option maxHeartbeats 8000000 in
set_option maxRecDepth 4000 in
theorem pquoted_any {s : Str} {i : Nat} {r : Str} (hl : s.length ≤ 1000000) (hi : i ≤ s.length) (hd : s.drop i = r) (w : World) : Calls Tryz.prog 152 #[sV s, .int .i64 i] w (QQ s w (quoI r)) := by
  cases r with
  | nil =>
    obtain rfl := dropE hd hi
    go_enter Tryz.func152, Tryz.ntmps152
    go_wp2
    exact bodyPost_ret (v := .tuple #[.string ⟨#[]⟩, .int .i64 0, .bool false]) (by simp [results, Tryz.results152, go_sem]) rfl (QQ.mkNo (v := []) (j := 0) rfl rfl)
  | cons q0 r =>
    obtain ⟨hlt, hc, hd', hlen⟩ := dropB hd
    have hm : ((⟨s.toArray⟩ : ByteArray)[i]'hlt).toNat = q0.toNat := by rw [← hc]; rfl
    by_cases h34 : q0.toNat = 34
    case neg =>
      have HF := Lib.hid (quoI_no (r := r) h34)
      generalize hq : q0.toNat = m at *
      have b1 : ((m : Int) != 34) = true := by rw [bne_iff_ne]; omega
      clear hq hd hd' hc hlen
      go_enter Tryz.func152, Tryz.ntmps152
      go_wp2
      exact bodyPost_ret (v := .tuple #[.string ⟨#[]⟩, .int .i64 0, .bool false]) (by simp [results, Tryz.results152, go_sem]) rfl (QQ.mkNo (v := []) (j := 0) rfl HF.out)
    have HF := Lib.hid (quoI_yes (r := r) h34)
    rw [h34] at hm
    have HD := Lib.hid (And.intro hd' hlen)
    clear hd hd' hc hlen h34
    have hnle : ¬ s.length ≤ i := by omega
    have hnle2 : decide ((s.length : Int) ≤ (i : Int)) = false := decide_eq_false (by omega)
    go_enter Tryz.func152, Tryz.ntmps152
    go_wp2
    clear hm
    go_loopg [1, 7] r.length (fun g v7 v8 wr => ∃ (j : Nat) (acc r' : Str), g = r'.length ∧ v7 = .int .i64 j ∧ j ≤ s.length ∧ s.drop j = r' ∧ v8 = sV acc ∧ acc.length + r'.length ≤ s.length ∧ w = wr ∧ Hid (quoI (q0 :: r) = accP acc (quoP r')))
    case atStart => exact ⟨i + 1, [], r, rfl, by go_num, by have := HD.out.2; omega, HD.out.1, rfl, by have := HD.out.2; simp; omega, rfl, Lib.hid (by rw [accP_nil, HF.out])⟩
    case round =>
      clear HF hlt hi
      obtain ⟨j, acc, r', hg, rfl, hj, hd, rfl, hal, rfl, HE⟩ := hrel
      have HG := Lib.hid (And.intro hg hal)
      have hal2 : acc.length ≤ 1000000 := by omega
      clear hal
      clear hg HD
      cases r' with
      | nil =>
        obtain rfl := dropE hd hj
        have HF := Lib.hid (show quoI (q0 :: r) = none by rw [HE.out, quoP_nil]; rfl)
        clear hd
        go_wp2
        exact bodyPost_ret (v := .tuple #[sV acc, .int .i64 ((s.length + 1 : Nat) : Int), .bool false]) (by simp [results, Tryz.results152, go_sem]) rfl (QQ.mkNo rfl HF.out)
      | cons c r2 =>
        obtain ⟨hlt, hc, hd', hlen⟩ := dropB hd
        have hm : ((⟨s.toArray⟩ : ByteArray)[j]'hlt).toNat = c.toNat := by rw [← hc]; rfl
        have hm256 : c.toNat < 256 := c.toNat_lt
        have hx : (⟨s.toArray⟩ : ByteArray).extract j (j + 1) = ⟨[c].toArray⟩ := by
          rw [ext_mid j 1, hd]; rfl
        have HD := Lib.hid hd'
        clear hd hc
        have hj1 : j + 1 ≤ s.length := by omega
        by_cases h34 : c.toNat = 34
        · have HF := Lib.hid (show quoI (q0 :: r) = some (acc, r2) by rw [HE.out, quoP_end h34]; simp [accP])
          rw [h34] at hm
          clear hx h34 hm256 hd' hlen
          go_wp2
          exact bodyPost_ret (v := .tuple #[sV acc, .int .i64 ((j + 1 : Nat) : Int), .bool true]) (by simp [results, Tryz.results152, go_sem]) rfl (QQ.mkOk rfl HF.out hj1 HD.out)
        by_cases hp : prt c = true
        case neg =>
          have hp' : prt c = false := by simpa using hp
          have h92 : ¬ c.toNat = 92 := by intro h; rw [show prt c = true by unfold prt; simp [h]] at hp'; cases hp'
          have HF := Lib.hid (show quoI (q0 :: r) = none by rw [HE.out, quoP_lit h34 h92, hp']; rfl)
          have hr : c.toNat < 32 ∨ 126 < c.toNat := by unfold prt at hp'; simp at hp'; omega
          generalize hcm : c.toNat = m at *
          have b1 : ((m : Int) != 34) = true := by rw [bne_iff_ne]; omega
          clear hx hd' hlen hp hp' hcm
          rcases hr with hr | hr
          all_goals
            go_wp2
            exact bodyPost_ret (v := .tuple #[.string ⟨#[]⟩, .int .i64 0, .bool false]) (by simp [results, Tryz.results152, go_sem]) rfl (QQ.mkNo (v := []) (j := 0) rfl HF.out)
        have hr : 32 ≤ c.toNat ∧ c.toNat ≤ 126 := by unfold prt at hp; simp at hp; omega
        obtain ⟨hr1, hr2⟩ := hr
        by_cases h92 : c.toNat = 92
        case neg =>
          have HS := Lib.hid (show quoI (q0 :: r) = accP (acc ++ [c]) (quoP r2) by rw [HE.out, quoP_lit h34 h92, if_pos hp, accP_step])
          generalize hcm : c.toNat = m at *
          have HL := Lib.hid hlen
          have b1 : ((m : Int) != 34) = true := by rw [bne_iff_ne]; omega
          have b2 : ((m : Int) != 92) = true := by rw [bne_iff_ne]; omega
          clear hd' hlen hp hcm HE
          go_wp2
          go_roundg r2.length
          case measure => have := HG.out.1; simp at this; omega
          case rel => exact ⟨j + 1, acc ++ [c], r2, rfl, by go_num, hj1, HD.out, cat_sV acc [c], by have := HG.out.2; simp at this ⊢; omega, rfl, HS⟩
        rw [h92] at hm
        cases r2 with
        | nil =>
          have HF := Lib.hid (show quoI (q0 :: r) = none by rw [HE.out, quoP_esc0 h34 h92]; rfl)
          have hje : j + 1 = s.length := by simpa using hlen.symm
          clear hx hd' hlen hp HE h34 h92 hr1 hr2 hm256
          go_wp2
          exact bodyPost_ret (v := .tuple #[.string ⟨#[]⟩, .int .i64 0, .bool false]) (by simp [results, Tryz.results152, go_sem]) rfl (QQ.mkNo (v := []) (j := 0) rfl HF.out)
        | cons e r3 =>
          obtain ⟨hlt2, hc2, hd2, hlen2⟩ := dropB hd'
          have hm2 : ((⟨s.toArray⟩ : ByteArray)[j + 1]'hlt2).toNat = e.toNat := by rw [← hc2]; rfl
          have he256 : e.toNat < 256 := e.toNat_lt
          have hx2 : (⟨s.toArray⟩ : ByteArray).extract (j + 1) (j + 2) = ⟨[e].toArray⟩ := by
            rw [show j + 2 = j + 1 + 1 by omega, ext_mid (j + 1) 1, hd']; rfl
          have HD2 := Lib.hid hd2
          have hj2 : j + 2 ≤ s.length := by omega
          have HX := Lib.hid (quoP_esc (e := e) (r := r3) h34 h92)
          clear hx hd' hc2 hd2 hp h34 h92 hr1 hr2 hm256 hlen hlen2
          by_cases e34 : e.toNat = 34
          · have he : e = 34 := UInt8.toNat_inj.1 (show e.toNat = (34 : UInt8).toNat from e34)
            have HS := Lib.hid (show quoI (q0 :: r) = accP (acc ++ [e]) (quoP r3) by rw [HE.out, HX.out, if_pos e34, accP_step, he])
            clear he HX HE
            generalize hcm : e.toNat = m at *
            clear hcm
            subst e34
            go_wp2
            go_roundg r3.length
            case measure => have := HG.out.1; simp at this; omega
            case rel => exact ⟨j + 2, acc ++ [e], r3, rfl, by go_num, hj2, HD2.out, cat_sV acc [e], by have := HG.out.2; simp at this ⊢; omega, rfl, HS⟩
          by_cases e92 : e.toNat = 92
          · have he : e = 92 := UInt8.toNat_inj.1 (show e.toNat = (92 : UInt8).toNat from e92)
            have HS := Lib.hid (show quoI (q0 :: r) = accP (acc ++ [e]) (quoP r3) by rw [HE.out, HX.out, if_neg e34, if_pos e92, accP_step, he])
            clear he HX HE
            generalize hcm : e.toNat = m at *
            clear hcm e34
            subst e92
            go_wp2
            go_roundg r3.length
            case measure => have := HG.out.1; simp at this; omega
            case rel => exact ⟨j + 2, acc ++ [e], r3, rfl, by go_num, hj2, HD2.out, cat_sV acc [e], by have := HG.out.2; simp at this ⊢; omega, rfl, HS⟩
          by_cases e110 : e.toNat = 110
          · have HS := Lib.hid (show quoI (q0 :: r) = accP (acc ++ [10]) (quoP r3) by rw [HE.out, HX.out, if_neg e34, if_neg e92, if_pos e110, accP_step])
            clear HX HE
            generalize hcm : e.toNat = m at *
            clear hcm e34 e92 hx2
            subst e110
            go_wp2
            go_roundg r3.length
            case measure => have := HG.out.1; simp at this; omega
            case rel => exact ⟨j + 2, acc ++ [10], r3, rfl, by go_num, hj2, HD2.out, cat_sV acc [10], by have := HG.out.2; simp at this ⊢; omega, rfl, HS⟩
          · have HF := Lib.hid (show quoI (q0 :: r) = none by rw [HE.out, HX.out, if_neg e34, if_neg e92, if_neg e110]; rfl)
            clear HX HE
            generalize hcm : e.toNat = m at *
            have b1 : ((m : Int) != 34) = true := by rw [bne_iff_ne]; omega
            have b2 : ((m : Int) != 92) = true := by rw [bne_iff_ne]; omega
            have b3 : ((m : Int) != 110) = true := by rw [bne_iff_ne]; omega
            clear hcm hx2
            go_wp2
            exact bodyPost_ret (v := .tuple #[.string ⟨#[]⟩, .int .i64 0, .bool false]) (by simp [results, Tryz.results152, go_sem]) rfl (QQ.mkNo (v := []) (j := 0) rfl HF.out)
end Go.Proofs.YtjpmnlefjmdelaaGreatDoor
