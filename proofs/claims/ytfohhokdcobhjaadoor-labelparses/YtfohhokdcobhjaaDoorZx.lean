/- The contract of the reference's Tokens. A selector is read only out of good tokens: plain mathematics. The contract of the reference's Parse. The walk of LabelParses. -/
import Derived.Test.YtfohhokdcobhjaaDoorZs
import Derived.Deep.DeepCutAuto
import Derived.Deep.CutBlock
import Derived.Deep.Cut
import Derived.Test.YtfohhokdcobhjaaDoorXh
import Derived.Test.YtfohhokdcobhjaaDoorWj
import Derived.Test.YtfohhokdcobhjaaDoorYa
namespace Go.Proofs.YtfohhokdcobhjaaDoor
open Go.RowKit Go.Sort Go.Proofs.LawFrame

def punct (t : Str) : Bool := t == [33, 61] || t == [40] || t == [41] || t == [44] || t == [33] || t == [61]
/-- a word, or one of the signs -/
def tokGood (t : Str) : Bool := isWord t || punct t
theorem trim_space (t : Str) : trim (32 :: t) = trim t := by unfold trim; simp
theorem trim_id {c : UInt8} {t : Str} (h : ¬ c = 32) : trim (c :: t) = c :: t := by unfold trim; simp [h]
theorem lex_space (t : Str) : lex (32 :: t) = lex t := by
  by_cases h : trim t = []
  · rw [lex_nil h, lex_nil (by rw [trim_space]; exact h)]
  · rw [lex_cons h, lex_cons (by rw [trim_space]; exact h), trim_space]
theorem lex_tok {c : UInt8} {t : Str} (h : ¬ c = 32) : lex (c :: t) = (c :: t).take (tokLen (c :: t)) :: lex ((c :: t).drop (tokLen (c :: t))) := by
  have := lex_cons (s := c :: t) (by rw [trim_id h]; simp)
  rw [trim_id h] at this; exact this
theorem ext_mid {l : Str} (k n : Nat) : (⟨l.toArray⟩ : ByteArray).extract k (k + n) = ⟨((l.drop k).take n).toArray⟩ := by
  apply ByteArray.ext; rw [ByteArray.data_extract]; simp [List.drop_take]
theorem u8_eq {c : UInt8} {m : Nat} (h : c.toNat = m) (hm : m < 256) : c = UInt8.ofNat m := by
  apply UInt8.toNat_inj.1; rw [h, UInt8.toNat_ofNat']; omega
theorem int_eq3 {k : IntKind} {a b : Int} (h : a = b) : Value.int k a = Value.int k b := by rw [h]
/-- what Tokens gives -/
structure RTok (s : Str) (e : Ending) (w' : World) : Prop where
  good : (lex s).all tokGood = true → ∃ v', e = .returned (.tuple #[v', .bool true]) ∧ Strs w' v' (lex s)
  bad : (lex s).all tokGood = false → e = .returned (.tuple #[.slice none 0 0, .bool false])

set_option maxHeartbeats 4000000 in
set_option maxRecDepth 4000 in
theorem tokens_any (s : Str) (w : World) (hl : s.length ≤ 20000) :
    Calls Tryd.prog 45 #[sV s] w fun e w' => Below w.heap.size w w' ∧ RTok s e w' := by
  obtain ⟨i9, hi9, hz9, hs9, hy9⟩ := info_parts info9
  go_enter Tryd.func45, Tryd.ntmps45
  go_wp2
  go_loopg [4, 5] s.length (fun g p i wr => ∃ (k : Nat) (L : List Str), k ≤ s.length ∧ g = s.length - k ∧ i = .int .i64 k ∧ Below w.heap.size w wr ∧ wr.ownsRow w.heap.size 9 1 p L.length (L.map sV) ∧ L.length ≤ k ∧ Hid (L ++ lex (s.drop k) = lex s ∧ ∀ t ∈ L, tokGood t = true))
  case atStart => exact ⟨0, [], Nat.zero_le _, rfl, rfl, Below.refl _ _, own_nil _ _ _ _, Nat.le_refl _, Lib.hid ⟨by simp, by simp⟩⟩
  case round =>
    obtain ⟨k, L, hk, hg, rfl, hb, hown, hLk, HL⟩ := hrel
    have HG := Lib.hid hg
    clear hg
    have hsz := hb.size
    by_cases hlt : k < s.length
    case neg =>
      obtain rfl : k = s.length := by omega
      have HLX : Hid (lex s = L) := Lib.hid (by have := HL.out.1; rw [List.drop_length, lex_nil rfl] at this; simpa using this.symm)
      go_wp2
      go_ret2
      exact ⟨hb, ⟨fun _ => ⟨_, rfl, by rw [HLX.out]; exact strs_own hown⟩, fun h => by rw [HLX.out, List.all_eq_true.2 HL.out.2] at h; cases h⟩⟩
    have hm : ((⟨s.toArray⟩ : ByteArray)[k]'hlt).toNat = s[k].toNat := rfl
    have hdr : s.drop k = s[k] :: s.drop (k + 1) := List.drop_eq_getElem_cons hlt
    have hm256 : s[k].toNat < 256 := s[k].toNat_lt
    generalize hc : s[k] = c at hdr hm hm256
    generalize hmm : c.toNat = m at hm hm256
    have HD := Lib.hid (And.intro hdr (And.intro hc hmm))
    clear hdr hc hmm
    by_cases h32 : m = 32
    · subst h32
      have HLX : Hid (lex (s.drop k) = lex (s.drop (k + 1))) := Lib.hid (by
        obtain ⟨h1, h2, h3⟩ := HD.out
        rw [h1, u8_eq h3 (by omega)]; exact lex_space _)
      go_wp2
      go_roundg (s.length - (k + 1))
      case measure => have := HG.out; omega
      case rel => exact ⟨k + 1, L, by omega, rfl, by go_num, hb, hown, by omega, Lib.hid ⟨by rw [← HL.out.1, HLX.out], HL.out.2⟩⟩
    have hn32 : ((m : Int) == 32) = false := by rw [beq_eq_false_iff_ne]; omega
    have HLX : Hid (lex (s.drop k) = (s.drop k).take (tokLen (s.drop k)) :: lex ((s.drop k).drop (tokLen (s.drop k)))) := Lib.hid (by
      obtain ⟨h1, h2, h3⟩ := HD.out
      rw [h1]; exact lex_tok (by rintro rfl; exact h32 h3.symm))
    go_upto_block 2 with fail
    go_cut [6] (fun s6 wx => s6 = .int .i64 ((wlen (s.drop k) : Nat) : Int) ∧ wx = wr)
    case first =>
      generalize wr = W1 at *
      have HDL : Hid ((s.drop k).length = s.length - k) := Lib.hid (by simp)
      go_wp2
      go_loopg [6] (s.length - k) (fun g p wq => ∃ n : Nat, k + n ≤ s.length ∧ g = s.length - k - n ∧ p = .int .i64 n ∧ wq = W1 ∧ Hid (AllTo isWb (s.drop k) n))
      case atStart => exact ⟨0, by omega, rfl, rfl, rfl, Lib.hid (AllTo_zero _ _)⟩
      case round =>
        obtain ⟨n, hn, hg2, rfl, rfl, HA⟩ := hrel
        have HG2 := Lib.hid hg2
        clear hg2
        by_cases hlt2 : k + n < s.length
        · have hgl : n < (s.drop k).length := by rw [HDL.out]; omega
          have hge : (s.drop k)[n] = s[k + n] := by simp
          cases hdig : isWb s[k + n]
          · have hd' : isWb ((⟨s.toArray⟩ : ByteArray)[k + n]'hlt2) = false := hdig
            have HW : Hid (wlen (s.drop k) = n) := Lib.hid (by
              unfold wlen; rw [(takeWhile_of HA.out hgl (by rw [hge]; exact hdig)).1, List.length_take]; omega)
            clear hdig hge
            go_wp2_with (go_at_call 55; refine (char_any _ _).mono ?_; rintro e w' ⟨rfl, rfl⟩)
            go_meet
            exact ⟨int_eq3 (by rw [HW.out]), rfl⟩
          · have hd' : isWb ((⟨s.toArray⟩ : ByteArray)[k + n]'hlt2) = true := hdig
            have HW : Hid (AllTo isWb (s.drop k) (n + 1)) := Lib.hid (AllTo_succ HA.out hgl (by rw [hge]; exact hdig))
            clear hdig hge
            go_wp2_with (go_at_call 55; refine (char_any _ _).mono ?_; rintro e w' ⟨rfl, rfl⟩)
            go_roundg (s.length - k - (n + 1))
            case measure => have := HG2.out; omega
            case rel => exact ⟨n + 1, by omega, rfl, by go_num, rfl, HW⟩
        · have HW : Hid (wlen (s.drop k) = n) := Lib.hid (by
            have hnl : n = (s.drop k).length := by rw [HDL.out]; omega
            have h := HA.out
            rw [hnl] at h
            unfold wlen; rw [(takeWhile_end h).1]; exact hnl.symm)
          have hge : ¬ ((k : Int) + n < s.length) := by omega
          go_wp2_with fail
          go_meet
          exact ⟨int_eq3 (by rw [HW.out]), rfl⟩
    case rest =>
    obtain ⟨rfl, hwc⟩ := hcut
    subst hwc
    generalize wc = wr at *
    by_cases hwl : 0 < wlen (s.drop k)
    · have hwne : ((wlen (s.drop k) : Nat) : Int) ≠ 0 := by omega
      have hwz : (((wlen (s.drop k) : Nat) : Int) == 0) = false := by rw [beq_eq_false_iff_ne]; exact hwne
      have HTL0 : Hid (tokLen (s.drop k) = wlen (s.drop k)) := Lib.hid (by unfold tokLen; rw [if_pos hwl])
      have HGD0 : Hid (tokGood ((s.drop k).take (wlen (s.drop k))) = true) := Lib.hid (by
        obtain ⟨h1, h2, h3⟩ := HD.out
        rw [h1] at hwl ⊢
        have hb : isWb c = true := by
          unfold wlen at hwl
          rw [List.takeWhile_cons] at hwl
          split at hwl
          · assumption
          · simp at hwl
        obtain ⟨q, hq⟩ : ∃ q, wlen (c :: s.drop (k + 1)) = q + 1 := ⟨wlen (c :: s.drop (k + 1)) - 1, by omega⟩
        rw [hq, List.take_succ_cons]
        unfold tokGood isWord; simp [hb])
      generalize wlen (s.drop k) = n at *
      have HTL : Hid (tokLen (s.drop k) = n) := Lib.hid (HTL0.out)
      have hkn : k + n ≤ s.length := by have := tokLen_le (s.drop k); rw [HTL.out, List.length_drop] at this; omega
      have hext : (⟨s.toArray⟩ : ByteArray).extract k (k + n) = ⟨((s.drop k).take n).toArray⟩ := ext_mid k n
      have HGD : Hid (tokGood ((s.drop k).take n) = true) := Lib.hid (HGD0.out)
      have HLX2 : Hid (lex (s.drop k) = (s.drop k).take n :: lex (s.drop (k + n))) := Lib.hid (by rw [HLX.out, HTL.out, List.drop_drop])
      generalize (s.drop k).take n = tok at *
      go_wp2_with (first | (at_builtin; refine wpList_append_own _ rfl (.tmp 89) (.tmp 96) 41 rfl w.heap.size 9 i9 (.string ⟨#[]⟩) 1 16 Tryd.underlying41 hi9 hz9 hs9 hy9 rfl (by decide) _ _ _ rfl (hown.alloc _) ⟨wr.heap.size, 0, none⟩ 1 1 [sV tok] rfl rfl (cell_one_new _ _ _) (fun u hu => by simp at hu; subst hu; rfl) (by unfold maxLen; omega) (by omega) (by simp; omega) ?_; intro v' w5 hown5 hgrow5 hnil5))
      go_roundg (s.length - (k + n))
      case measure => have := HG.out; omega
      case rel => exact ⟨k + n, L ++ [tok], hkn, rfl, by go_num, below_grown (below_all hb (below_alloc _ _)) hgrow5 (by simp; omega) (own_row hown), by rw [List.map_append, List.length_append]; exact hown5, by simp; omega, Lib.hid ⟨by rw [← HL.out.1, HLX2.out]; simp, fun t ht => by
        rw [List.mem_append] at ht
        rcases ht with ht | ht
        · exact HL.out.2 t ht
        · simp at ht; subst ht; exact HGD.out⟩⟩
    · obtain ⟨n0, hn0⟩ : ∃ n0, n0 = wlen (s.drop k) := ⟨_, rfl⟩
      have hz : n0 = 0 := by omega
      have HTL0 : Hid (tokLen (s.drop k) = if Lib.hasPrefix (s.drop k) [33, 61] then 2 else 1) := Lib.hid (by
        unfold tokLen; rw [if_neg hwl]
        rw [show min 1 (s.drop k).length = 1 from by rw [List.length_drop]; omega])
      have HWB : Hid (isWb c = false) := Lib.hid (by
        obtain ⟨h1, h2, h3⟩ := HD.out
        rw [h1] at hwl
        unfold wlen at hwl
        rw [List.takeWhile_cons] at hwl
        cases hb : isWb c with
        | false => rfl
        | true => rw [hb] at hwl; simp at hwl)
      rw [← hn0]
      subst hz
      clear hn0 hwl
      by_cases h33 : m = 33
      · subst h33
        by_cases hk1 : k + 1 < s.length
        · have hm1 : ((⟨s.toArray⟩ : ByteArray)[k + 1]'hk1).toNat = s[k + 1].toNat := rfl
          have hdr1 : s.drop (k + 1) = s[k + 1] :: s.drop (k + 2) := List.drop_eq_getElem_cons hk1
          have hm1256 : s[k + 1].toNat < 256 := s[k + 1].toNat_lt
          generalize hc1 : s[k + 1] = c1 at hdr1 hm1 hm1256
          generalize hmm1 : c1.toNat = m1 at hm1 hm1256
          have HD1 := Lib.hid (And.intro hdr1 hmm1)
          clear hdr1 hc1 hmm1
          by_cases h61 : m1 = 61
          · subst h61
            have HTL : Hid (tokLen (s.drop k) = 2) := Lib.hid (by obtain ⟨h1, h2, h3⟩ := HD.out; rw [HTL0.out, h1, HD1.out.1, u8_eq h3 (by omega), u8_eq HD1.out.2 (by omega)]; rfl)
            have hkn : k + 2 ≤ s.length := by have := tokLen_le (s.drop k); rw [HTL.out, List.length_drop] at this; omega
            have hext : (⟨s.toArray⟩ : ByteArray).extract k (k + 2) = ⟨((s.drop k).take 2).toArray⟩ := ext_mid k 2
            have HGD : Hid (tokGood ((s.drop k).take 2) = true) := Lib.hid (by obtain ⟨h1, h2, h3⟩ := HD.out; rw [h1, HD1.out.1, u8_eq h3 (by omega), u8_eq HD1.out.2 (by omega)]; simp; decide)
            have HLX2 : Hid (lex (s.drop k) = (s.drop k).take 2 :: lex (s.drop (k + 2))) := Lib.hid (by rw [HLX.out, HTL.out, List.drop_drop])
            generalize (s.drop k).take 2 = tok at *
            go_wp2_with (first | (at_builtin; refine wpList_append_own _ rfl (.tmp 89) (.tmp 96) 41 rfl w.heap.size 9 i9 (.string ⟨#[]⟩) 1 16 Tryd.underlying41 hi9 hz9 hs9 hy9 rfl (by decide) _ _ _ rfl (hown.alloc _) ⟨wr.heap.size, 0, none⟩ 1 1 [sV tok] rfl rfl (cell_one_new _ _ _) (fun u hu => by simp at hu; subst hu; rfl) (by unfold maxLen; omega) (by omega) (by simp; omega) ?_; intro v' w5 hown5 hgrow5 hnil5))
            go_roundg (s.length - (k + 2))
            case measure => have := HG.out; omega
            case rel => exact ⟨k + 2, L ++ [tok], hkn, rfl, by go_num, below_grown (below_all hb (below_alloc _ _)) hgrow5 (by simp; omega) (own_row hown), by rw [List.map_append, List.length_append]; exact hown5, by simp; omega, Lib.hid ⟨by rw [← HL.out.1, HLX2.out]; simp, fun t ht => by
              rw [List.mem_append] at ht
              rcases ht with ht | ht
              · exact HL.out.2 t ht
              · simp at ht; subst ht; exact HGD.out⟩⟩
          · have h61b : ((m1 : Int) == 61) = false := by rw [beq_eq_false_iff_ne]; omega
            have HTL : Hid (tokLen (s.drop k) = 1) := Lib.hid (by obtain ⟨h1, h2, h3⟩ := HD.out; rw [HTL0.out, h1, HD1.out.1]; rw [if_neg (by unfold Lib.hasPrefix; simp [List.isPrefixOf]; intro _ e; apply h61; rw [← HD1.out.2, ← e]; rfl)])
            have hkn : k + 1 ≤ s.length := by have := tokLen_le (s.drop k); rw [HTL.out, List.length_drop] at this; omega
            have hext : (⟨s.toArray⟩ : ByteArray).extract k (k + 1) = ⟨((s.drop k).take 1).toArray⟩ := ext_mid k 1
            have HGD : Hid (tokGood ((s.drop k).take 1) = true) := Lib.hid (by obtain ⟨h1, h2, h3⟩ := HD.out; rw [h1, u8_eq h3 (by omega)]; simp; decide)
            have HLX2 : Hid (lex (s.drop k) = (s.drop k).take 1 :: lex (s.drop (k + 1))) := Lib.hid (by rw [HLX.out, HTL.out, List.drop_drop])
            generalize (s.drop k).take 1 = tok at *
            go_wp2_with (first | (at_builtin; refine wpList_append_own _ rfl (.tmp 89) (.tmp 96) 41 rfl w.heap.size 9 i9 (.string ⟨#[]⟩) 1 16 Tryd.underlying41 hi9 hz9 hs9 hy9 rfl (by decide) _ _ _ rfl (hown.alloc _) ⟨wr.heap.size, 0, none⟩ 1 1 [sV tok] rfl rfl (cell_one_new _ _ _) (fun u hu => by simp at hu; subst hu; rfl) (by unfold maxLen; omega) (by omega) (by simp; omega) ?_; intro v' w5 hown5 hgrow5 hnil5))
            go_roundg (s.length - (k + 1))
            case measure => have := HG.out; omega
            case rel => exact ⟨k + 1, L ++ [tok], hkn, rfl, by go_num, below_grown (below_all hb (below_alloc _ _)) hgrow5 (by simp; omega) (own_row hown), by rw [List.map_append, List.length_append]; exact hown5, by simp; omega, Lib.hid ⟨by rw [← HL.out.1, HLX2.out]; simp, fun t ht => by
              rw [List.mem_append] at ht
              rcases ht with ht | ht
              · exact HL.out.2 t ht
              · simp at ht; subst ht; exact HGD.out⟩⟩
        · have hk1' : ¬ ((k : Int) + 1 < s.length) := by omega
          have HTL : Hid (tokLen (s.drop k) = 1) := Lib.hid (by obtain ⟨h1, h2, h3⟩ := HD.out; rw [HTL0.out, h1, List.drop_eq_nil_of_le (by omega)]; rw [if_neg (by unfold Lib.hasPrefix; simp [List.isPrefixOf])])
          have hkn : k + 1 ≤ s.length := by have := tokLen_le (s.drop k); rw [HTL.out, List.length_drop] at this; omega
          have hext : (⟨s.toArray⟩ : ByteArray).extract k (k + 1) = ⟨((s.drop k).take 1).toArray⟩ := ext_mid k 1
          have HGD : Hid (tokGood ((s.drop k).take 1) = true) := Lib.hid (by obtain ⟨h1, h2, h3⟩ := HD.out; rw [h1, u8_eq h3 (by omega)]; simp; decide)
          have HLX2 : Hid (lex (s.drop k) = (s.drop k).take 1 :: lex (s.drop (k + 1))) := Lib.hid (by rw [HLX.out, HTL.out, List.drop_drop])
          generalize (s.drop k).take 1 = tok at *
          go_wp2_with (first | (at_builtin; refine wpList_append_own _ rfl (.tmp 89) (.tmp 96) 41 rfl w.heap.size 9 i9 (.string ⟨#[]⟩) 1 16 Tryd.underlying41 hi9 hz9 hs9 hy9 rfl (by decide) _ _ _ rfl (hown.alloc _) ⟨wr.heap.size, 0, none⟩ 1 1 [sV tok] rfl rfl (cell_one_new _ _ _) (fun u hu => by simp at hu; subst hu; rfl) (by unfold maxLen; omega) (by omega) (by simp; omega) ?_; intro v' w5 hown5 hgrow5 hnil5))
          go_roundg (s.length - (k + 1))
          case measure => have := HG.out; omega
          case rel => exact ⟨k + 1, L ++ [tok], hkn, rfl, by go_num, below_grown (below_all hb (below_alloc _ _)) hgrow5 (by simp; omega) (own_row hown), by rw [List.map_append, List.length_append]; exact hown5, by simp; omega, Lib.hid ⟨by rw [← HL.out.1, HLX2.out]; simp, fun t ht => by
            rw [List.mem_append] at ht
            rcases ht with ht | ht
            · exact HL.out.2 t ht
            · simp at ht; subst ht; exact HGD.out⟩⟩
      have h33b : ((m : Int) == 33) = false := by rw [beq_eq_false_iff_ne]; omega
      have HTL1 : Hid (tokLen (s.drop k) = 1) := Lib.hid (by
        obtain ⟨h1, h2, h3⟩ := HD.out
        rw [HTL0.out, h1, if_neg (by unfold Lib.hasPrefix; simp [List.isPrefixOf]; intro e; exact absurd (by rw [← h3, ← e]; rfl) h33)])
      by_cases hk1 : k + 1 < s.length
      case neg =>
        have hk1' : ¬ ((k : Int) + 1 < s.length) := by omega
        by_cases h40 : m = 40
        · subst h40
          have HTL : Hid (tokLen (s.drop k) = 1) := Lib.hid (HTL1.out)
          have hkn : k + 1 ≤ s.length := by have := tokLen_le (s.drop k); rw [HTL.out, List.length_drop] at this; omega
          have hext : (⟨s.toArray⟩ : ByteArray).extract k (k + 1) = ⟨((s.drop k).take 1).toArray⟩ := ext_mid k 1
          have HGD : Hid (tokGood ((s.drop k).take 1) = true) := Lib.hid (by obtain ⟨h1, h2, h3⟩ := HD.out; rw [h1, u8_eq h3 (by omega)]; simp; decide)
          have HLX2 : Hid (lex (s.drop k) = (s.drop k).take 1 :: lex (s.drop (k + 1))) := Lib.hid (by rw [HLX.out, HTL.out, List.drop_drop])
          generalize (s.drop k).take 1 = tok at *
          go_wp2_with (first | (at_builtin; refine wpList_append_own _ rfl (.tmp 89) (.tmp 96) 41 rfl w.heap.size 9 i9 (.string ⟨#[]⟩) 1 16 Tryd.underlying41 hi9 hz9 hs9 hy9 rfl (by decide) _ _ _ rfl (hown.alloc _) ⟨wr.heap.size, 0, none⟩ 1 1 [sV tok] rfl rfl (cell_one_new _ _ _) (fun u hu => by simp at hu; subst hu; rfl) (by unfold maxLen; omega) (by omega) (by simp; omega) ?_; intro v' w5 hown5 hgrow5 hnil5))
          go_roundg (s.length - (k + 1))
          case measure => have := HG.out; omega
          case rel => exact ⟨k + 1, L ++ [tok], hkn, rfl, by go_num, below_grown (below_all hb (below_alloc _ _)) hgrow5 (by simp; omega) (own_row hown), by rw [List.map_append, List.length_append]; exact hown5, by simp; omega, Lib.hid ⟨by rw [← HL.out.1, HLX2.out]; simp, fun t ht => by
            rw [List.mem_append] at ht
            rcases ht with ht | ht
            · exact HL.out.2 t ht
            · simp at ht; subst ht; exact HGD.out⟩⟩
        have h40b : ((m : Int) == 40) = false := by rw [beq_eq_false_iff_ne]; omega
        by_cases h41 : m = 41
        · subst h41
          have HTL : Hid (tokLen (s.drop k) = 1) := Lib.hid (HTL1.out)
          have hkn : k + 1 ≤ s.length := by have := tokLen_le (s.drop k); rw [HTL.out, List.length_drop] at this; omega
          have hext : (⟨s.toArray⟩ : ByteArray).extract k (k + 1) = ⟨((s.drop k).take 1).toArray⟩ := ext_mid k 1
          have HGD : Hid (tokGood ((s.drop k).take 1) = true) := Lib.hid (by obtain ⟨h1, h2, h3⟩ := HD.out; rw [h1, u8_eq h3 (by omega)]; simp; decide)
          have HLX2 : Hid (lex (s.drop k) = (s.drop k).take 1 :: lex (s.drop (k + 1))) := Lib.hid (by rw [HLX.out, HTL.out, List.drop_drop])
          generalize (s.drop k).take 1 = tok at *
          go_wp2_with (first | (at_builtin; refine wpList_append_own _ rfl (.tmp 89) (.tmp 96) 41 rfl w.heap.size 9 i9 (.string ⟨#[]⟩) 1 16 Tryd.underlying41 hi9 hz9 hs9 hy9 rfl (by decide) _ _ _ rfl (hown.alloc _) ⟨wr.heap.size, 0, none⟩ 1 1 [sV tok] rfl rfl (cell_one_new _ _ _) (fun u hu => by simp at hu; subst hu; rfl) (by unfold maxLen; omega) (by omega) (by simp; omega) ?_; intro v' w5 hown5 hgrow5 hnil5))
          go_roundg (s.length - (k + 1))
          case measure => have := HG.out; omega
          case rel => exact ⟨k + 1, L ++ [tok], hkn, rfl, by go_num, below_grown (below_all hb (below_alloc _ _)) hgrow5 (by simp; omega) (own_row hown), by rw [List.map_append, List.length_append]; exact hown5, by simp; omega, Lib.hid ⟨by rw [← HL.out.1, HLX2.out]; simp, fun t ht => by
            rw [List.mem_append] at ht
            rcases ht with ht | ht
            · exact HL.out.2 t ht
            · simp at ht; subst ht; exact HGD.out⟩⟩
        have h41b : ((m : Int) == 41) = false := by rw [beq_eq_false_iff_ne]; omega
        by_cases h44 : m = 44
        · subst h44
          have HTL : Hid (tokLen (s.drop k) = 1) := Lib.hid (HTL1.out)
          have hkn : k + 1 ≤ s.length := by have := tokLen_le (s.drop k); rw [HTL.out, List.length_drop] at this; omega
          have hext : (⟨s.toArray⟩ : ByteArray).extract k (k + 1) = ⟨((s.drop k).take 1).toArray⟩ := ext_mid k 1
          have HGD : Hid (tokGood ((s.drop k).take 1) = true) := Lib.hid (by obtain ⟨h1, h2, h3⟩ := HD.out; rw [h1, u8_eq h3 (by omega)]; simp; decide)
          have HLX2 : Hid (lex (s.drop k) = (s.drop k).take 1 :: lex (s.drop (k + 1))) := Lib.hid (by rw [HLX.out, HTL.out, List.drop_drop])
          generalize (s.drop k).take 1 = tok at *
          go_wp2_with (first | (at_builtin; refine wpList_append_own _ rfl (.tmp 89) (.tmp 96) 41 rfl w.heap.size 9 i9 (.string ⟨#[]⟩) 1 16 Tryd.underlying41 hi9 hz9 hs9 hy9 rfl (by decide) _ _ _ rfl (hown.alloc _) ⟨wr.heap.size, 0, none⟩ 1 1 [sV tok] rfl rfl (cell_one_new _ _ _) (fun u hu => by simp at hu; subst hu; rfl) (by unfold maxLen; omega) (by omega) (by simp; omega) ?_; intro v' w5 hown5 hgrow5 hnil5))
          go_roundg (s.length - (k + 1))
          case measure => have := HG.out; omega
          case rel => exact ⟨k + 1, L ++ [tok], hkn, rfl, by go_num, below_grown (below_all hb (below_alloc _ _)) hgrow5 (by simp; omega) (own_row hown), by rw [List.map_append, List.length_append]; exact hown5, by simp; omega, Lib.hid ⟨by rw [← HL.out.1, HLX2.out]; simp, fun t ht => by
            rw [List.mem_append] at ht
            rcases ht with ht | ht
            · exact HL.out.2 t ht
            · simp at ht; subst ht; exact HGD.out⟩⟩
        have h44b : ((m : Int) == 44) = false := by rw [beq_eq_false_iff_ne]; omega
        by_cases h61 : m = 61
        · subst h61
          have HTL : Hid (tokLen (s.drop k) = 1) := Lib.hid (HTL1.out)
          have hkn : k + 1 ≤ s.length := by have := tokLen_le (s.drop k); rw [HTL.out, List.length_drop] at this; omega
          have hext : (⟨s.toArray⟩ : ByteArray).extract k (k + 1) = ⟨((s.drop k).take 1).toArray⟩ := ext_mid k 1
          have HGD : Hid (tokGood ((s.drop k).take 1) = true) := Lib.hid (by obtain ⟨h1, h2, h3⟩ := HD.out; rw [h1, u8_eq h3 (by omega)]; simp; decide)
          have HLX2 : Hid (lex (s.drop k) = (s.drop k).take 1 :: lex (s.drop (k + 1))) := Lib.hid (by rw [HLX.out, HTL.out, List.drop_drop])
          generalize (s.drop k).take 1 = tok at *
          go_wp2_with (first | (at_builtin; refine wpList_append_own _ rfl (.tmp 89) (.tmp 96) 41 rfl w.heap.size 9 i9 (.string ⟨#[]⟩) 1 16 Tryd.underlying41 hi9 hz9 hs9 hy9 rfl (by decide) _ _ _ rfl (hown.alloc _) ⟨wr.heap.size, 0, none⟩ 1 1 [sV tok] rfl rfl (cell_one_new _ _ _) (fun u hu => by simp at hu; subst hu; rfl) (by unfold maxLen; omega) (by omega) (by simp; omega) ?_; intro v' w5 hown5 hgrow5 hnil5))
          go_roundg (s.length - (k + 1))
          case measure => have := HG.out; omega
          case rel => exact ⟨k + 1, L ++ [tok], hkn, rfl, by go_num, below_grown (below_all hb (below_alloc _ _)) hgrow5 (by simp; omega) (own_row hown), by rw [List.map_append, List.length_append]; exact hown5, by simp; omega, Lib.hid ⟨by rw [← HL.out.1, HLX2.out]; simp, fun t ht => by
            rw [List.mem_append] at ht
            rcases ht with ht | ht
            · exact HL.out.2 t ht
            · simp at ht; subst ht; exact HGD.out⟩⟩
        have h61b : ((m : Int) == 61) = false := by rw [beq_eq_false_iff_ne]; omega
        have HBAD : Hid ((lex s).all tokGood = false) := Lib.hid (by
          obtain ⟨h1, h2, h3⟩ := HD.out
          rw [← HL.out.1, HLX.out, HTL1.out, List.all_append, List.all_cons, h1]
          have hw : isWord [c] = false := HWB.out
          have hne : ∀ q : Nat, q < 256 → ¬ m = q → ¬ c = UInt8.ofNat q := fun q hq hn e => hn (by rw [← h3, e, UInt8.toNat_ofNat']; omega)
          have hp : punct [c] = false := by
            unfold punct
            have e1 := hne 40 (by omega) h40
            have e2 := hne 41 (by omega) h41
            have e3 := hne 44 (by omega) h44
            have e4 := hne 33 (by omega) h33
            have e5 := hne 61 (by omega) h61
            simp at e1 e2 e3 e4 e5
            simp [e1, e2, e3, e4, e5]
          simp [tokGood, hw, hp])
        go_wp2
        go_ret2
        exact ⟨hb, ⟨(fun h => by rw [HBAD.out] at h; cases h), fun _ => rfl⟩⟩
      case pos =>
        by_cases h40 : m = 40
        · subst h40
          have HTL : Hid (tokLen (s.drop k) = 1) := Lib.hid (HTL1.out)
          have hkn : k + 1 ≤ s.length := by have := tokLen_le (s.drop k); rw [HTL.out, List.length_drop] at this; omega
          have hext : (⟨s.toArray⟩ : ByteArray).extract k (k + 1) = ⟨((s.drop k).take 1).toArray⟩ := ext_mid k 1
          have HGD : Hid (tokGood ((s.drop k).take 1) = true) := Lib.hid (by obtain ⟨h1, h2, h3⟩ := HD.out; rw [h1, u8_eq h3 (by omega)]; simp; decide)
          have HLX2 : Hid (lex (s.drop k) = (s.drop k).take 1 :: lex (s.drop (k + 1))) := Lib.hid (by rw [HLX.out, HTL.out, List.drop_drop])
          generalize (s.drop k).take 1 = tok at *
          go_wp2_with (first | (at_builtin; refine wpList_append_own _ rfl (.tmp 89) (.tmp 96) 41 rfl w.heap.size 9 i9 (.string ⟨#[]⟩) 1 16 Tryd.underlying41 hi9 hz9 hs9 hy9 rfl (by decide) _ _ _ rfl (hown.alloc _) ⟨wr.heap.size, 0, none⟩ 1 1 [sV tok] rfl rfl (cell_one_new _ _ _) (fun u hu => by simp at hu; subst hu; rfl) (by unfold maxLen; omega) (by omega) (by simp; omega) ?_; intro v' w5 hown5 hgrow5 hnil5))
          go_roundg (s.length - (k + 1))
          case measure => have := HG.out; omega
          case rel => exact ⟨k + 1, L ++ [tok], hkn, rfl, by go_num, below_grown (below_all hb (below_alloc _ _)) hgrow5 (by simp; omega) (own_row hown), by rw [List.map_append, List.length_append]; exact hown5, by simp; omega, Lib.hid ⟨by rw [← HL.out.1, HLX2.out]; simp, fun t ht => by
            rw [List.mem_append] at ht
            rcases ht with ht | ht
            · exact HL.out.2 t ht
            · simp at ht; subst ht; exact HGD.out⟩⟩
        have h40b : ((m : Int) == 40) = false := by rw [beq_eq_false_iff_ne]; omega
        by_cases h41 : m = 41
        · subst h41
          have HTL : Hid (tokLen (s.drop k) = 1) := Lib.hid (HTL1.out)
          have hkn : k + 1 ≤ s.length := by have := tokLen_le (s.drop k); rw [HTL.out, List.length_drop] at this; omega
          have hext : (⟨s.toArray⟩ : ByteArray).extract k (k + 1) = ⟨((s.drop k).take 1).toArray⟩ := ext_mid k 1
          have HGD : Hid (tokGood ((s.drop k).take 1) = true) := Lib.hid (by obtain ⟨h1, h2, h3⟩ := HD.out; rw [h1, u8_eq h3 (by omega)]; simp; decide)
          have HLX2 : Hid (lex (s.drop k) = (s.drop k).take 1 :: lex (s.drop (k + 1))) := Lib.hid (by rw [HLX.out, HTL.out, List.drop_drop])
          generalize (s.drop k).take 1 = tok at *
          go_wp2_with (first | (at_builtin; refine wpList_append_own _ rfl (.tmp 89) (.tmp 96) 41 rfl w.heap.size 9 i9 (.string ⟨#[]⟩) 1 16 Tryd.underlying41 hi9 hz9 hs9 hy9 rfl (by decide) _ _ _ rfl (hown.alloc _) ⟨wr.heap.size, 0, none⟩ 1 1 [sV tok] rfl rfl (cell_one_new _ _ _) (fun u hu => by simp at hu; subst hu; rfl) (by unfold maxLen; omega) (by omega) (by simp; omega) ?_; intro v' w5 hown5 hgrow5 hnil5))
          go_roundg (s.length - (k + 1))
          case measure => have := HG.out; omega
          case rel => exact ⟨k + 1, L ++ [tok], hkn, rfl, by go_num, below_grown (below_all hb (below_alloc _ _)) hgrow5 (by simp; omega) (own_row hown), by rw [List.map_append, List.length_append]; exact hown5, by simp; omega, Lib.hid ⟨by rw [← HL.out.1, HLX2.out]; simp, fun t ht => by
            rw [List.mem_append] at ht
            rcases ht with ht | ht
            · exact HL.out.2 t ht
            · simp at ht; subst ht; exact HGD.out⟩⟩
        have h41b : ((m : Int) == 41) = false := by rw [beq_eq_false_iff_ne]; omega
        by_cases h44 : m = 44
        · subst h44
          have HTL : Hid (tokLen (s.drop k) = 1) := Lib.hid (HTL1.out)
          have hkn : k + 1 ≤ s.length := by have := tokLen_le (s.drop k); rw [HTL.out, List.length_drop] at this; omega
          have hext : (⟨s.toArray⟩ : ByteArray).extract k (k + 1) = ⟨((s.drop k).take 1).toArray⟩ := ext_mid k 1
          have HGD : Hid (tokGood ((s.drop k).take 1) = true) := Lib.hid (by obtain ⟨h1, h2, h3⟩ := HD.out; rw [h1, u8_eq h3 (by omega)]; simp; decide)
          have HLX2 : Hid (lex (s.drop k) = (s.drop k).take 1 :: lex (s.drop (k + 1))) := Lib.hid (by rw [HLX.out, HTL.out, List.drop_drop])
          generalize (s.drop k).take 1 = tok at *
          go_wp2_with (first | (at_builtin; refine wpList_append_own _ rfl (.tmp 89) (.tmp 96) 41 rfl w.heap.size 9 i9 (.string ⟨#[]⟩) 1 16 Tryd.underlying41 hi9 hz9 hs9 hy9 rfl (by decide) _ _ _ rfl (hown.alloc _) ⟨wr.heap.size, 0, none⟩ 1 1 [sV tok] rfl rfl (cell_one_new _ _ _) (fun u hu => by simp at hu; subst hu; rfl) (by unfold maxLen; omega) (by omega) (by simp; omega) ?_; intro v' w5 hown5 hgrow5 hnil5))
          go_roundg (s.length - (k + 1))
          case measure => have := HG.out; omega
          case rel => exact ⟨k + 1, L ++ [tok], hkn, rfl, by go_num, below_grown (below_all hb (below_alloc _ _)) hgrow5 (by simp; omega) (own_row hown), by rw [List.map_append, List.length_append]; exact hown5, by simp; omega, Lib.hid ⟨by rw [← HL.out.1, HLX2.out]; simp, fun t ht => by
            rw [List.mem_append] at ht
            rcases ht with ht | ht
            · exact HL.out.2 t ht
            · simp at ht; subst ht; exact HGD.out⟩⟩
        have h44b : ((m : Int) == 44) = false := by rw [beq_eq_false_iff_ne]; omega
        by_cases h61 : m = 61
        · subst h61
          have HTL : Hid (tokLen (s.drop k) = 1) := Lib.hid (HTL1.out)
          have hkn : k + 1 ≤ s.length := by have := tokLen_le (s.drop k); rw [HTL.out, List.length_drop] at this; omega
          have hext : (⟨s.toArray⟩ : ByteArray).extract k (k + 1) = ⟨((s.drop k).take 1).toArray⟩ := ext_mid k 1
          have HGD : Hid (tokGood ((s.drop k).take 1) = true) := Lib.hid (by obtain ⟨h1, h2, h3⟩ := HD.out; rw [h1, u8_eq h3 (by omega)]; simp; decide)
          have HLX2 : Hid (lex (s.drop k) = (s.drop k).take 1 :: lex (s.drop (k + 1))) := Lib.hid (by rw [HLX.out, HTL.out, List.drop_drop])
          generalize (s.drop k).take 1 = tok at *
          go_wp2_with (first | (at_builtin; refine wpList_append_own _ rfl (.tmp 89) (.tmp 96) 41 rfl w.heap.size 9 i9 (.string ⟨#[]⟩) 1 16 Tryd.underlying41 hi9 hz9 hs9 hy9 rfl (by decide) _ _ _ rfl (hown.alloc _) ⟨wr.heap.size, 0, none⟩ 1 1 [sV tok] rfl rfl (cell_one_new _ _ _) (fun u hu => by simp at hu; subst hu; rfl) (by unfold maxLen; omega) (by omega) (by simp; omega) ?_; intro v' w5 hown5 hgrow5 hnil5))
          go_roundg (s.length - (k + 1))
          case measure => have := HG.out; omega
          case rel => exact ⟨k + 1, L ++ [tok], hkn, rfl, by go_num, below_grown (below_all hb (below_alloc _ _)) hgrow5 (by simp; omega) (own_row hown), by rw [List.map_append, List.length_append]; exact hown5, by simp; omega, Lib.hid ⟨by rw [← HL.out.1, HLX2.out]; simp, fun t ht => by
            rw [List.mem_append] at ht
            rcases ht with ht | ht
            · exact HL.out.2 t ht
            · simp at ht; subst ht; exact HGD.out⟩⟩
        have h61b : ((m : Int) == 61) = false := by rw [beq_eq_false_iff_ne]; omega
        have HBAD : Hid ((lex s).all tokGood = false) := Lib.hid (by
          obtain ⟨h1, h2, h3⟩ := HD.out
          rw [← HL.out.1, HLX.out, HTL1.out, List.all_append, List.all_cons, h1]
          have hw : isWord [c] = false := HWB.out
          have hne : ∀ q : Nat, q < 256 → ¬ m = q → ¬ c = UInt8.ofNat q := fun q hq hn e => hn (by rw [← h3, e, UInt8.toNat_ofNat']; omega)
          have hp : punct [c] = false := by
            unfold punct
            have e1 := hne 40 (by omega) h40
            have e2 := hne 41 (by omega) h41
            have e3 := hne 44 (by omega) h44
            have e4 := hne 33 (by omega) h33
            have e5 := hne 61 (by omega) h61
            simp at e1 e2 e3 e4 e5
            simp [e1, e2, e3, e4, e5]
          simp [tokGood, hw, hp])
        go_wp2
        go_ret2
        exact ⟨hb, ⟨(fun h => by rw [HBAD.out] at h; cases h), fun _ => rfl⟩⟩
end Go.Proofs.YtfohhokdcobhjaaDoor
namespace Go.Proofs.YtfohhokdcobhjaaDoor

/-- S is S' behind good tokens -/
def Suff (S S' : List Str) : Prop := ∃ pre, S = pre ++ S' ∧ ∀ t ∈ pre, tokGood t = true
theorem Suff.refl (S : List Str) : Suff S S := ⟨[], rfl, by simp⟩
theorem Suff.trans {S S' S'' : List Str} (h : Suff S S') (k : Suff S' S'') : Suff S S'' := by
  obtain ⟨p, rfl, hp⟩ := h
  obtain ⟨q, rfl, hq⟩ := k
  exact ⟨p ++ q, by simp, fun t ht => by rcases List.mem_append.1 ht with h | h; exact hp t h; exact hq t h⟩
theorem suff_tail {S : List Str} {t : Str} (h : hd S = t) (hne : t ≠ []) (hg : tokGood t = true) : Suff S S.tail := by
  cases S with
  | nil => exact absurd h.symm hne
  | cons a S => exact ⟨[a], rfl, fun x hx => by simp at hx; subst hx; rw [hd_cons] at h; rw [h]; exact hg⟩
theorem suff_word {S : List Str} (h : isWord (hd S) = true) : Suff S S.tail := suff_tail rfl (word_ne h) (by unfold tokGood; rw [h]; rfl)
theorem suff_wRest (S : List Str) : Suff S (wRest S) := by
  unfold wRest; split
  · rename_i h; exact suff_word h
  · exact Suff.refl S
theorem suff_vloop : ∀ (n : Nat) (S : List Str), S.length ≤ n → Suff S (vloop S).2 := by
  intro n
  induction n with
  | zero => intro S h; have : S = [] := List.length_eq_zero_iff.1 (by omega); subst this; rw [vloop_no (by decide)]; exact Suff.refl _
  | succ n ih =>
    intro S h
    by_cases hc : hd S = [44]
    · rw [vloop_yes hc]
      have h1 := suff_tail hc (by decide) (by decide)
      have hl : (wRest S.tail).length ≤ n := by
        have := wRest_len S.tail
        cases S with
        | nil => simp [hd] at hc
        | cons a S => simp at *; omega
      exact (h1.trans (suff_wRest _)).trans (ih _ hl)
    · rw [vloop_no hc]; exact Suff.refl S
theorem suff_pList {S : List Str} {p : List Str × List Str} (h : pList S = some p) : Suff S p.2 := by
  unfold pList at h
  split at h
  · rename_i h40
    split at h
    · rename_i h41
      cases h
      exact (((suff_tail h40 (by decide) (by decide)).trans (suff_wRest _)).trans (suff_vloop _ _ (Nat.le_refl _))).trans (suff_tail h41 (by decide) (by decide))
    · cases h
  · cases h
theorem suff_bang (S : List Str) : Suff S (bang S) := by
  unfold bang; split
  · rename_i h; exact suff_tail h (by decide) (by decide)
  · exact Suff.refl S
theorem suff_pReq {S : List Str} {p : Req × List Str} (h : pReq S = some p) : Suff S p.2 := by
  unfold pReq at h
  split at h
  · cases h
  · rename_i hw
    have hw' : isWord (hd (bang S)) = true := by simpa using hw
    have h0 := (suff_bang S).trans (suff_word hw')
    split at h
    · cases h; exact h0
    · split at h
      · rename_i h1; cases h; exact (h0.trans (suff_tail h1 (by decide) (by decide))).trans (suff_wRest _)
      · split at h
        · rename_i h1; cases h; exact (h0.trans (suff_tail h1 (by decide) (by decide))).trans (suff_wRest _)
        · split at h
          · rename_i h1
            cases hp : pList (bang S).tail.tail with
            | none => rw [hp] at h; cases h
            | some q => rw [hp] at h; cases h; exact (h0.trans (suff_tail h1 (by decide) (by decide))).trans (suff_pList hp)
          · split at h
            · rename_i h1
              cases hp : pList (bang S).tail.tail with
              | none => rw [hp] at h; cases h
              | some q => rw [hp] at h; cases h; exact (h0.trans (suff_tail h1 (by decide) (by decide))).trans (suff_pList hp)
            · cases h; exact h0
theorem suff_pSelF : ∀ (n : Nat) (S : List Str) (s : List Req), pSelF n S = some s → Suff S [] := by
  intro n
  induction n with
  | zero => intro S s h; cases h
  | succ n ih =>
    intro S s h
    unfold pSelF at h
    cases hp : pReq S with
    | none => rw [hp] at h; cases h
    | some p =>
      obtain ⟨r, S'⟩ := p
      rw [hp] at h
      simp only at h
      have h0 : Suff S S' := suff_pReq hp
      split at h
      · rename_i h1; rw [h1] at h0; exact h0
      · split at h
        · rename_i h1
          cases hq : pSelF n S'.tail with
          | none => rw [hq] at h; cases h
          | some q => exact (h0.trans (suff_tail h1 (by decide) (by decide))).trans (ih _ _ hq)
        · cases h
/-- a text with a bad token is no selector -/
theorem readT_bad {text : Str} (h : (lex text).all tokGood = false) : readT text = none := by
  unfold readT
  split
  · rename_i h0; rw [h0] at h; cases h
  · cases hp : pSel (lex text) with
    | none => rfl
    | some s =>
      obtain ⟨pre, he, hg⟩ := suff_pSelF _ _ _ hp
      rw [he, List.append_nil, List.all_eq_true.2 hg] at h
      cases h
end Go.Proofs.YtfohhokdcobhjaaDoor
namespace Go.Proofs.YtfohhokdcobhjaaDoor
open Go.RowKit Go.Sort Go.Proofs.LawFrame

theorem own_kept' {w w' : World} {b : Nat} {row : Option Nat} {cs : List Value} {t : TypeId} (h : Own w b cs t) (hg : w.grownBy w' row) (hne : ¬ row = some b) : Own w' b cs t := by
  unfold Own; rw [hg.block b h.lt (fun e => hne e.symm)]; exact h
theorem drop_cons {l : List Str} {i : Nat} {t : Str} (h : l[i]? = some t) : l.drop i = t :: l.drop (i + 1) := by
  obtain ⟨hi, rfl⟩ := List.getElem?_eq_some_iff.1 h
  exact List.drop_eq_getElem_cons hi

set_option maxRecDepth 4000 in
set_option maxHeartbeats 8000000 in
theorem rparse_any (text : Str) (w : World) (hl : text.length ≤ 9223372036854775807) :
    Calls Tryd.prog 25 #[sV text] w fun e w' => ∃ sv, e = .returned (.tuple #[sv, .int .i64 (parseE text)]) ∧ Reqs w' sv (parseS text) ∧ Below w.heap.size w w' := by
  by_cases h0 : 20000 < text.length
  · have HP := Lib.hid (parse_long h0)
    go_enter Tryd.func25, Tryd.ntmps25
    go_wp2
    go_ret2
    exact ⟨.slice none 0 0, by rw [HP.out.1]; rfl, by rw [HP.out.2]; exact reqs_nil _, Below.refl _ _⟩
  obtain ⟨i43, hi43, hzi43, hsi43, hyi43⟩ := info_parts info43
  have CT := Lib.hid (tokens_any text w (by omega))
  cases hall : (lex text).all tokGood
  · have HP := Lib.hid (parse_syn h0 (readT_bad hall))
    go_enter Tryd.func25, Tryd.ntmps25
    go_wp2_with fail
    refine CT.out.mono ?_
    rintro e W1 ⟨b1, hT⟩
    obtain rfl := hT.bad hall
    clear CT hall hT
    go_wp2
    go_ret2
    exact ⟨.slice none 0 0, by rw [HP.out.1]; rfl, by rw [HP.out.2]; exact reqs_nil _, b1⟩
  have hll := lex_len _ text (Nat.le_refl _)
  have HRT : Hid (readT text = if lex text = [] then some [] else pSel (lex text)) := Lib.hid rfl
  go_enter Tryd.func25, Tryd.ntmps25
  go_wp2_with fail
  refine CT.out.mono ?_
  rintro e W1 ⟨b1, hT⟩
  obtain ⟨v', rfl, hS⟩ := hT.good hall
  clear CT hall hT
  generalize lex text = l at *
  obtain ⟨ao, cap, rfl, hlc, hcap, -⟩ := hS.out
  unfold maxLen at hcap
  go_wp2
  go_loopg [6, 7] (l.length + 1) (fun g p i wr => ∃ (k : Nat) (acc : List Req) (cs : List RC), k ≤ l.length + 1 ∧ g = l.length + 1 - k ∧ i = .int .i64 k ∧ acc.length ≤ k ∧ Below W1.heap.size W1 wr ∧ AccK W1.heap.size p wr cs acc ∧ wr.ownsRow W1.heap.size 43 3 p cs.length (cs.flatMap RC.cells) ∧ Hid ((if k < l.length then (pSel (l.drop k)).map (acc ++ ·) else some acc) = readT text))
  case atStart => exact ⟨0, [], [], by omega, rfl, rfl, Nat.le_refl _, Below.refl _ _, AccK.nil _ _ _, own_nil _ _ _ _, Lib.hid (by
    rw [HRT.out]
    cases l with
    | nil => rfl
    | cons a l => simp)⟩
  case round =>
    obtain ⟨k, acc, cs, hk, hg, rfl, hak, hb, hA, hown, HS⟩ := hrel
    have HG := Lib.hid hg
    clear hg
    have hclen := hA.len
    by_cases hlt : k < l.length
    case neg =>
      have HRS : Hid (readT text = some acc) := Lib.hid (by rw [← HS.out, if_neg hlt])
      have hR : Reqs wr u6 acc := hA.reqs hown hclen
      have bF := below_all b1 hb
      have hge : ¬ (k : Int) < l.length := by omega
      clear hS hown hA HS
      clear HG hlt
      generalize wr = W9 at *
      obtain ⟨ao9, cap9, hu9, hlc9, hcap9⟩ := hR.slice
      subst hu9
      unfold maxLen at hcap9
      have HB := Lib.hid (readT_bd (by omega) HRS.out)
      have HE := Lib.hid (fun h3 => parse_err h0 HRS.out h3)
      have HM := Lib.hid (fun h3 h4 => parse_many h0 HRS.out h3 h4)
      have HO := Lib.hid (fun h3 h4 => parse_good h0 HRS.out h3 h4)
      go_wp2
      go_loopg [9] acc.length (fun g i wr => ∃ k : Nat, k ≤ acc.length ∧ g = acc.length - k ∧ i = .int .i64 k ∧ Hid (PreA (fun r => decide (errOf r = 0)) acc k) ∧ Below W9.heap.size W9 wr)
      case atStart => exact ⟨0, Nat.zero_le _, rfl, rfl, Lib.hid (PreA.zero _), Below.refl _ _⟩
      case round =>
        obtain ⟨k, hk, hg, rfl, HC, hb⟩ := hrel
        have HG := Lib.hid hg
        clear hg
        by_cases hlt : k < acc.length
        · have hx := get_some hlt
          generalize acc[k] = x at hx
          have hxb : RBd x := HB.out x (List.mem_of_getElem? hx)
          obtain ⟨b, off, c, rfl, hi, c0, c1, c2⟩ := hR.at hb hx
          have hvs := hi.vals
          have HX := Lib.hid hx
          clear hx hi
          have CC := Lib.hid (wrong_any c.ao c.n c.cap x _ hvs hxb)
          by_cases he : errOf x = 0
          · rw [he] at CC
            go_wp2_with fail
            refine CC.out.mono ?_
            rintro e W2 ⟨rfl, b2⟩
            have b3 := below_all hb b2
            go_wp2
            go_roundg (acc.length - (k + 1))
            case measure => have := HG.out; omega
            case rel => exact ⟨k + 1, by omega, rfl, by go_num, Lib.hid (HC.out.succ HX.out (decide_eq_true he)), b3⟩
          · have HF := Lib.hid (firstErr_at HC.out HX.out he)
            have HP := Lib.hid (HE.out (by rw [HF.out]; exact he))
            have hne : (errOf x == 0) = false := by simpa using he
            have hne2 : (errOf x != 0) = true := by simpa using he
            go_wp2_with fail
            refine CC.out.mono ?_
            rintro e W2 ⟨rfl, b2⟩
            have b3 := below_all bF (below_all hb b2)
            go_wp2
            go_ret2
            exact ⟨.slice none 0 0, by rw [HP.out.1, HF.out]; rfl, by rw [HP.out.2]; exact reqs_nil _, b3⟩
        · obtain rfl : k = acc.length := by omega
          have HZ := Lib.hid (firstErr_zero HC.out)
          have bG := below_all bF hb
          have hRf := hR.all hb
          by_cases h16 : 16 < acc.length
          · have HP := Lib.hid (HM.out HZ.out h16)
            go_wp2
            go_ret2
            exact ⟨.slice none 0 0, by rw [HP.out.1]; rfl, by rw [HP.out.2]; exact reqs_nil _, bG⟩
          · have HP := Lib.hid (HO.out HZ.out h16)
            go_wp2
            go_ret2
            exact ⟨_, by rw [HP.out.1]; rfl, by rw [HP.out.2]; exact hRf, bG⟩
    have CR := Lib.hid (rone_any _ l k wr (hS.all hb) (by omega) hlt)
    cases hq : pReq (l.drop k) with
    | none =>
      have HNN : Hid (readT text = none) := Lib.hid (by rw [← HS.out, if_pos hlt, pSel_none hq]; rfl)
      go_wp2_with fail
      refine CR.out.mono ?_
      rintro e W2 ⟨b2, hG⟩
      obtain rfl := hG.bad hq
      have bEnd := below_all (below_all b1 (below_all hb b2)) (below_alloc W2 (.cells #[sV [], .int .i64 0, .slice none 0 0, .int .i64 0, .bool true] 61))
      clear hG hq CR
      have HP := Lib.hid (parse_syn h0 HNN.out)
      go_wp2
      go_ret2
      exact ⟨.slice none 0 0, by rw [HP.out.1]; rfl, by rw [HP.out.2]; exact reqs_nil _, bEnd⟩
    | some p =>
      obtain ⟨r, rest⟩ := p
      have HLT := Lib.hid (pReq_lt hq)
      have H1 := Lib.hid (fun h1 => pSel_last hq h1)
      have H2 := Lib.hid (fun h1 h2 => pSel_more hq h1 h2)
      have H3 := Lib.hid (fun h1 h2 => pSel_bad hq h1 h2)
      go_wp2_with fail
      refine CR.out.mono ?_
      rintro e W2 ⟨b2, hG⟩
      obtain ⟨v3, I, rfl, hst, hhi, hdrop, hIl⟩ := hG.good r rest hq
      clear hG hq CR
      obtain ⟨ao3, cap3, hv3, hlc3, hcap3, -⟩ := hst.out
      obtain ⟨n3, hn3⟩ : ∃ n3, n3 = r.vals.length := ⟨_, rfl⟩
      rw [← hn3] at hv3
      subst hv3
      have hri : RIs W2 ⟨r.key, r.op, ao3, n3, cap3⟩ r := ⟨rfl, rfl, hst⟩
      have hpl : ∀ b, u6.ownBlock = some b → b < wr.heap.size := fun b h => (hown.lt b h).2
      have hpb : ∀ b, u6.ownBlock = some b → W1.heap.size ≤ b := fun b h => (hown.lt b h).1
      have hs1 := hb.size
      have hs2 := b2.size
      have hA2 := (hA.below b2).snoc hri (fun hn b hb' => ⟨by have := hhi b hb'; omega, flat_lt hst (by rw [← hn3]; exact hn) b hb', fun e => by have := hhi b hb'; have := hpl b e; omega⟩)
      have ho2 := own_below hown b2
      have bb2 := below_all hb b2
      rw [← hn3] at hlc3
      have HN3 := Lib.hid hn3
      clear hown hA hb b2 hst hhi hn3
      have o6 := Own.new W2 [sV r.key, .int .i64 r.op, .slice ao3 n3 cap3, .int .i64 (I : Int), .bool false] 61
      have b3 := below_alloc W2 (.cells #[sV r.key, .int .i64 r.op, .slice ao3 n3 cap3, .int .i64 (I : Int), .bool false] 61)
      have hA3 := hA2.below b3
      have ho3 := own_below ho2 b3
      have bb3 := below_all bb2 b3
      have hs3 := b3.size
      go_upto_region 12 with (fail)
      generalize W2.alloc (.cells #[sV r.key, .int .i64 r.op, .slice ao3 n3 cap3, .int .i64 (I : Int), .bool false] 61) = W3 at *
      have e0 := o6.cell (i := 0) rfl
      have e1 := o6.cell (i := 1) rfl
      have e2 := o6.cell (i := 2) rfl
      clear hA2 ho2 bb2 b3
      have hcl2 : (cs ++ [(⟨r.key, r.op, ao3, n3, cap3⟩ : RC)]).length = cs.length + 1 := by simp
      go_upto_region 13 with (at_builtin; refine wpList_append_lies _ rfl (.tmp 30) (.tmp 33) 23 rfl W1.heap.size 43 i43 (.agg #[.string ⟨#[]⟩, .int .i64 0, .slice none 0 0]) 3 48 Tryd.underlying23 hi43 hzi43 hsi43 hyi43 rfl (by decide) _ _ _ rfl (ho3.alloc _) ⟨W3.heap.size, 0, none⟩ 1 1 [sV r.key, .int .i64 r.op, .slice ao3 n3 cap3] rfl rfl (cell_triple_new _ _ _ _ _) (fun u hu => by simp at hu; rcases hu with rfl | rfl | rfl <;> rfl) (by decide) (by unfold maxLen; omega) (by omega) (by simp; omega) _ rfl ?_; intro gg gcap W5 hown5 hgrow5 hlies hglt)
      have g5 : (W3.alloc (.cells #[sV r.key, .int .i64 r.op, .slice ao3 n3 cap3] 43)).grownBy W5 u6.ownBlock := hgrow5
      have l5 : u6.ownBlock = some gg ∨ gg = (W3.alloc (.cells #[sV r.key, .int .i64 r.op, .slice ao3 n3 cap3] 43)).heap.size := hlies
      have b4 := below_alloc W3 (.cells #[sV r.key, .int .i64 r.op, .slice ao3 n3 cap3] 43)
      have hA5 := AccK.append (n := acc.length + 1) (cap := gcap) (hA3.below b4) g5 l5
      have o65 := own_kept' (o6.alloc (.cells #[sV r.key, .int .i64 r.op, .slice ao3 n3 cap3] 43)) g5 (fun e => by have := hpl _ e; omega)
      have bb5 : Below W1.heap.size W1 W5 := below_grown (below_all bb3 b4) g5 (by have := bb3.size; simp; omega) (fun k h => hpb k h)
      have ho5 : W5.ownsRow W1.heap.size 43 3 (.slice (some ⟨gg, 0, none⟩) (acc.length + 1) gcap) (cs ++ [(⟨r.key, r.op, ao3, n3, cap3⟩ : RC)]).length ((cs ++ [(⟨r.key, r.op, ao3, n3, cap3⟩ : RC)]).flatMap RC.cells) := by
        rw [flatMap_snoc, List.length_append, ← hclen]; exact hown5
      have hal : (acc ++ [r]).length = acc.length + 1 := by simp
      have x3 := o65.cell (i := 3) rfl
      have hkI : k < I := by
        have h1 : rest.length < (l.drop k).length := HLT.out
        rw [← hdrop, List.length_drop, List.length_drop] at h1
        omega
      have HAL := Lib.hid hal
      have HF := Lib.hid (And.intro hA5 (And.intro bb5 ho5))
      have HD := Lib.hid hdrop
      clear hgrow5 hlies g5 l5 b4 hA3 bb3 ho3 e0 e1 e2 hown5 o6 o65 hcl2 hal HLT hdrop hA5 ho5
      by_cases hI : I = l.length
      · have HE : Hid (rest = []) := Lib.hid (by rw [← HD.out, hI]; simp)
        have HN : Hid ((if I + 1 < l.length then (pSel (l.drop (I + 1))).map ((acc ++ [r]) ++ ·) else some (acc ++ [r])) = readT text) := Lib.hid (by
          rw [if_neg (by omega), ← HS.out, if_pos hlt, H1.out HE.out]; rfl)
        subst hI
        have hf1 : decide (((l.length : Nat) : Int) < ((l.length : Nat) : Int)) = false := by simp
        go_wp2
        go_roundg (l.length + 1 - (l.length + 1))
        case measure => have := HG.out; omega
        case rel => exact ⟨l.length + 1, acc ++ [r], cs ++ [(⟨r.key, r.op, ao3, n3, cap3⟩ : RC)], by omega, rfl, by go_num, by rw [HAL.out]; omega, HF.out.2.1, HF.out.1, HF.out.2.2, HN⟩
      · have hIl' : I < l.length := by omega
        have hx := get_some hIl'
        generalize l[I] = t at hx
        obtain ⟨bt, offt, rfl, xt⟩ := hS.at bb5 hx
        have HHD : Hid (hd rest = t ∧ ¬ rest = [] ∧ rest.tail = l.drop (I + 1)) := Lib.hid (by
          rw [← HD.out, drop_cons hx]; exact ⟨rfl, by simp, rfl⟩)
        clear hx
        cases h44 : (t == [44])
        · have HNN : Hid (readT text = none) := Lib.hid (by rw [← HS.out, if_pos hlt, H3.out HHD.out.2.1 (by rw [HHD.out.1]; simpa using h44)]; rfl)
          have bEnd := below_all b1 bb5
          clear hI
          have HP := Lib.hid (parse_syn h0 HNN.out)
          go_wp2
          go_ret2
          exact ⟨.slice none 0 0, by rw [HP.out.1]; rfl, by rw [HP.out.2]; exact reqs_nil _, bEnd⟩
        · have H44 : Hid (hd rest = [44]) := Lib.hid (by rw [HHD.out.1]; simpa using h44)
          have HPS : Hid (pSel (l.drop k) = (pSel (l.drop (I + 1))).map (r :: ·)) := Lib.hid (by rw [H2.out HHD.out.2.1 H44.out, HHD.out.2.2])
          by_cases hI2 : I + 1 = l.length
          · have HNN : Hid (readT text = none) := Lib.hid (by
              rw [← HS.out, if_pos hlt, HPS.out, hI2, List.drop_eq_nil_of_le (Nat.le_refl _)]; rfl)
            have bEnd := below_all b1 bb5
            have hz : ((I : Int) + 1 == (l.length : Int)) = true := by rw [beq_iff_eq]; omega
            clear hI hI2
            have HP := Lib.hid (parse_syn h0 HNN.out)
            go_wp2
            go_ret2
            exact ⟨.slice none 0 0, by rw [HP.out.1]; rfl, by rw [HP.out.2]; exact reqs_nil _, bEnd⟩
          · have HN : Hid ((if I + 1 < l.length then (pSel (l.drop (I + 1))).map ((acc ++ [r]) ++ ·) else some (acc ++ [r])) = readT text) := Lib.hid (by
              rw [if_pos (by omega), ← HS.out, if_pos hlt, HPS.out, map_map_app])
            have hz : ((I : Int) + 1 == (l.length : Int)) = false := by rw [beq_eq_false_iff_ne]; omega
            clear hI
            go_wp2
            go_roundg (l.length + 1 - (I + 1))
            case measure => have := HG.out; omega
            case rel => exact ⟨I + 1, acc ++ [r], cs ++ [(⟨r.key, r.op, ao3, n3, cap3⟩ : RC)], by omega, rfl, by go_num, by rw [HAL.out]; omega, HF.out.2.1, HF.out.1, HF.out.2.2, HN⟩
end Go.Proofs.YtfohhokdcobhjaaDoor
namespace Go.Proofs.YtfohhokdcobhjaaDoor
open Go.RowKit Go.Sort Go.Proofs.LawFrame

set_option maxRecDepth 4000 in
set_option maxHeartbeats 4000000 in
theorem parses_walk (t : Str) (w : World) (hl : t.length ≤ 9223372036854775807) :
    Calls Tryd.prog 6 #[sV t] w fun e w' => e = .returned (.bool true) ∧ Below w.heap.size w w' := by
  by_cases h1 : 2000 < t.length
  · by_cases h2 : t.length ≤ 20000
    · skip
      go_enter Tryd.func6, Tryd.ntmps6
      go_wp2_with fail
      refine (lives_any w).mono ?_
      rintro e W2 ⟨rfl, b2⟩
      go_wp2
      go_ret
      exact ⟨rfl, b2⟩
    · by_cases h3 : 20100 < t.length
      · skip
        go_enter Tryd.func6, Tryd.ntmps6
        go_wp2_with fail
        refine (lives_any w).mono ?_
        rintro e W2 ⟨rfl, b2⟩
        go_wp2
        go_ret
        exact ⟨rfl, b2⟩
      · skip
        have C1 := Lib.hid (parse_any t w hl)
        have C2 := Lib.hid (fun W => rparse_any t W hl)
        go_enter Tryd.func6, Tryd.ntmps6
        go_wp2_with fail
        refine C1.out.mono ?_
        rintro e W1 ⟨sv, rfl, hR1, b1⟩
        go_wp2_with fail
        refine (C2.out W1).mono ?_
        rintro e W2 ⟨sv2, rfl, hR2, b2⟩
        have hR1' := hR1.all b2
        have b12 := below_all b1 b2
        clear C1 C2 hR1
        generalize parseE t = E at *
        generalize parseS t = S at *
        go_wp2_with fail
        refine (sameSelector_any sv sv2 S W2 hR1' hR2).mono ?_
        rintro e W3 ⟨rfl, b3⟩
        have b13 := below_all b12 b3
        go_wp2_with fail
        refine (lives_any W3).mono ?_
        rintro e W6 ⟨rfl, b6⟩
        go_wp2
        go_ret
        exact ⟨rfl, below_all b13 b6⟩
  · have h3 : ¬ 20100 < t.length := by omega
    have C1 := Lib.hid (parse_any t w hl)
    have C2 := Lib.hid (fun W => rparse_any t W hl)
    go_enter Tryd.func6, Tryd.ntmps6
    go_wp2_with fail
    refine C1.out.mono ?_
    rintro e W1 ⟨sv, rfl, hR1, b1⟩
    go_wp2_with fail
    refine (C2.out W1).mono ?_
    rintro e W2 ⟨sv2, rfl, hR2, b2⟩
    have hR1' := hR1.all b2
    have b12 := below_all b1 b2
    clear C1 C2 hR1
    generalize parseE t = E at *
    generalize parseS t = S at *
    go_wp2_with fail
    refine (sameSelector_any sv sv2 S W2 hR1' hR2).mono ?_
    rintro e W3 ⟨rfl, b3⟩
    have b13 := below_all b12 b3
    go_wp2_with fail
    refine (lives_any W3).mono ?_
    rintro e W6 ⟨rfl, b6⟩
    go_wp2
    go_ret
    exact ⟨rfl, below_all b13 b6⟩
end Go.Proofs.YtfohhokdcobhjaaDoor
