/- A byte that begins a value; names; a field of a name among others. Is there a field of that name; names. -/
import Derived.Test.YtjpmnlefjmdelaaGreatDoorKgJ
import Derived.Lib.Bytealg
set_option linter.unusedSimpArgs false
set_option linter.unusedVariables false
namespace Go.Proofs.YtjpmnlefjmdelaaGreatDoor
open Go.RowKit Go.Sort Go.Proofs.LawFrame

set_option maxHeartbeats 1000000 in
set_option maxRecDepth 100000 in
theorem indexByteS_any (l : Str) (c : UInt8) (w : World) : Calls Tryz.prog 192 #[sV l, .int .u8 c.toNat] w fun e w' => e = .returned (.int .i64 (Lib.indexByte l c)) ∧ w = w' := by
  go_enter Tryz.func192, Tryz.ntmps192
  go_wp2
  rw [run_callFunc_extern Tryz.func208 (by kernel_rfl) (by kernel_rfl) (by kernel_rfl) (e := Extern.BytealgIndexByte.indexByte) (by kernel_rfl), Lib.run_indexByteString]
  simp only [Result.andThen]
  rw [Oper.upon_value]
  go_wp2
  go_ret
  exact ⟨by simp, rfl⟩
set_option maxHeartbeats 1000000 in
set_option maxRecDepth 4000 in
theorem indexByte_any (l : Str) (c : UInt8) (w : World) : Calls Tryz.prog 166 #[sV l, .int .u8 c.toNat] w fun e w' => e = .returned (.int .i64 (Lib.indexByte l c)) ∧ w = w' := by
  go_enter Tryz.func166, Tryz.ntmps166
  go_wp2_with fail
  refine (indexByteS_any l c w).mono ?_
  rintro e w' ⟨rfl, rfl⟩
  go_wp2
  go_ret
  exact ⟨rfl, rfl⟩
theorem bgn_eq (c : UInt8) : (dig c || decide (0 ≤ Lib.indexByte [45, 110, 116, 102, 34, 91, 123] c)) = bgn c := by
  have h : ∀ n : Fin 256, (dig (UInt8.ofNat n) || decide (0 ≤ Lib.indexByte [45, 110, 116, 102, 34, 91, 123] (UInt8.ofNat n))) = bgn (UInt8.ofNat n) := by decide +kernel
  have := h ⟨c.toNat, c.toNat_lt⟩
  simpa using this
set_option maxHeartbeats 1000000 in
set_option maxRecDepth 4000 in
theorem beginsValue_any (c : UInt8) (w : World) : Calls Tryz.prog 132 #[.int .u8 c.toNat] w fun e w' => e = .returned (.bool (bgn c)) ∧ w = w' := by
  go_enter Tryz.func132, Tryz.ntmps132
  go_wp2_with fail
  refine (isDigit_any c w).mono ?_
  rintro e w' ⟨rfl, rfl⟩
  cases hd : dig c
  · go_wp2_with fail
    refine (indexByte_any [45, 110, 116, 102, 34, 91, 123] c w).mono ?_
    rintro e w' ⟨rfl, rfl⟩
    go_wp2
    go_ret
    exact ⟨by rw [← bgn_eq, hd, Bool.false_or]; rfl, rfl⟩
  · go_wp2
    go_ret
    exact ⟨by rw [← bgn_eq, hd]; rfl, rfl⟩

/-- the first field that p holds of -/
def ixF (p : FC → Bool) (cs : List FC) : Int := match cs.findIdx? p with
  | some i => i
  | none => -1
theorem ixF_at {p : FC → Bool} {cs : List FC} {k : Nat} {x : FC} (h : ∀ j y, j < k → cs[j]? = some y → p y = false) (hx : cs[k]? = some x) (hp : p x = true) : ixF p cs = k := by
  unfold ixF
  have hk := (List.getElem?_eq_some_iff.1 hx).1
  have : cs.findIdx? p = some k := by
    rw [List.findIdx?_eq_some_iff_getElem]
    refine ⟨hk, ?_, fun j hj => ?_⟩
    · rw [(List.getElem?_eq_some_iff.1 hx).2]; exact hp
    · rw [h j _ hj (List.getElem?_eq_getElem (by omega))]; simp
  rw [this]
theorem ixF_none {p : FC → Bool} {cs : List FC} (h : ∀ j y, j < cs.length → cs[j]? = some y → p y = false) : ixF p cs = -1 := by
  unfold ixF
  have : cs.findIdx? p = none := by
    rw [List.findIdx?_eq_none_iff]
    intro x hx
    obtain ⟨j, hj, rfl⟩ := List.getElem_of_mem hx
    exact h j _ hj (List.getElem?_eq_getElem hj)
  rw [this]
set_option maxHeartbeats 2000000 in
set_option maxRecDepth 4000 in
theorem indexFuncF_any (F : Nat) (cap : Value) (p : FC → Bool) (v : Value) (cs : List FC) (w : World) (hv : Flat w v cs.length (cs.flatMap FC.cells)) (hn : cs.length ≤ 4000)
    (hcf : ∀ args w1, (callFunc F args).run Tryz.prog w1 = .ok (.enter F args) w1)
    (hf : ∀ (x : FC) (w1 : World), Below w.heap.size w w1 → Calls Tryz.prog F #[.agg #[sV x.x, .int .i64 x.v.k, .int .i64 x.v.n, sV x.v.s, .slice x.v.la x.v.ln x.v.lc, .slice x.v.fa x.v.fn x.v.fc], cap] w1 fun e w' => e = .returned (.bool (p x)) ∧ Below w1.heap.size w1 w') :
    Calls Tryz.prog 155 #[v, .func (.func F) #[] #[cap]] w fun e w' => e = .returned (.int .i64 (ixF p cs)) ∧ Below w.heap.size w w' := by
  obtain ⟨ao, cp, rfl, hlc, hlm, hr⟩ := hv.out
  unfold maxLen at hlm
  have HF := Lib.hid hf
  clear hf hv
  go_enter Tryz.func155, Tryz.ntmps155
  go_wp2
  go_loopg [8] cs.length (fun g i wr => ∃ k : Nat, k ≤ cs.length ∧ g = cs.length - k ∧ i = .int .i64 k ∧ Below w.heap.size w wr ∧ Hid (∀ j y, j < k → cs[j]? = some y → p y = false))
  case atStart => exact ⟨0, Nat.zero_le _, rfl, rfl, Below.refl _ _, Lib.hid (fun j y h => absurd h (by omega))⟩
  case round =>
    obtain ⟨k, hk, hg, rfl, hb, HN⟩ := hrel
    have HG := Lib.hid hg
    clear hg
    by_cases hlt : k < cs.length
    · have hx := get_some hlt
      generalize cs[k] = x at hx
      obtain ⟨b, off, rfl, hbl, hcell⟩ := hr (by omega)
      have hcc : ∀ j u, x.cells[j]? = some u → wr.cell? ⟨b, off + k * 6 + j, none⟩ = some u := fun j u hxj => by
        have hj : j < 6 := (List.getElem?_eq_some_iff.1 hxj).1
        rw [hb.cell (p := ⟨b, off + k * 6 + j, none⟩) hbl, Nat.add_assoc]
        exact hcell (k * 6 + j) u (by rw [flat_get FC.cells (m := 6) (fun _ => rfl) cs k j x hx hj]; exact hxj)
      have q : wr.cell? ⟨b, off + k * 6, none⟩ = some (sV x.x) := hcc 0 _ rfl
      have q0 : wr.cell? ⟨b, off + k * 6 + 1, none⟩ = some (.int .i64 x.v.k) := hcc 1 _ rfl
      have q1 : wr.cell? ⟨b, off + k * 6 + 2, none⟩ = some (.int .i64 x.v.n) := hcc 2 _ rfl
      have q2 : wr.cell? ⟨b, off + k * 6 + 3, none⟩ = some (sV x.v.s) := hcc 3 _ rfl
      have q3 : wr.cell? ⟨b, off + k * 6 + 4, none⟩ = some (.slice x.v.la x.v.ln x.v.lc) := hcc 4 _ rfl
      have q4 : wr.cell? ⟨b, off + k * 6 + 5, none⟩ = some (.slice x.v.fa x.v.fn x.v.fc) := hcc 5 _ rfl
      have HX := Lib.hid hx
      have HB := Lib.hid hb
      clear hcc hx hcell hb hr
      have C := Lib.hid (HF.out x wr HB.out)
      go_wp2_with fail
      clear q q0 q1 q2 q3 q4
      refine C.out.mono ?_
      rintro e w2 ⟨rfl, hb2⟩
      have HB2 := Lib.hid (below_all HB.out hb2)
      clear hb2 HB C
      cases hp : p x
      · go_wp2
        go_roundg (cs.length - (k + 1))
        case measure => have := HG.out; omega
        case rel => exact ⟨k + 1, by omega, rfl, by go_num, HB2.out, Lib.hid (fun j y hj hy => by
          rcases Nat.lt_or_ge j k with h | h
          · exact HN.out j y h hy
          · obtain rfl : j = k := by omega
            rw [HX.out] at hy; cases hy; exact hp)⟩
      · go_wp2
        go_ret
        exact ⟨by rw [ixF_at HN.out HX.out hp]; rfl, HB2.out⟩
    · obtain rfl : k = cs.length := by omega
      have HB := Lib.hid hb
      clear hb hr
      go_wp2
      go_ret
      exact ⟨by rw [ixF_none HN.out]; rfl, HB.out⟩
end Go.Proofs.YtjpmnlefjmdelaaGreatDoor
namespace Go.Proofs.YtjpmnlefjmdelaaGreatDoor
open Go.RowKit Go.Sort Go.Proofs.LawFrame

theorem fieldEq_any (x : FC) (nm : Str) (nb : Nat) (w : World) (o : w.cell? ⟨nb, 0, none⟩ = some (sV nm)) : Calls Tryz.prog 195 #[.agg #[sV x.x, .int .i64 x.v.k, .int .i64 x.v.n, sV x.v.s, .slice x.v.la x.v.ln x.v.lc, .slice x.v.fa x.v.fn x.v.fc], .pointer (some ⟨nb, 0, none⟩)] w fun e w' => e = .returned (.bool (x.x == nm)) ∧ Below w.heap.size w w' := by
  have hb := below_alloc w (.cells #[sV x.x, .int .i64 x.v.k, .int .i64 x.v.n, sV x.v.s, .slice x.v.la x.v.ln x.v.lc, .slice x.v.fa x.v.fn x.v.fc] 58)
  have oN := Own.new w [sV x.x, .int .i64 x.v.k, .int .i64 x.v.n, sV x.v.s, .slice x.v.la x.v.ln x.v.lc, .slice x.v.fa x.v.fn x.v.fc] 58
  have o' : (w.alloc (.cells #[sV x.x, .int .i64 x.v.k, .int .i64 x.v.n, sV x.v.s, .slice x.v.la x.v.ln x.v.lc, .slice x.v.fa x.v.fn x.v.fc] 58)).cell? ⟨nb, 0, none⟩ = some (sV nm) := by rw [hb.cell (p := ⟨nb, 0, none⟩) (World.block_lt_of_cell? w _ o)]; exact o
  have a0 := oN.cell (i := 0) rfl
  clear o oN
  go_enter Tryz.func195, Tryz.ntmps195
  go_upto_region 1 with (fail)
  change Code.wp Tryz.prog _ _ _ (w.alloc (.cells #[sV x.x, .int .i64 x.v.k, .int .i64 x.v.n, sV x.v.s, .slice x.v.la x.v.ln x.v.lc, .slice x.v.fa x.v.fn x.v.fc] 58))
  generalize w.alloc (.cells #[sV x.x, .int .i64 x.v.k, .int .i64 x.v.n, sV x.v.s, .slice x.v.la x.v.ln x.v.lc, .slice x.v.fa x.v.fn x.v.fc] 58) = V at *
  have HB := Lib.hid hb
  clear hb
  go_wp2
  go_ret
  exact ⟨by simp, HB.out⟩
theorem ixF_mem (nm : Str) (cs : List FC) : decide (0 ≤ ixF (fun x => x.x == nm) cs) = decide (nm ∈ cs.map (·.x)) := by
  rw [decide_eq_decide]
  unfold ixF
  cases h : cs.findIdx? (fun x => x.x == nm) with
  | none =>
    rw [List.findIdx?_eq_none_iff] at h
    simp only [List.mem_map]
    constructor
    · intro h0; omega
    · rintro ⟨x, hx, rfl⟩; have := h x hx; simp at this
  | some i =>
    rw [List.findIdx?_eq_some_iff_getElem] at h
    obtain ⟨hi, h1, -⟩ := h
    simp only [List.mem_map]
    constructor
    · intro _; exact ⟨cs[i], List.getElem_mem hi, by simpa using h1⟩
    · intro _; omega
set_option maxHeartbeats 1000000 in
theorem containsF_any (nm : Str) (nb : Nat) (v : Value) (cs : List FC) (w : World) (hv : Flat w v cs.length (cs.flatMap FC.cells)) (hn : cs.length ≤ 4000) (o : w.cell? ⟨nb, 0, none⟩ = some (sV nm)) :
    Calls Tryz.prog 194 #[v, .func (.func 195) #[] #[.pointer (some ⟨nb, 0, none⟩)]] w fun e w' => e = .returned (.bool (decide (nm ∈ cs.map (·.x)))) ∧ Below w.heap.size w w' := by
  have hnl := World.block_lt_of_cell? w _ o
  have C := Lib.hid (indexFuncF_any 195 (.pointer (some ⟨nb, 0, none⟩)) (fun x => x.x == nm) v cs w hv hn (fun args w1 => by kernel_rfl) (fun x w1 hb => fieldEq_any x nm nb w1 (by rw [hb.cell (p := ⟨nb, 0, none⟩) hnl]; exact o)))
  obtain ⟨ao, cp, rfl, -, -, -⟩ := hv.out
  clear hv o
  rw [← ixF_mem]
  go_enter Tryz.func194, Tryz.ntmps194
  go_wp2_with fail
  refine C.out.mono ?_
  rintro e w2 ⟨rfl, hb2⟩
  clear C
  go_wp2
  go_ret
  exact ⟨rfl, hb2⟩

theorem ext_mid {l : Str} (k n : Nat) : (⟨l.toArray⟩ : ByteArray).extract k (k + n) = ⟨((l.drop k).take n).toArray⟩ := by
  apply ByteArray.ext; rw [ByteArray.data_extract]; simp [List.drop_take]
theorem nameR_next {r : Str} {k : Nat} {c : UInt8} {r2 : Str} (h : nameR 0 r = prepR (r.take k) (nameR k (c :: r2))) (hr : r.drop k = c :: r2) (hq : ¬ (c.toNat = 34 ∧ ¬ k = 0)) (hn : nmByte c = true) (hk : ¬ k = 40) : nameR 0 r = prepR (r.take (k + 1)) (nameR (k + 1) r2) := by
  rw [h, nameR, if_neg hq, hn, if_neg (by simp), if_neg hk]
  have ht : r.take (k + 1) = r.take k ++ [c] := by
    obtain ⟨hlt, hc, -, -⟩ := drop_byte hr
    rw [List.take_succ_eq_append_getElem hlt, hc]
  rw [ht]
  cases nameR (k + 1) r2 with
  | er a b => rfl
  | ok p => obtain ⟨l, x⟩ := p; simp [prepR]

set_option maxHeartbeats 4000000 in
set_option maxRecDepth 4000 in
theorem readName_any {pb : Nat} {s r : Str} {n : Int} {w : World} (hl : s.length ≤ 20000) {c0 : UInt8} (hc0 : c0.toNat = 34) (st : St pb s (c0 :: r) n w) :
    Calls Tryz.prog 193 #[.pointer (some ⟨pb, 0, none⟩)] w (Res pb s w (nameR 0 r) (fun p w' v => v = sV p.1 ∧ St pb s p.2 n w')) := by
  have hpb := st.lt
  have C := Lib.hid (readByte_any hl (c := 34) (ci := 34) rfl st)
  have hc34 : c0 = 34 := UInt8.toNat_inj.1 hc0
  have hR0 : byteR 34 (c0 :: r) = .ok r := by simp [byteR, hc34]
  have HR0 := Lib.hid hR0
  clear st hc0 hc34 hR0
  go_enter Tryz.func193, Tryz.ntmps193
  go_wp2_with fail
  refine C.out.mono ?_
  rintro e w1 hres
  obtain ⟨v, rfl, rfl, st⟩ := hres.ok _ HR0.out
  obtain ⟨i1, hi1, hd1, o1⟩ := st.out
  have HS := Lib.hid (And.intro hres.but o1)
  have c1 := o1.cell (i := 1) rfl
  have HD1 := Lib.hid hd1
  clear hres st C HR0 hd1 o1
  go_wp2
  clear c1
  go_loopg [] r.length (fun g wr => ∃ (k j : Nat) (r' : Str), Hid (j = i1 + k) ∧ g = r'.length ∧ k ≤ 40 ∧ j ≤ s.length ∧ s.drop j = r' ∧ But pb w wr ∧ Own wr pb [sV s, .int .i64 (j : Int), .int .i64 n] 72 ∧ Hid (r.drop k = r') ∧ Hid (nameR 0 r = prepR (r.take k) (nameR k r')))
  case atStart => exact ⟨0, i1, r, Lib.hid rfl, rfl, by omega, hi1, HD1.out, HS.out.1, HS.out.2, Lib.hid rfl, Lib.hid (by simp [prepR_nil])⟩
  case round =>
    obtain ⟨k, j, r', HJ, hg, hk40, hj, hd, hb, o, HRD, HE⟩ := hrel
    have HG := Lib.hid hg
    clear hg HS
    have c1 := o.cell (i := 1) rfl
    have HST := Lib.hid (And.intro hb (St.mk ⟨j, hj, hd, o⟩))
    have HD := Lib.hid hd
    clear hd hb o
    have hstep : ∀ (c : UInt8) (r2 : Str) (wq : World), r' = c :: r2 → ¬ (c.toNat = 34 ∧ ¬ k = 0) → True := fun _ _ _ _ _ => trivial
    clear hstep
    cases r' with
    | nil =>
      rcases Nat.eq_zero_or_pos k with hk | hk
      · have q : (j : Int) = (i1 : Int) := by have := HJ.out; omega
        go_wp2_with fail
        refine (peek_no hl HST.out.2).mono ?_
        rintro e w2 ⟨rfl, hb2⟩
        go_wp2
        exact ⟨rfl, Res.mkEr (k := 0) (c := 3) (by rw [HE.out]; rfl) (HST.out.1.all hb2)⟩
      · have q : ((j : Int) == (i1 : Int)) = false := by rw [beq_eq_false_iff_ne]; have := HJ.out; omega
        have q' : ¬ (j : Int) = (i1 : Int) := by have := HJ.out; omega
        go_wp2_with fail
        refine (peek_no hl HST.out.2).mono ?_
        rintro e w2 ⟨rfl, hb2⟩
        go_wp2
        exact ⟨rfl, Res.mkEr (k := 0) (c := 3) (by rw [HE.out]; rfl) (HST.out.1.all hb2)⟩
    | cons c r2 =>
      by_cases hend : c.toNat = 34 ∧ ¬ k = 0
      · have q : ((j : Int) == (i1 : Int)) = false := by rw [beq_eq_false_iff_ne]; have := HJ.out; omega
        have q' : ¬ (j : Int) = (i1 : Int) := by have := HJ.out; omega
        have q34 : (c.toNat : Int) = 34 := by omega
        have HEND := Lib.hid hend
        clear hend
        go_wp2_with fail
        refine (peek_ok hl HST.out.2).mono ?_
        rintro e w2 ⟨rfl, hb2⟩
        obtain ⟨j', hj', hd', o2⟩ := (HST.out.2.all hb2).out
        obtain rfl : j' = j := by
          have h1 := congrArg List.length hd'
          have h2 := congrArg List.length HD.out
          rw [List.length_drop] at h1 h2
          simp only [List.length_cons] at h1 h2
          omega
        have HB2 := Lib.hid (And.intro (HST.out.1.all hb2) (And.intro o2 hd'))
        clear hb2 o2 hd' c1 HST
        have b0 := HB2.out.2.1.cell (i := 0) rfl
        have b1 := HB2.out.2.1.cell (i := 1) rfl
        have hle : i1 ≤ j' := by have := HJ.out; omega
        go_upto_region 9 with (fail)
        go_region
        clear b0 b1
        have C := Lib.hid (readByte_any hl (c := 34) (ci := 34) rfl (St.mk (pb := pb) ⟨j', hj, HB2.out.2.2, HB2.out.2.1.drew⟩))
        have HR : Hid (byteR 34 (c :: r2) = .ok r2) := Lib.hid (by simp [byteR, show c = 34 from UInt8.toNat_inj.1 HEND.out.1])
        have HX : Hid ((⟨s.toArray⟩ : ByteArray).extract i1 j' = ⟨(r.take k).toArray⟩) := Lib.hid (by rw [HJ.out, ext_mid, HD1.out])
        have HF : Hid (nameR 0 r = .ok (r.take k, r2)) := Lib.hid (by rw [HE.out, nameR, if_pos HEND.out]; simp [prepR])
        go_wp2_with fail
        refine C.out.mono ?_
        rintro e w3 hres
        obtain ⟨v, rfl, rfl, st⟩ := hres.ok _ HR.out
        have HS := Lib.hid (And.intro ((HB2.out.1.drew).trans hres.but) st)
        clear hres st C HR
        go_wp2
        go_ret
        exact Res.mkOk (b := (r.take k, r2)) HF.out HS.out.1 ⟨by show Value.string _ = _; rw [HX.out], HS.out.2⟩
      · have C0 : Hid (∀ wq : World, But pb w wq → St pb s (c :: r2) n wq → Calls Tryz.prog 164 #[.pointer (some ⟨pb, 0, none⟩)] wq fun e w' => e = .returned (.int .u8 c.toNat) ∧ Below wq.heap.size wq w') := Lib.hid (fun wq _ st => peek_ok hl st)
        have HNE := Lib.hid hend
        rcases Nat.eq_zero_or_pos k with hk0 | hk0
        · have q : (j : Int) = (i1 : Int) := by have := HJ.out; omega
          have HB := Lib.hid (And.intro HST.out.1 HST.out.2)
          clear HST C0 hend
          go_wp2_with fail
          refine (peek_ok hl HB.out.2).mono ?_
          rintro e w5 ⟨rfl, hb5⟩
          have HB5 := Lib.hid (And.intro (HB.out.1.all hb5) (HB.out.2.all hb5))
          clear HB hb5
          go_wp2_with fail
          refine (jNameByte_any c w5).mono ?_
          rintro e w6 ⟨rfl, rfl⟩
          cases hp : nmByte c
          · have C := Lib.hid (fail_st 2 HB5.out.2)
            go_wp2_with fail
            refine C.out.mono ?_
            rintro e w7 ⟨rfl, rfl⟩
            go_wp2
            exact ⟨rfl, Res.mkEr (k := r2.length + 1) (c := 2) (by rw [HE.out, nameR, if_neg HNE.out, hp]; rfl) HB5.out.1⟩
          · have HP := Lib.hid hp
            clear hp
            obtain ⟨i, hi, hd', o⟩ := HB5.out.2.out
            obtain rfl : i = j := by
              have h1 := congrArg List.length hd'
              have h2 := congrArg List.length HD.out
              rw [List.length_drop] at h1 h2
              simp only [List.length_cons] at h1 h2
              omega
            obtain ⟨hlt, -, hd2, -⟩ := drop_byte hd'
            have u1 := o.cell (i := 1) rfl
            have u2 := o.frozen 1
            have HO := Lib.hid (And.intro o hd2)
            clear o hd' hd2
            by_cases hk : k = 40
            · exact absurd hk (by omega)
            · have q40 : ¬ (i : Int) - (i1 : Int) = 40 := by have := HJ.out; omega
              have q40' : (((i : Int) - (i1 : Int)) == 40) = false := by rw [beq_eq_false_iff_ne]; exact q40
              go_wp2
              go_roundg r2.length
              case measure => have := HG.out; simp at this; omega
              case rel => exact ⟨k + 1, i + 1, r2, Lib.hid (by have := HJ.out; omega), rfl, by omega, by omega, HO.out.2, HB5.out.1.set 1 _, by rw [show ((i + 1 : Nat) : Int) = (i1 : Int) + 1 by have := HJ.out; omega]; exact HO.out.1.set 1 _, Lib.hid (drop_byte HRD.out).2.2.1, Lib.hid (nameR_next HE.out HRD.out HNE.out HP.out hk)⟩
        · have q : ((j : Int) == (i1 : Int)) = false := by rw [beq_eq_false_iff_ne]; have := HJ.out; omega
          have q' : ¬ (j : Int) = (i1 : Int) := by have := HJ.out; omega
          have q34 : ¬ (c.toNat : Int) = 34 := fun h => hend ⟨by omega, by omega⟩
          have q34' : ((c.toNat : Int) == 34) = false := by rw [beq_eq_false_iff_ne]; exact q34
          clear C0 hend
          go_wp2_with fail
          refine (peek_ok hl HST.out.2).mono ?_
          rintro e w2 ⟨rfl, hb2⟩
          have HB := Lib.hid (And.intro (HST.out.1.all hb2) (HST.out.2.all hb2))
          clear HST hb2
          go_wp2_with fail
          refine (peek_ok hl HB.out.2).mono ?_
          rintro e w5 ⟨rfl, hb5⟩
          have HB5 := Lib.hid (And.intro (HB.out.1.all hb5) (HB.out.2.all hb5))
          clear HB hb5
          go_wp2_with fail
          refine (jNameByte_any c w5).mono ?_
          rintro e w6 ⟨rfl, rfl⟩
          cases hp : nmByte c
          · have C := Lib.hid (fail_st 2 HB5.out.2)
            go_wp2_with fail
            refine C.out.mono ?_
            rintro e w7 ⟨rfl, rfl⟩
            go_wp2
            exact ⟨rfl, Res.mkEr (k := r2.length + 1) (c := 2) (by rw [HE.out, nameR, if_neg HNE.out, hp]; rfl) HB5.out.1⟩
          · have HP := Lib.hid hp
            clear hp
            obtain ⟨i, hi, hd', o⟩ := HB5.out.2.out
            obtain rfl : i = j := by
              have h1 := congrArg List.length hd'
              have h2 := congrArg List.length HD.out
              rw [List.length_drop] at h1 h2
              simp only [List.length_cons] at h1 h2
              omega
            obtain ⟨hlt, -, hd2, -⟩ := drop_byte hd'
            have u1 := o.cell (i := 1) rfl
            have u2 := o.frozen 1
            have HO := Lib.hid (And.intro o hd2)
            clear o hd' hd2
            by_cases hk : k = 40
            · have q40 : (i : Int) - (i1 : Int) = 40 := by have := HJ.out; omega
              have C := Lib.hid (fail_st 4 HB5.out.2)
              have HK := Lib.hid hk
              clear hk
              go_wp2_with fail
              refine C.out.mono ?_
              rintro e w7 ⟨rfl, rfl⟩
              go_wp2
              exact ⟨rfl, Res.mkEr (k := r2.length + 1) (c := 4) (by rw [HE.out, nameR, if_neg HNE.out, HP.out, if_neg (by simp), if_pos HK.out]; rfl) HB5.out.1⟩
            · have q40 : ¬ (i : Int) - (i1 : Int) = 40 := by have := HJ.out; omega
              have q40' : (((i : Int) - (i1 : Int)) == 40) = false := by rw [beq_eq_false_iff_ne]; exact q40
              go_wp2
              go_roundg r2.length
              case measure => have := HG.out; simp at this; omega
              case rel => exact ⟨k + 1, i + 1, r2, Lib.hid (by have := HJ.out; omega), rfl, by omega, by omega, HO.out.2, HB5.out.1.set 1 _, HO.out.1.set 1 _, Lib.hid (drop_byte HRD.out).2.2.1, Lib.hid (nameR_next HE.out HRD.out HNE.out HP.out hk)⟩
end Go.Proofs.YtjpmnlefjmdelaaGreatDoor
