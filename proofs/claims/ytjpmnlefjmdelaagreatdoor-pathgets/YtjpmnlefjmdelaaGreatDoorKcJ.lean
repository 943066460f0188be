/- The parser's state; blanks. The parser's bytes and words. The parser's words, characters and numbers. The parser's digits. -/
import Derived.Test.YtjpmnlefjmdelaaGreatDoorKaJ
import Derived.Test.YtjpmnlefjmdelaaGreatDoorJa
import Derived.Test.YtjpmnlefjmdelaaGreatDoorFrJ
import Derived.BigQuiet
import Derived.Lib.QuietBelow
set_option linter.unusedSimpArgs false
set_option linter.unusedVariables false
namespace Go.Proofs.YtjpmnlefjmdelaaGreatDoor
open Go.RowKit Go.Sort Go.Proofs.LawFrame

/-- the parser at the block pb: the text s, of which r is left; n values have begun -/
structure St (pb : Nat) (s r : Str) (n : Int) (w : World) : Prop where
  out : ∃ i : Nat, i ≤ s.length ∧ s.drop i = r ∧ Own w pb [sV s, .int .i64 i, .int .i64 n] 72
theorem St.all {pb : Nat} {s r : Str} {n : Int} {w w' : World} (h : St pb s r n w) (hb : Below w.heap.size w w') : St pb s r n w' := by
  obtain ⟨i, h1, h2, h3⟩ := h.out; exact ⟨i, h1, h2, h3.all hb⟩
theorem But.allow {b : Nat} {w w' : World} (h : Below w.heap.size w w') : But b w w' := (But.refl b w).all h
abbrev failR (s : Str) (rem : Nat) (code : Int) : Ending := failE ((s.length - rem : Nat) : Int) code

theorem peek_ok {pb : Nat} {s : Str} {n : Int} {c : UInt8} {r : Str} {w : World} (hl : s.length ≤ 20000) (st : St pb s (c :: r) n w) :
    Calls Tryz.prog 164 #[.pointer (some ⟨pb, 0, none⟩)] w fun e w' => e = .returned (.int .u8 c.toNat) ∧ Below w.heap.size w w' := by
  obtain ⟨i, h1, h2, h3⟩ := st.out
  exact peek_byte pb s i n c r w hl h3 h2
theorem peek_no {pb : Nat} {s : Str} {n : Int} {w : World} (hl : s.length ≤ 20000) (st : St pb s [] n w) :
    Calls Tryz.prog 164 #[.pointer (some ⟨pb, 0, none⟩)] w fun e w' => e = failR s 0 3 ∧ Below w.heap.size w w' := by
  obtain ⟨i, h1, h2, h3⟩ := st.out
  obtain rfl := drop_end h2 h1
  exact peek_end pb s s.length n w hl h3 rfl
theorem fail_st {pb : Nat} {s r : Str} {n : Int} (code : Int) {w : World} (st : St pb s r n w) : Calls Tryz.prog 94 #[.pointer (some ⟨pb, 0, none⟩), .int .i64 code] w fun e w' => e = failR s r.length code ∧ w = w' := by
  obtain ⟨i, h1, h2, h3⟩ := st.out
  have e : s.length - r.length = i := by rw [← h2, List.length_drop]; omega
  unfold failR
  rw [e]
  exact fail_any pb s i n code w h3

set_option maxHeartbeats 4000000 in
theorem skipBlanks_any {pb : Nat} {s r : Str} {n : Int} {w : World} (hl : s.length ≤ 20000) (st : St pb s r n w) :
    Calls Tryz.prog 93 #[.pointer (some ⟨pb, 0, none⟩)] w fun e w' => e = .returned (.tuple #[]) ∧ But pb w w' ∧ St pb s (skp r) n w' := by
  go_enter Tryz.func93, Tryz.ntmps93
  go_wp2
  go_loopg [] r.length (fun g wr => ∃ r' : Str, g = r'.length ∧ But pb w wr ∧ St pb s r' n wr ∧ Hid (skp r' = skp r))
  case atStart => exact ⟨r, rfl, But.refl _ _, st, Lib.hid rfl⟩
  case round =>
    obtain ⟨r', hg, hb, st', HE⟩ := hrel
    have HG := Lib.hid hg
    clear hg st
    obtain ⟨i, hi, hd, o⟩ := st'.out
    have c0 := cell_regrown (o.cell (i := 0) rfl)
    have c1 := cell_regrown (o.cell (i := 1) rfl)
    have HO := Lib.hid (And.intro hb o)
    clear st' o hb
    cases r' with
    | nil =>
      obtain rfl := drop_end hd hi
      clear hd
      go_upto_region 0 with (fail)
      refine wp_region_quiet_below (by kernel_rfl) (by kernel_rfl) ?_
      repeat (first | go_big_quiet_step ((fail)) | quiet_step (fail))
      refine wpQuiet_nil ?_
      intro _ hw'
      obtain ⟨⟨dq, osq⟩, hw''⟩ := hw'
      subst hw''
      clear c0 c1
      go_wp2
      obtain ⟨hb, o⟩ := HO.out
      go_end0
      refine ⟨rfl, hb.all (below_regrown wr dq osq), ?_⟩
      rw [← HE.out]
      exact St.all ⟨_, Nat.le_refl _, by simp [skp], o⟩ (below_regrown wr dq osq)
    | cons c r' =>
      obtain ⟨hlt, hc, hd', hlen⟩ := drop_byte hd
      have HD := Lib.hid (And.intro hd hd')
      have hm : ((⟨s.toArray⟩ : ByteArray)[i]'hlt).toNat = c.toNat := by rw [← hc]; rfl
      have hg1 : decide ((i : Int) < (s.length : Int)) = true := by simp; omega
      clear hd hd' hc hlen
      cases hbl : blk c
      · have cB : ∀ dd os, Calls Tryz.prog 140 #[.int .u8 c.toNat] (grow (redrawn wr dd) os) fun e w'' => e = .returned (.bool false) ∧ ∃ p : Regrown, w'' = grow (redrawn wr p.d) p.os := fun dd os => by rw [← hbl]; exact (isBlank_any c _).mono (fun e w' h => ⟨h.1, ⟨⟨dd, os⟩, h.2.symm⟩⟩)
        go_upto_region 0 with (fail)
        refine wp_region_quiet_below (by kernel_rfl) (by kernel_rfl) ?_
        repeat (first | go_big_quiet_step ((first | with_reducible exact cB _ _)) | quiet_step (first | with_reducible exact cB _ _))
        refine wpQuiet_nil ?_
        intro _ hw'
        obtain ⟨⟨dq, osq⟩, hw''⟩ := hw'
        subst hw''
        clear c0 c1 cB
        go_wp2
        obtain ⟨hb, o⟩ := HO.out
        go_end0
        refine ⟨rfl, hb.all (below_regrown wr dq osq), ?_⟩
        rw [← HE.out]
        exact St.all ⟨i, hi, by rw [HD.out.1]; simp [skp, hbl], o⟩ (below_regrown wr dq osq)
      · have cB : ∀ dd os, Calls Tryz.prog 140 #[.int .u8 c.toNat] (grow (redrawn wr dd) os) fun e w'' => e = .returned (.bool true) ∧ ∃ p : Regrown, w'' = grow (redrawn wr p.d) p.os := fun dd os => by rw [← hbl]; exact (isBlank_any c _).mono (fun e w' h => ⟨h.1, ⟨⟨dd, os⟩, h.2.symm⟩⟩)
        go_upto_region 0 with (fail)
        refine wp_region_quiet_below (by kernel_rfl) (by kernel_rfl) ?_
        repeat (first | go_big_quiet_step ((first | with_reducible exact cB _ _)) | quiet_step (first | with_reducible exact cB _ _))
        refine wpQuiet_nil ?_
        intro _ hw'
        obtain ⟨⟨dq, osq⟩, hw''⟩ := hw'
        subst hw''
        clear c0 c1 cB
        obtain ⟨hb, o⟩ := HO.out
        have hb' := hb.all (below_regrown wr dq osq)
        have o' := o.all (below_regrown wr dq osq)
        clear hb o HO
        generalize grow (redrawn wr dq) osq = U at *
        have u1 := o'.cell (i := 1) rfl
        have u2 := o'.frozen 1
        have HO := Lib.hid (And.intro hb' o')
        clear hb' o'
        go_wp2
        go_roundg r'.length
        case measure => have := HG.out; simp at this; omega
        case rel => exact ⟨r', rfl, HO.out.1.set 1 _, ⟨i + 1, by omega, HD.out.2, HO.out.2.set 1 _⟩, Lib.hid (by rw [← HE.out]; simp [skp, hbl])⟩
end Go.Proofs.YtjpmnlefjmdelaaGreatDoor
namespace Go.Proofs.YtjpmnlefjmdelaaGreatDoor
open Go.RowKit Go.Sort Go.Proofs.LawFrame

/-- a call of the parser: what it returns or fails with; the parser's block alone was written -/
structure Res (pb : Nat) (s : Str) (w : World) {β : Type} (res : R β) (Q : β → World → Value → Prop) (e : Ending) (w' : World) : Prop where
  but : But pb w w'
  ok : ∀ b, res = .ok b → ∃ v, e = .returned v ∧ Q b w' v
  er : ∀ k c, res = .er k c → e = failR s k c
theorem Res.mkOk {pb : Nat} {s : Str} {w w' : World} {β : Type} {res : R β} {Q : β → World → Value → Prop} {b : β} {v : Value} (h : res = .ok b) (hb : But pb w w') (hq : Q b w' v) : Res pb s w res Q (.returned v) w' :=
  ⟨hb, fun b' h' => by rw [h] at h'; cases h'; exact ⟨v, rfl, hq⟩, fun k c h' => by rw [h] at h'; cases h'⟩
theorem Res.mkEr {pb : Nat} {s : Str} {w w' : World} {β : Type} {res : R β} {Q : β → World → Value → Prop} {k : Nat} {c : Int} (h : res = .er k c) (hb : But pb w w') : Res pb s w res Q (failR s k c) w' :=
  ⟨hb, fun b' h' => (by rw [h] at h'; cases h'), fun k' c' h' => by rw [h] at h'; cases h'; rfl⟩

def headR : Str → R UInt8
  | [] => .er 0 3
  | c :: _ => .ok c
set_option maxHeartbeats 1000000 in
theorem peekBlanks_any {pb : Nat} {s r : Str} {n : Int} {w : World} (hl : s.length ≤ 20000) (st : St pb s r n w) :
    Calls Tryz.prog 131 #[.pointer (some ⟨pb, 0, none⟩)] w (Res pb s w (headR (skp r)) (fun c w' v => v = .int .u8 c.toNat ∧ St pb s (skp r) n w')) := by
  have C := Lib.hid (skipBlanks_any hl st)
  clear st
  go_enter Tryz.func131, Tryz.ntmps131
  go_wp2_with fail
  refine C.out.mono ?_
  rintro e w1 ⟨rfl, hb1, st1⟩
  clear C
  have HS := Lib.hid (And.intro hb1 st1)
  clear st1 hb1
  obtain ⟨q, hq⟩ : ∃ q, skp r = q := ⟨_, rfl⟩
  rw [hq] at HS
  have HQ := Lib.hid hq
  clear hq
  cases q with
  | nil =>
    go_wp2_with fail
    refine (peek_no hl HS.out.2).mono ?_
    rintro e w2 ⟨rfl, hb2⟩
    go_wp2
    exact ⟨rfl, Res.mkEr (k := 0) (c := 3) (by rw [HQ.out]; rfl) (HS.out.1.all hb2)⟩
  | cons c q =>
    go_wp2_with fail
    refine (peek_ok hl HS.out.2).mono ?_
    rintro e w2 ⟨rfl, hb2⟩
    go_wp2
    go_ret
    exact Res.mkOk (b := c) (by rw [HQ.out]; rfl) (HS.out.1.all hb2) ⟨rfl, by rw [HQ.out]; exact HS.out.2.all hb2⟩

set_option maxHeartbeats 1000000 in
theorem readByte_any {pb : Nat} {s r : Str} {n : Int} {w : World} (hl : s.length ≤ 20000) {c : UInt8} {ci : Int} (hci : ci = (c.toNat : Int)) (st : St pb s r n w) :
    Calls Tryz.prog 167 #[.pointer (some ⟨pb, 0, none⟩), .int .u8 ci] w (Res pb s w (byteR c r) (fun r' w' v => v = .tuple #[] ∧ St pb s r' n w')) := by
  subst hci
  go_enter Tryz.func167, Tryz.ntmps167
  have HS := Lib.hid st
  clear st
  cases r with
  | nil =>
    go_wp2_with fail
    refine (peek_no hl HS.out).mono ?_
    rintro e w2 ⟨rfl, hb2⟩
    go_wp2
    exact ⟨rfl, Res.mkEr (k := 0) (c := 3) rfl (But.allow hb2)⟩
  | cons d r =>
    go_wp2_with fail
    refine (peek_ok hl HS.out).mono ?_
    rintro e w2 ⟨rfl, hb2⟩
    have HB := Lib.hid hb2
    clear hb2
    by_cases hdc : d = c
    · subst hdc
      obtain ⟨i, hi, hd, o⟩ := (HS.out.all HB.out).out
      obtain ⟨hlt, -, hd', -⟩ := drop_byte hd
      have u1 := o.cell (i := 1) rfl
      have u2 := o.frozen 1
      have HO := Lib.hid (And.intro o hd')
      clear o hd hd'
      go_wp2
      go_end0
      exact Res.mkOk (b := r) (by simp [byteR]) ((But.allow HB.out).set 1 _) ⟨rfl, ⟨i + 1, by omega, HO.out.2, HO.out.1.set 1 _⟩⟩
    · have hq : ((d.toNat : Int) == (c.toNat : Int)) = false := by
        rw [beq_eq_false_iff_ne]
        intro h
        exact hdc (UInt8.toNat_inj.1 (by omega))
      have C := Lib.hid (fail_st 2 (HS.out.all HB.out))
      go_wp2_with fail
      refine C.out.mono ?_
      rintro e w3 ⟨rfl, rfl⟩
      go_wp2
      exact ⟨rfl, Res.mkEr (k := r.length + 1) (c := 2) (by simp [byteR, hdc]) (But.allow HB.out)⟩

/-- is the closing byte next, behind blanks? -/
def closeR (c : UInt8) (r : Str) : R (Bool × Str) := match skp r with
  | [] => .er 0 3
  | d :: r' => if d = c then .ok (true, r') else .ok (false, d :: r')
set_option maxHeartbeats 1000000 in
theorem readClosing_any {pb : Nat} {s r : Str} {n : Int} {w : World} (hl : s.length ≤ 20000) {c : UInt8} {ci : Int} (hci : ci = (c.toNat : Int)) (st : St pb s r n w) :
    Calls Tryz.prog 170 #[.pointer (some ⟨pb, 0, none⟩), .int .u8 ci] w (Res pb s w (closeR c r) (fun p w' v => v = .bool p.1 ∧ St pb s p.2 n w')) := by
  subst hci
  go_enter Tryz.func170, Tryz.ntmps170
  have C := Lib.hid (peekBlanks_any hl st)
  clear st
  unfold closeR
  generalize hq : skp r = q at *
  go_wp2_with fail
  refine C.out.mono ?_
  rintro e w1 hres
  clear C
  cases q with
  | nil =>
    obtain rfl := hres.er 0 3 rfl
    have HB := Lib.hid hres.but
    clear hres
    go_wp2
    exact ⟨rfl, Res.mkEr (k := 0) (c := 3) rfl HB.out⟩
  | cons d q =>
    obtain ⟨v, rfl, rfl, st⟩ := hres.ok d rfl
    have HB := Lib.hid hres.but
    clear hres
    by_cases hdc : d = c
    · subst hdc
      obtain ⟨i, hi, hd, o⟩ := st.out
      obtain ⟨hlt, -, hd', -⟩ := drop_byte hd
      have u1 := o.cell (i := 1) rfl
      have u2 := o.frozen 1
      have HO := Lib.hid (And.intro o hd')
      clear o hd hd' st
      go_wp2
      go_ret
      exact Res.mkOk (b := (true, q)) (by simp) (HB.out.set 1 _) ⟨rfl, ⟨i + 1, by omega, HO.out.2, HO.out.1.set 1 _⟩⟩
    · have hq : ((d.toNat : Int) == (c.toNat : Int)) = false := by
        rw [beq_eq_false_iff_ne]
        intro h
        exact hdc (UInt8.toNat_inj.1 (by omega))
      have HS := Lib.hid st
      clear st
      go_wp2
      go_ret
      exact Res.mkOk (b := (false, d :: q)) (by simp [hdc]) HB.out ⟨rfl, HS.out⟩

/-- a comma, or the closing byte -/
def sepR (c : UInt8) (r : Str) : R (Bool × Str) := match closeR c r with
  | .er a b => .er a b
  | .ok (true, r') => .ok (true, r')
  | .ok (false, r') => match byteR 44 r' with
    | .er a b => .er a b
    | .ok r2 => .ok (false, r2)
set_option maxHeartbeats 1000000 in
theorem readSeparator_any {pb : Nat} {s r : Str} {n : Int} {w : World} (hl : s.length ≤ 20000) {c : UInt8} {ci : Int} (hci : ci = (c.toNat : Int)) (st : St pb s r n w) :
    Calls Tryz.prog 171 #[.pointer (some ⟨pb, 0, none⟩), .int .u8 ci] w (Res pb s w (sepR c r) (fun p w' v => v = .bool p.1 ∧ St pb s p.2 n w')) := by
  go_enter Tryz.func171, Tryz.ntmps171
  have C := Lib.hid (readClosing_any hl hci st)
  clear st hci
  go_wp2_with fail
  refine C.out.mono ?_
  rintro e w1 hres
  clear C
  cases hR : closeR c r with
  | er k x =>
    obtain rfl := hres.er k x hR
    have HB := Lib.hid hres.but
    clear hres
    go_wp2
    exact ⟨rfl, Res.mkEr (k := k) (c := x) (by unfold sepR; rw [hR]) HB.out⟩
  | ok p =>
    obtain ⟨b, r'⟩ := p
    obtain ⟨v, rfl, rfl, st⟩ := hres.ok _ hR
    have HB := Lib.hid hres.but
    have HS := Lib.hid st
    have HR := Lib.hid hR
    clear hres hR st
    cases b with
    | true =>
      go_wp2
      go_ret
      exact Res.mkOk (b := (true, r')) (by unfold sepR; rw [HR.out]) HB.out ⟨rfl, HS.out⟩
    | false =>
      have C := Lib.hid (readByte_any hl (c := 44) (ci := 44) rfl HS.out)
      go_wp2_with fail
      refine C.out.mono ?_
      rintro e w2 hres
      clear C
      cases hR : byteR 44 r' with
      | er k x =>
        obtain rfl := hres.er k x hR
        have HB2 := Lib.hid (HB.out.trans hres.but)
        clear hres
        go_wp2
        exact ⟨rfl, Res.mkEr (k := k) (c := x) (by unfold sepR; rw [HR.out]; simp only [hR]) HB2.out⟩
      | ok r2 =>
        obtain ⟨v, rfl, rfl, st⟩ := hres.ok _ hR
        have HB2 := Lib.hid (HB.out.trans hres.but)
        have HS2 := Lib.hid st
        have HR2 := Lib.hid hR
        clear hres st hR
        go_wp2
        go_ret
        exact Res.mkOk (b := (false, r2)) (by unfold sepR; rw [HR.out]; simp only [HR2.out]) HB2.out ⟨rfl, HS2.out⟩
end Go.Proofs.YtjpmnlefjmdelaaGreatDoor
namespace Go.Proofs.YtjpmnlefjmdelaaGreatDoor
open Go.RowKit Go.Sort Go.Proofs.LawFrame

def put5 (W : World) (b : Nat) (v0 v1 v2 v3 v4 : Value) : World := ((((W.setCell ⟨b, 0, none⟩ v0).setCell ⟨b, 1, none⟩ v1).setCell ⟨b, 2, none⟩ v2).setCell ⟨b, 3, none⟩ v3).setCell ⟨b, 4, none⟩ v4
theorem own_put5 {W : World} {b : Nat} {a0 a1 a2 a3 a4 : Value} {t : TypeId} (o : Own W b [a0, a1, a2, a3, a4] t) (v0 v1 v2 v3 v4 : Value) : Own (put5 W b v0 v1 v2 v3 v4) b [v0, v1, v2, v3, v4] t :=
  ((((o.set 0 v0).set 1 v1).set 2 v2).set 3 v3).set 4 v4
theorem But.high {pb b : Nat} {w W : World} (h : But pb w W) (hb : w.heap.size ≤ b) (i : Nat) (v : Value) : But pb w (W.setCell ⟨b, i, none⟩ v) :=
  ⟨h.os, h.tape, h.output, Nat.le_trans h.size (Nat.le_of_eq (by unfold World.setCell; simp)), fun k hk hne => (Below.heap_setCell _ _ _ _ (by rintro rfl; exact absurd hk (Nat.not_lt_of_le hb))).trans (h.block k hk hne)⟩
theorem But.put5 {pb b : Nat} {w W : World} (h : But pb w W) (hb : w.heap.size ≤ b) (v0 v1 v2 v3 v4 : Value) : But pb w (put5 W b v0 v1 v2 v3 v4) :=
  ((((h.high hb 0 v0).high hb 1 v1).high hb 2 v2).high hb 3 v3).high hb 4 v4
theorem St.set_ne {pb b : Nat} {s r : Str} {n : Int} {W : World} (h : St pb s r n W) (hb : pb ≠ b) (i : Nat) (v : Value) : St pb s r n (W.setCell ⟨b, i, none⟩ v) := by
  obtain ⟨j, h1, h2, h3⟩ := h.out; exact ⟨j, h1, h2, h3.set_ne hb _ _⟩
theorem St.put5 {pb b : Nat} {s r : Str} {n : Int} {W : World} (h : St pb s r n W) (hb : pb ≠ b) (v0 v1 v2 v3 v4 : Value) : St pb s r n (put5 W b v0 v1 v2 v3 v4) :=
  ((((h.set_ne hb 0 v0).set_ne hb 1 v1).set_ne hb 2 v2).set_ne hb 3 v3).set_ne hb 4 v4
theorem IsA.put5 {W : World} {A : Nat → Prop} {c : VC} {t : T} {b : Nat} (h : IsA W A c t) (hb : ¬ A b) (v0 v1 v2 v3 v4 : Value) : IsA (put5 W b v0 v1 v2 v3 v4) A c t :=
  ((((h.set hb 0 v0).set hb 1 v1).set hb 2 v2).set hb 3 v3).set hb 4 v4
theorem St.lt {pb : Nat} {s r : Str} {n : Int} {w : World} (h : St pb s r n w) : pb < w.heap.size := by
  obtain ⟨j, h1, h2, h3⟩ := h.out; exact h3.lt
theorem u8_ne {c : UInt8} {k : Nat} (h : ¬ c.toNat = k) : ((c.toNat : Int) == (k : Int)) = false := by rw [beq_eq_false_iff_ne]; omega
theorem u8_eq {c : UInt8} {k : Nat} (h : c.toNat = k) : ((c.toNat : Int) == (k : Int)) = true := by rw [h]; simp

set_option maxHeartbeats 1000000 in
theorem readCharacter_any {pb : Nat} {s r : Str} {n : Int} {w : World} (hl : s.length ≤ 20000) (st : St pb s r n w) :
    Calls Tryz.prog 169 #[.pointer (some ⟨pb, 0, none⟩)] w (Res pb s w (charR r) (fun p w' v => v = .int .u8 p.1.toNat ∧ St pb s p.2 n w')) := by
  go_enter Tryz.func169, Tryz.ntmps169
  have HS := Lib.hid st
  clear st
  cases r with
  | nil =>
    go_wp2_with fail
    refine (peek_no hl HS.out).mono ?_
    rintro e w2 ⟨rfl, hb2⟩
    go_wp2
    exact ⟨rfl, Res.mkEr (k := 0) (c := 3) rfl (But.allow hb2)⟩
  | cons c r =>
    go_wp2_with fail
    refine (peek_ok hl HS.out).mono ?_
    rintro e w1 ⟨rfl, hb1⟩
    obtain ⟨i, hi, hd, o⟩ := (HS.out.all hb1).out
    obtain ⟨hlt, -, hd', -⟩ := drop_byte hd
    have HB := Lib.hid (But.allow (b := pb) hb1)
    clear hb1 HS
    have u1 := o.cell (i := 1) rfl
    have u2 := o.frozen 1
    have HS := Lib.hid (And.intro (HB.out.set 1 (.int .i64 ((i + 1 : Nat) : Int))) (St.mk ⟨i + 1, by omega, hd', o.set 1 (.int .i64 ((i + 1 : Nat) : Int))⟩))
    clear o hd hd' HB
    by_cases hc : c.toNat = 92
    · have hq : ((c.toNat : Int) == 92) = true := u8_eq hc
      have HC := Lib.hid hc
      clear hc
      go_upto_region 5 with (fail)
      change Code.wp Tryz.prog _ _ _ (w1.setCell ⟨pb, 1, none⟩ (.int .i64 ((i + 1 : Nat) : Int)))
      clear u1 u2 hq
      generalize w1.setCell ⟨pb, 1, none⟩ (.int .i64 ((i + 1 : Nat) : Int)) = W2 at *
      cases r with
      | nil =>
        go_wp2_with fail
        refine (peek_no hl HS.out.2).mono ?_
        rintro e w3 ⟨rfl, hb3⟩
        go_wp2
        exact ⟨rfl, Res.mkEr (k := 0) (c := 3) (by simp [charR, HC.out, escR]) (HS.out.1.all hb3)⟩
      | cons x r =>
        go_wp2_with fail
        refine (peek_ok hl HS.out.2).mono ?_
        rintro e w3 ⟨rfl, hb3⟩
        have HS3 := Lib.hid (And.intro (HS.out.1.all hb3) (HS.out.2.all hb3))
        clear HS hb3
        by_cases h34 : x.toNat = 34
        · have q1 : (x.toNat : Int) = 34 := by omega
          have q3 : ¬ (x.toNat : Int) = 110 := by omega
          have HX := Lib.hid h34
          clear h34
          obtain ⟨i, hi, hd, o⟩ := HS3.out.2.out
          obtain ⟨hlt, -, hd', -⟩ := drop_byte hd
          have u1 := o.cell (i := 1) rfl
          have u2 := o.frozen 1
          have HO := Lib.hid (And.intro o hd')
          clear o hd hd'
          go_wp2
          go_ret
          exact Res.mkOk (b := (x, r)) (by simp [charR, HC.out, escR, HX.out]) (HS3.out.1.set 1 _) ⟨by show _ = Value.int .u8 (x.toNat : Int); rw [HX.out]; rfl, ⟨i + 1, by omega, HO.out.2, HO.out.1.set 1 _⟩⟩
        have q1 : ¬ (x.toNat : Int) = 34 := by omega
        by_cases h92 : x.toNat = 92
        · have q2 : (x.toNat : Int) = 92 := by omega
          have q3 : ¬ (x.toNat : Int) = 110 := by omega
          have HX := Lib.hid h92
          clear h92
          obtain ⟨i, hi, hd, o⟩ := HS3.out.2.out
          obtain ⟨hlt, -, hd', -⟩ := drop_byte hd
          have u1 := o.cell (i := 1) rfl
          have u2 := o.frozen 1
          have HO := Lib.hid (And.intro o hd')
          clear o hd hd'
          go_wp2
          go_ret
          exact Res.mkOk (b := (x, r)) (by simp [charR, HC.out, escR, HX.out]) (HS3.out.1.set 1 _) ⟨by show _ = Value.int .u8 (x.toNat : Int); rw [HX.out]; rfl, ⟨i + 1, by omega, HO.out.2, HO.out.1.set 1 _⟩⟩
        have q2 : ¬ (x.toNat : Int) = 92 := by omega
        by_cases h110 : x.toNat = 110
        · have q3 : (x.toNat : Int) = 110 := by omega
          have HX := Lib.hid h110
          clear h110
          obtain ⟨i, hi, hd, o⟩ := HS3.out.2.out
          obtain ⟨hlt, -, hd', -⟩ := drop_byte hd
          have u1 := o.cell (i := 1) rfl
          have u2 := o.frozen 1
          have HO := Lib.hid (And.intro o hd')
          clear o hd hd'
          go_wp2
          go_ret
          exact Res.mkOk (b := (10, r)) (by simp [charR, HC.out, escR, HX.out, h34, h92]) (HS3.out.1.set 1 _) ⟨rfl, ⟨i + 1, by omega, HO.out.2, HO.out.1.set 1 _⟩⟩
        have q3 : ¬ (x.toNat : Int) = 110 := by omega
        have C := Lib.hid (fail_st 2 HS3.out.2)
        have q1' : ((x.toNat : Int) != 34) = true := by simpa using q1
        have q2' : ((x.toNat : Int) != 92) = true := by simpa using q2
        have q3' : ((x.toNat : Int) != 110) = true := by simpa using q3
        go_wp2_with fail
        refine C.out.mono ?_
        rintro e w4 ⟨rfl, rfl⟩
        go_wp2
        exact ⟨rfl, Res.mkEr (k := r.length + 1) (c := 2) (by simp [charR, HC.out, escR, h34, h92, h110]) HS3.out.1⟩
    · have hq : ((c.toNat : Int) == 92) = false := u8_ne hc
      go_wp2
      go_ret
      exact Res.mkOk (b := (c, r)) (by simp [charR, hc]) HS.out.1 ⟨rfl, HS.out.2⟩

set_option maxHeartbeats 2000000 in
theorem readWord_any {pb : Nat} {s r : Str} {n : Int} {w : World} (hl : s.length ≤ 20000) (ws : Str) (hw : ws.length ≤ 10) (c : VC) (st : St pb s r n w) :
    Calls Tryz.prog 133 #[.pointer (some ⟨pb, 0, none⟩), sV ws, .agg #[.int .i64 c.k, .int .i64 c.n, sV c.s, .slice c.la c.ln c.lc, .slice c.fa c.fn c.fc]] w (Res pb s w (wordR ws r) (fun r' w' v => v = c.val ∧ St pb s r' n w')) := by
  have hpb := st.lt
  have hB : But pb w ((w.alloc (.cells #[.int .i64 c.k, .int .i64 c.n, sV c.s, .slice c.la c.ln c.lc, .slice c.fa c.fn c.fc] 25)).alloc (.cells #[.int .i64 0, .int .i64 0, .string ⟨#[]⟩, .slice none 0 0, .slice none 0 0] 25)) := But.allow (((Below.refl _ _).alloc (Nat.le_refl _) _).alloc (by simp) _)
  have oV : Own ((w.alloc (.cells #[.int .i64 c.k, .int .i64 c.n, sV c.s, .slice c.la c.ln c.lc, .slice c.fa c.fn c.fc] 25)).alloc (.cells #[.int .i64 0, .int .i64 0, .string ⟨#[]⟩, .slice none 0 0, .slice none 0 0] 25)) w.heap.size [.int .i64 c.k, .int .i64 c.n, sV c.s, .slice c.la c.ln c.lc, .slice c.fa c.fn c.fc] 25 := (Own.new _ _ _).alloc _
  have oR : Own ((w.alloc (.cells #[.int .i64 c.k, .int .i64 c.n, sV c.s, .slice c.la c.ln c.lc, .slice c.fa c.fn c.fc] 25)).alloc (.cells #[.int .i64 0, .int .i64 0, .string ⟨#[]⟩, .slice none 0 0, .slice none 0 0] 25)) (w.heap.size + 1) [.int .i64 0, .int .i64 0, .string ⟨#[]⟩, .slice none 0 0, .slice none 0 0] 25 := Own.new_at (by rw [size_alloc]) _ _
  have st' : St pb s r n ((w.alloc (.cells #[.int .i64 c.k, .int .i64 c.n, sV c.s, .slice c.la c.ln c.lc, .slice c.fa c.fn c.fc] 25)).alloc (.cells #[.int .i64 0, .int .i64 0, .string ⟨#[]⟩, .slice none 0 0, .slice none 0 0] 25)) := st.all (((Below.refl _ _).alloc (Nat.le_refl _) _).alloc (by simp) _)
  have HS := Lib.hid (And.intro hB (And.intro oV (And.intro oR st')))
  clear hB oV oR st' st
  go_enter Tryz.func133, Tryz.ntmps133
  go_wp2
  generalize (w.alloc (.cells #[.int .i64 c.k, .int .i64 c.n, sV c.s, .slice c.la c.ln c.lc, .slice c.fa c.fn c.fc] 25)).alloc (.cells #[.int .i64 0, .int .i64 0, .string ⟨#[]⟩, .slice none 0 0, .slice none 0 0] 25) = V at *
  go_loopg [10] ws.length (fun g i wr => ∃ (k : Nat) (r' : Str), k ≤ ws.length ∧ g = ws.length - k ∧ i = .int .i64 k ∧ But pb w wr ∧ Own wr w.heap.size [.int .i64 c.k, .int .i64 c.n, sV c.s, .slice c.la c.ln c.lc, .slice c.fa c.fn c.fc] 25 ∧ Own wr (w.heap.size + 1) [.int .i64 0, .int .i64 0, .string ⟨#[]⟩, .slice none 0 0, .slice none 0 0] 25 ∧ St pb s r' n wr ∧ Hid (wordR ws r = wordR (ws.drop k) r'))
  case atStart => exact ⟨0, r, Nat.zero_le _, rfl, rfl, HS.out.1, HS.out.2.1, HS.out.2.2.1, HS.out.2.2.2, Lib.hid rfl⟩
  case round =>
    obtain ⟨k, r', hk, hg, rfl, hB, oV, oR, st, HE⟩ := hrel
    have HG := Lib.hid hg
    clear hg HS
    by_cases hlt : k < ws.length
    · have hdr : ws.drop k = ws[k] :: ws.drop (k + 1) := List.drop_eq_getElem_cons hlt
      have HDR := Lib.hid hdr
      clear hdr
      have C := Lib.hid (readByte_any hl (c := ws[k]) (ci := ((⟨ws.toArray⟩ : ByteArray)[k]'hlt).toNat) rfl st)
      have HS := Lib.hid (And.intro hB (And.intro oV oR))
      clear hB oV oR st
      go_wp2_with fail
      refine C.out.mono ?_
      rintro e w2 hres
      clear C
      cases hR : byteR ws[k] r' with
      | er a b =>
        obtain rfl := hres.er a b hR
        have HB := Lib.hid (HS.out.1.trans hres.but)
        clear hres
        go_wp2
        exact ⟨rfl, Res.mkEr (k := a) (c := b) (by rw [HE.out, HDR.out, wordR, hR]) HB.out⟩
      | ok r2 =>
        obtain ⟨v, rfl, rfl, st2⟩ := hres.ok _ hR
        have HS2 := Lib.hid (And.intro (HS.out.1.trans hres.but) (And.intro (Own.but HS.out.2.1 hres.but (by omega)) (And.intro (Own.but HS.out.2.2 hres.but (by omega)) st2)))
        have HE2 : Hid (wordR ws r = wordR (ws.drop (k + 1)) r2) := Lib.hid (by rw [HE.out, HDR.out, wordR, hR])
        clear hres hR st2 HS HE HDR
        go_wp2
        go_roundg (ws.length - (k + 1))
        case measure => have := HG.out; omega
        case rel => exact ⟨k + 1, r2, by omega, rfl, by go_num, HS2.out.1, HS2.out.2.1, HS2.out.2.2.1, HS2.out.2.2.2, HE2⟩
    · obtain rfl : k = ws.length := by omega
      have a0 := oV.cell (i := 0) rfl
      have a1 := oV.cell (i := 1) rfl
      have a2 := oV.cell (i := 2) rfl
      have a3 := oV.cell (i := 3) rfl
      have a4 := oV.cell (i := 4) rfl
      have r0 := oR.cell (i := 0) rfl
      have r1 := oR.cell (i := 1) rfl
      have r2 := oR.cell (i := 2) rfl
      have r3 := oR.cell (i := 3) rfl
      have r4 := oR.cell (i := 4) rfl
      have g0 := oR.frozen 0
      have g1 := oR.frozen 1
      have g2 := oR.frozen 2
      have g3 := oR.frozen 3
      have g4 := oR.frozen 4
      have HS := Lib.hid (And.intro (own_put5 oR (.int .i64 c.k) (.int .i64 c.n) (sV c.s) (.slice c.la c.ln c.lc) (.slice c.fa c.fn c.fc)) (And.intro (hB.put5 (b := w.heap.size + 1) (by omega) (.int .i64 c.k) (.int .i64 c.n) (sV c.s) (.slice c.la c.ln c.lc) (.slice c.fa c.fn c.fc)) (st.put5 (b := w.heap.size + 1) (by omega) (.int .i64 c.k) (.int .i64 c.n) (sV c.s) (.slice c.la c.ln c.lc) (.slice c.fa c.fn c.fc))))
      clear hB oV oR st HG hlt hk
      go_wp2
      clear a0 a1 a2 a3 a4 r0 r1 r2 r3 r4 g0 g1 g2 g3 g4
      change bodyPost Tryz.prog Tryz.f133 _ _ _ (put5 wr (w.heap.size + 1) (.int .i64 c.k) (.int .i64 c.n) (sV c.s) (.slice c.la c.ln c.lc) (.slice c.fa c.fn c.fc))
      generalize put5 wr (w.heap.size + 1) (.int .i64 c.k) (.int .i64 c.n) (sV c.s) (.slice c.la c.ln c.lc) (.slice c.fa c.fn c.fc) = U at *
      obtain ⟨oS, hB, st⟩ := HS.out
      have c0 := oS.cell (i := 0) rfl
      have c1 := oS.cell (i := 1) rfl
      have c2 := oS.cell (i := 2) rfl
      have c3 := oS.cell (i := 3) rfl
      have c4 := oS.cell (i := 4) rfl
      exact bodyPost_ret (v := c.val) (by simp [results, Tryz.results133, go_sem, c0, c1, c2, c3, c4, VC.val]) rfl (Res.mkOk (b := r') (by rw [HE.out]; simp [wordR]) hB ⟨rfl, st⟩)
end Go.Proofs.YtjpmnlefjmdelaaGreatDoor
namespace Go.Proofs.YtjpmnlefjmdelaaGreatDoor
open Go.RowKit Go.Sort Go.Proofs.LawFrame

structure ZI (r : Str) (k : Nat) (r' : Str) : Prop where
  out : (k = 0 ∧ r' = r) ∨ (0 < k ∧ ∃ c0 rr, r = c0 :: rr ∧ (c0.toNat = 48 → k = 1 ∧ r' = rr))
theorem ZI.none_nil {r : Str} {k : Nat} (h : ZI r k []) : zeroD r = none := by
  rcases h.out with ⟨-, rfl⟩ | ⟨-, c0, rr, rfl, hh⟩
  · rfl
  · by_cases h0 : c0.toNat = 48
    · obtain ⟨-, rfl⟩ := hh h0; rfl
    · cases rr with
      | nil => rfl
      | cons b rr => simp [zeroD, h0]
theorem ZI.none_not {r : Str} {k : Nat} {c : UInt8} {r2 : Str} (h : ZI r k (c :: r2)) (hc : dig c = false) : zeroD r = none := by
  rcases h.out with ⟨-, rfl⟩ | ⟨-, c0, rr, rfl, hh⟩
  · have h0 : ¬ c.toNat = 48 := by intro h; simp [dig, h] at hc
    cases r2 with
    | nil => rfl
    | cons b rr => simp [zeroD, h0]
  · by_cases h0 : c0.toNat = 48
    · obtain ⟨-, rfl⟩ := hh h0; simp [zeroD, hc]
    · cases rr with
      | nil => rfl
      | cons b rr => simp [zeroD, h0]
theorem ZI.some_at {c0 : UInt8} {rr : Str} {k : Nat} {c : UInt8} {r2 : Str} (h : ZI (c0 :: rr) k (c :: r2)) (hk : 0 < k) (hc : dig c = true) (h0 : c0.toNat = 48) : zeroD (c0 :: rr) = some (r2.length + 1) := by
  rcases h.out with ⟨h, -⟩ | ⟨-, x, y, he, hh⟩
  · omega
  · cases he
    obtain ⟨-, rfl⟩ := hh h0
    simp [zeroD, h0, hc]
theorem ZI.next {r : Str} {k : Nat} {c : UInt8} {r2 : Str} (h : ZI r k (c :: r2)) (hk : 0 < k → ∀ c0 rr, r = c0 :: rr → ¬ c0.toNat = 48) : ZI r (k + 1) r2 := by
  refine ⟨Or.inr ⟨by omega, ?_⟩⟩
  rcases h.out with ⟨h1, rfl⟩ | ⟨h1, c0, rr, rfl, h⟩
  · exact ⟨c, r2, rfl, fun _ => ⟨by omega, rfl⟩⟩
  · exact ⟨c0, rr, rfl, fun h0 => absurd h0 (hk h1 c0 rr rfl)⟩

set_option maxHeartbeats 4000000 in
theorem readDigits_any {pb : Nat} {s r : Str} {n : Int} {w : World} (hl : s.length ≤ 20000) (st : St pb s r n w) :
    Calls Tryz.prog 173 #[.pointer (some ⟨pb, 0, none⟩)] w (Res pb s w (digitsR r) (fun p w' v => v = .int .i64 p.1 ∧ St pb s p.2 n w')) := by
  obtain ⟨i0, hi0, hd0, o0⟩ := st.out
  have c1 := o0.cell (i := 1) rfl
  have HD0 := Lib.hid hd0
  have HS := Lib.hid o0
  clear st o0 hd0
  go_enter Tryz.func173, Tryz.ntmps173
  go_wp2
  clear c1
  go_loopg [4] r.length (fun g v wr => ∃ (k j : Nat) (acc : Int) (r' : Str), Hid (j = i0 + k) ∧ g = r'.length ∧ v = .int .i64 acc ∧ 0 ≤ acc ∧ acc ≤ 10000000000000009 ∧ j ≤ s.length ∧ s.drop j = r' ∧ But pb w wr ∧ Own wr pb [sV s, .int .i64 (j : Int), .int .i64 n] 72 ∧ Hid (digsR 0 r = digsR acc r') ∧ Hid (ZI r k r'))
  case atStart => exact ⟨0, i0, 0, r, Lib.hid rfl, rfl, rfl, by omega, by omega, hi0, HD0.out, But.refl _ _, HS.out, Lib.hid rfl, Lib.hid ⟨Or.inl ⟨rfl, rfl⟩⟩⟩
  case round =>
    obtain ⟨k, j, acc, r', HJ, hg, rfl, ha0, ha1, hi, hd, hb, o, HE, HZ⟩ := hrel
    have HG := Lib.hid hg
    clear hg HS
    have c0 := cell_regrown (o.cell (i := 0) rfl)
    have c1 := cell_regrown (o.cell (i := 1) rfl)
    have HO := Lib.hid (And.intro hb o)
    clear o hb
    cases r' with
    | nil =>
      obtain rfl := drop_end hd hi
      have HD := Lib.hid hd
      clear hd
      go_upto_region 2 with (fail)
      refine wp_region_quiet_below (by kernel_rfl) (by kernel_rfl) ?_
      repeat (first | go_big_quiet_step ((fail)) | quiet_step (fail))
      refine wpQuiet_nil ?_
      intro _ hw'
      obtain ⟨⟨dq, osq⟩, hw''⟩ := hw'
      subst hw''
      clear c0 c1
      go_wp2
      go_ret
      obtain ⟨hb, o⟩ := HO.out
      exact Res.mkOk (b := (acc, [])) (by unfold digitsR; rw [HZ.out.none_nil]; simp only [HE.out]; rfl) (hb.all (below_regrown wr dq osq)) ⟨rfl, ⟨s.length, hi, HD.out, o.all (below_regrown wr dq osq)⟩⟩
    | cons c r2 =>
      obtain ⟨hlt, hc, hd', hlen⟩ := drop_byte hd
      have hg1 : decide ((j : Int) < (s.length : Int)) = true := by rw [decide_eq_true_eq]; omega
      have HD := Lib.hid (And.intro hd hd')
      have hm : ((⟨s.toArray⟩ : ByteArray)[j]'hlt).toNat = c.toNat := by rw [← hc]; rfl
      clear hd hd' hc hlen
      cases hdg : dig c
      · have cB : ∀ dd os, Calls Tryz.prog 165 #[.int .u8 c.toNat] (grow (redrawn wr dd) os) fun e w'' => e = .returned (.bool false) ∧ ∃ p : Regrown, w'' = grow (redrawn wr p.d) p.os := fun dd os => by rw [← hdg]; exact (isDigit_any c _).mono (fun e w' h => ⟨h.1, ⟨⟨dd, os⟩, h.2.symm⟩⟩)
        have HC := Lib.hid hdg
        clear hdg
        go_upto_region 2 with (fail)
        refine wp_region_quiet_below (by kernel_rfl) (by kernel_rfl) ?_
        repeat (first | go_big_quiet_step ((first | with_reducible exact cB _ _)) | quiet_step (first | with_reducible exact cB _ _))
        refine wpQuiet_nil ?_
        intro _ hw'
        obtain ⟨⟨dq, osq⟩, hw''⟩ := hw'
        subst hw''
        clear c0 c1 cB
        go_wp2
        go_ret
        obtain ⟨hb, o⟩ := HO.out
        exact Res.mkOk (b := (acc, c :: r2)) (by unfold digitsR; rw [HZ.out.none_not HC.out]; simp only [HE.out]; simp [digsR, HC.out]) (hb.all (below_regrown wr dq osq)) ⟨rfl, ⟨j, hi, HD.out.1, o.all (below_regrown wr dq osq)⟩⟩
      · have cB : ∀ dd os, Calls Tryz.prog 165 #[.int .u8 c.toNat] (grow (redrawn wr dd) os) fun e w'' => e = .returned (.bool true) ∧ ∃ p : Regrown, w'' = grow (redrawn wr p.d) p.os := fun dd os => by rw [← hdg]; exact (isDigit_any c _).mono (fun e w' h => ⟨h.1, ⟨⟨dd, os⟩, h.2.symm⟩⟩)
        have hc48 : 48 ≤ c.toNat := by simp [dig] at hdg; omega
        have hc57 : c.toNat ≤ 57 := by simp [dig] at hdg; omega
        have HC := Lib.hid hdg
        clear hdg
        go_upto_region 2 with (fail)
        refine wp_region_quiet_below (by kernel_rfl) (by kernel_rfl) ?_
        repeat (first | go_big_quiet_step ((first | with_reducible exact cB _ _)) | quiet_step (first | with_reducible exact cB _ _))
        refine wpQuiet_nil ?_
        intro _ hw'
        obtain ⟨⟨dq, osq⟩, hw''⟩ := hw'
        subst hw''
        clear c0 c1 cB
        obtain ⟨hb, o⟩ := HO.out
        have hb' := hb.all (below_regrown wr dq osq)
        have o' := o.all (below_regrown wr dq osq)
        clear hb o HO
        generalize grow (redrawn wr dq) osq = U at *
        have u0 := o'.cell (i := 0) rfl
        have u1 := o'.cell (i := 1) rfl
        have HO := Lib.hid (And.intro hb' o')
        clear hb' o'
        rcases Nat.eq_zero_or_pos k with hk0 | hk0
        · subst hk0
          have hgt : ¬ ((i0 : Int) < (j : Int)) := by have := HJ.out; omega
          by_cases hle : acc ≤ 1000000000000000
          · have hdd : digTo acc c = 10 * acc + ((c.toNat : Int) - 48) := by unfold digTo; rw [if_pos hle]
            have HDD := Lib.hid hdd
            clear hdd
            go_upto_region 7 with (fail)
            go_region
            obtain ⟨hb', o'⟩ := HO.out
            have v1 := o'.drew.cell (i := 1) rfl
            have v2 := o'.drew.frozen 1
            go_wp2
            go_roundg r2.length
            case measure => have := HG.out; simp at this; omega
            case rel => exact ⟨1, j + 1, digTo acc c, r2, Lib.hid (by have := HJ.out; omega), rfl, by rw [HDD.out], by rw [HDD.out]; omega, by rw [HDD.out]; omega, by omega, HD.out.2, (hb'.drew.set 1 _), o'.drew.set 1 _, Lib.hid (by rw [HE.out]; simp [digsR, HC.out]), Lib.hid (HZ.out.next (fun h => absurd h (by omega)))⟩
          · have hdd : digTo acc c = acc := by unfold digTo; rw [if_neg hle]
            have HDD := Lib.hid hdd
            clear hdd
            obtain ⟨hb', o'⟩ := HO.out
            have v1 := o'.cell (i := 1) rfl
            have v2 := o'.frozen 1
            have HO2 := Lib.hid (And.intro hb' o')
            clear hb' o'
            go_wp2
            go_roundg r2.length
            case measure => have := HG.out; simp at this; omega
            case rel => exact ⟨1, j + 1, acc, r2, Lib.hid (by have := HJ.out; omega), rfl, rfl, by omega, by omega, by omega, HD.out.2, (HO2.out.1.set 1 _), HO2.out.2.set 1 _, Lib.hid (by rw [HE.out]; simp [digsR, HC.out, HDD.out]), Lib.hid (HZ.out.next (fun h => absurd h (by omega)))⟩
        · obtain ⟨c0, rr, hr, hz0⟩ : ∃ c0 rr, r = c0 :: rr ∧ (c0.toNat = 48 → k = 1 ∧ c :: r2 = rr) := by
            rcases HZ.out.out with ⟨h, -⟩ | ⟨-, c0, rr, h1, h2⟩
            · omega
            · exact ⟨c0, rr, h1, h2⟩
          have hd0 := HD0.out
          rw [hr] at hd0
          obtain ⟨hlt0, hc0, -, -⟩ := drop_byte hd0
          have hm0 : ((⟨s.toArray⟩ : ByteArray)[i0]'hlt0).toNat = c0.toNat := by rw [← hc0]; rfl
          have HR := Lib.hid hr
          clear hd0 hc0 hr hz0
          have hgt : (i0 : Int) < (j : Int) := by have := HJ.out; omega
          by_cases h48 : c0.toNat = 48
          · have h48' : (c0.toNat : Int) = 48 := by omega
            have HF := Lib.hid h48
            have C := Lib.hid (fail_st 2 (St.mk ⟨j, hi, HD.out.1, HO.out.2⟩))
            clear h48
            go_wp2_with fail
            refine C.out.mono ?_
            rintro e w4 ⟨rfl, rfl⟩
            go_wp2
            exact ⟨rfl, Res.mkEr (k := r2.length + 1) (c := 2) (by unfold digitsR; rw [HR.out, (HR.out ▸ HZ.out : ZI (c0 :: rr) k (c :: r2)).some_at hk0 HC.out HF.out]) HO.out.1⟩
          · have h48' : ¬ (c0.toNat : Int) = 48 := by omega
            have h48'' : ((c0.toNat : Int) == 48) = false := by rw [beq_eq_false_iff_ne]; exact h48'
            have HF := Lib.hid h48
            clear h48
            by_cases hle : acc ≤ 1000000000000000
            · have hdd : digTo acc c = 10 * acc + ((c.toNat : Int) - 48) := by unfold digTo; rw [if_pos hle]
              have HDD := Lib.hid hdd
              clear hdd
              go_upto_region 7 with (fail)
              go_region
              obtain ⟨hb', o'⟩ := HO.out
              have v1 := o'.drew.cell (i := 1) rfl
              have v2 := o'.drew.frozen 1
              go_wp2
              go_roundg r2.length
              case measure => have := HG.out; simp at this; omega
              case rel => exact ⟨k + 1, j + 1, digTo acc c, r2, Lib.hid (by have := HJ.out; omega), rfl, by rw [HDD.out], by rw [HDD.out]; omega, by rw [HDD.out]; omega, by omega, HD.out.2, (hb'.drew.set 1 _), o'.drew.set 1 _, Lib.hid (by rw [HE.out]; simp [digsR, HC.out]), Lib.hid (HZ.out.next (fun _ x y h => by rw [HR.out] at h; cases h; exact HF.out))⟩
            · have hdd : digTo acc c = acc := by unfold digTo; rw [if_neg hle]
              have HDD := Lib.hid hdd
              clear hdd
              obtain ⟨hb', o'⟩ := HO.out
              have v1 := o'.cell (i := 1) rfl
              have v2 := o'.frozen 1
              have HO2 := Lib.hid (And.intro hb' o')
              clear hb' o'
              go_wp2
              go_roundg r2.length
              case measure => have := HG.out; simp at this; omega
              case rel => exact ⟨k + 1, j + 1, acc, r2, Lib.hid (by have := HJ.out; omega), rfl, rfl, by omega, by omega, by omega, HD.out.2, (HO2.out.1.set 1 _), HO2.out.2.set 1 _, Lib.hid (by rw [HE.out]; simp [digsR, HC.out, HDD.out]), Lib.hid (HZ.out.next (fun _ x y h => by rw [HR.out] at h; cases h; exact HF.out))⟩
end Go.Proofs.YtjpmnlefjmdelaaGreatDoor
