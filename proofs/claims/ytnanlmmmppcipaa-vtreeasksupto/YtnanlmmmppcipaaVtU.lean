/- The program's Same. -/
import Derived.Test.YtnanlmmmppcipaaVtT
namespace Go.Proofs.Ytnanlmmmppcipaa
open Go.RowKit
set_option linter.unusedVariables false
set_option linter.unusedSimpArgs false

set_option maxRecDepth 100000 in
set_option maxHeartbeats 16000000 in
theorem equalFunc_any (m : Nat) (ih : ∀ (G1 G2 : Nat → Prop) (a b : VT) (va vb : Value) (w : World), a.sz ≤ m → VIs G1 w va a → VIs G2 w vb b → Calls Try.prog 19 #[va, vb] w fun e w' => e = .returned (.bool (eqV a b)) ∧ Below w.heap.size w w') (G1 G2 : Nat → Prop) (A B : List VT) (va vb : Value) (w : World) (hm : szs A ≤ m) (ha : KsIs G1 w va A) (hb : KsIs G2 w vb B) :
    Calls Try.prog 51 #[va, vb, .func (.func 19) #[] #[]] w fun e w' => e = .returned (.bool (eqVs A B)) ∧ Below w.heap.size w w' := by
  obtain ⟨a1, c1, rfl⟩ := ha.form
  obtain ⟨a2, c2, rfl⟩ := hb.form
  have hla := ha.len
  have hlb := hb.len
  have HA : Hid (KsIs G1 w (.slice a1 A.length c1) A) := ha
  have HB : Hid (KsIs G2 w (.slice a2 B.length c2) B) := hb
  clear ha hb
  by_cases hn : A.length = B.length
  · obtain ⟨n, en⟩ : ∃ n, n = B.length := ⟨_, rfl⟩
    have HN2 : Hid (n = B.length) := en
    rw [hn, ← en]
    rw [hn, ← en] at HA hla
    rw [← en] at HB hlb
    have HNa : Hid (n = A.length) := (by show _ = _; rw [hn, en])
    clear hn en
    go_enter Try.func51, Try.ntmps51
    go_wp2_with fail
    go_loopw [17] (fun iv wr => ∃ (i : Nat), iv = .int .i64 (i : Int) ∧ i ≤ n ∧ Hid (A.take i = B.take i) ∧ Hid (Below w.heap.size w wr)) (fun iv _ => n - (intOf iv).toNat)
    case atStart => exact ⟨0, rfl, Nat.zero_le _, rfl, Below.refl _ _⟩
    case round =>
      obtain ⟨i, rfl, hil, HT, HBw⟩ := hrel
      by_cases hlt : i < n
      · have hia : i < A.length := by rw [← HNa.out]; exact hlt
        have hib : i < B.length := by rw [← HN2.out]; exact hlt
        obtain ⟨b1, o1, rfl, _, hl1, hv1⟩ := (HA.out.below HBw.out).kid hia
        obtain ⟨b2, o2, rfl, _, hl2, hv2⟩ := (HB.out.below HBw.out).kid hib
        have HTk0 := take_next hia hib HT.out
        have HNe0 : A[i] ≠ B[i] → A ≠ B := fun h e => h (by subst e; rfl)
        have hsz0 : A[i].sz ≤ m := Nat.le_trans (szs_get A i hia) hm
        obtain ⟨x, ex⟩ : ∃ x, x = A[i] := ⟨_, rfl⟩
        obtain ⟨y, ey⟩ : ∃ y, y = B[i] := ⟨_, rfl⟩
        rw [← ex] at hv1 HTk0 HNe0 hsz0
        rw [← ey] at hv2 HTk0 HNe0
        have Hsz : Hid (x.sz ≤ m) := hsz0
        have HTk1 : Hid (x = y → A.take (i + 1) = B.take (i + 1)) := HTk0
        have HNe1 : Hid (x ≠ y → A ≠ B) := HNe0
        obtain ⟨xa, cx, xk, dx, p0, p1, p2, p3, p4, p5, fx⟩ := hv1.cells
        obtain ⟨ya, cy, yk, dy, r0, r1, r2, r3, r4, r5, fy⟩ := hv2.cells
        have hbx : Below wr.heap.size wr (wr.alloc (.cells #[.int .i64 x.k.1, .int .i64 x.k.2, .string x.tg, .string x.tx, .slice xa x.at_.length cx, .slice xk x.ks.length dx] 27)) := (Below.refl _ _).alloc (Nat.le_refl _) _
        have hby : Below wr.heap.size wr ((wr.alloc (.cells #[.int .i64 x.k.1, .int .i64 x.k.2, .string x.tg, .string x.tx, .slice xa x.at_.length cx, .slice xk x.ks.length dx] 27)).alloc (.cells #[.int .i64 y.k.1, .int .i64 y.k.2, .string y.tg, .string y.tx, .slice ya y.at_.length cy, .slice yk y.ks.length dy] 27)) := hbx.alloc (by simp) _
        have HFx : Hid (FdIs G1 ((wr.alloc (.cells #[.int .i64 x.k.1, .int .i64 x.k.2, .string x.tg, .string x.tx, .slice xa x.at_.length cx, .slice xk x.ks.length dx] 27)).alloc (.cells #[.int .i64 y.k.1, .int .i64 y.k.2, .string y.tg, .string y.tx, .slice ya y.at_.length cy, .slice yk y.ks.length dy] 27)) (.slice xa x.at_.length cx) (.slice xk x.ks.length dx) x.at_ x.ks) := fx.below hby
        have HFy : Hid (FdIs G2 ((wr.alloc (.cells #[.int .i64 x.k.1, .int .i64 x.k.2, .string x.tg, .string x.tx, .slice xa x.at_.length cx, .slice xk x.ks.length dx] 27)).alloc (.cells #[.int .i64 y.k.1, .int .i64 y.k.2, .string y.tg, .string y.tx, .slice ya y.at_.length cy, .slice yk y.ks.length dy] 27)) (.slice ya y.at_.length cy) (.slice yk y.ks.length dy) y.at_ y.ks) := fy.below hby
        have HBy : Hid (Below w.heap.size w ((wr.alloc (.cells #[.int .i64 x.k.1, .int .i64 x.k.2, .string x.tg, .string x.tx, .slice xa x.at_.length cx, .slice xk x.ks.length dx] 27)).alloc (.cells #[.int .i64 y.k.1, .int .i64 y.k.2, .string y.tg, .string y.tx, .slice ya y.at_.length cy, .slice yk y.ks.length dy] 27))) := HBw.out.trans (hby.mono HBw.out.size)
        replace r0 : (wr.alloc (.cells #[.int .i64 x.k.1, .int .i64 x.k.2, .string x.tg, .string x.tx, .slice xa x.at_.length cx, .slice xk x.ks.length dx] 27)).cell? ⟨b2, o2 + i * 6, none⟩ = some (.int .i64 y.k.1) := (hbx.cell (p := ⟨b2, o2 + i * 6, none⟩) hl2).trans r0
        replace r1 : (wr.alloc (.cells #[.int .i64 x.k.1, .int .i64 x.k.2, .string x.tg, .string x.tx, .slice xa x.at_.length cx, .slice xk x.ks.length dx] 27)).cell? ⟨b2, o2 + i * 6 + 1, none⟩ = some (.int .i64 y.k.2) := (hbx.cell (p := ⟨b2, o2 + i * 6 + 1, none⟩) hl2).trans r1
        replace r2 : (wr.alloc (.cells #[.int .i64 x.k.1, .int .i64 x.k.2, .string x.tg, .string x.tx, .slice xa x.at_.length cx, .slice xk x.ks.length dx] 27)).cell? ⟨b2, o2 + i * 6 + 2, none⟩ = some (.string y.tg) := (hbx.cell (p := ⟨b2, o2 + i * 6 + 2, none⟩) hl2).trans r2
        replace r3 : (wr.alloc (.cells #[.int .i64 x.k.1, .int .i64 x.k.2, .string x.tg, .string x.tx, .slice xa x.at_.length cx, .slice xk x.ks.length dx] 27)).cell? ⟨b2, o2 + i * 6 + 3, none⟩ = some (.string y.tx) := (hbx.cell (p := ⟨b2, o2 + i * 6 + 3, none⟩) hl2).trans r3
        replace r4 : (wr.alloc (.cells #[.int .i64 x.k.1, .int .i64 x.k.2, .string x.tg, .string x.tx, .slice xa x.at_.length cx, .slice xk x.ks.length dx] 27)).cell? ⟨b2, o2 + i * 6 + 4, none⟩ = some (.slice ya y.at_.length cy) := (hbx.cell (p := ⟨b2, o2 + i * 6 + 4, none⟩) hl2).trans r4
        replace r5 : (wr.alloc (.cells #[.int .i64 x.k.1, .int .i64 x.k.2, .string x.tg, .string x.tx, .slice xa x.at_.length cx, .slice xk x.ks.length dx] 27)).cell? ⟨b2, o2 + i * 6 + 5, none⟩ = some (.slice yk y.ks.length dy) := (hbx.cell (p := ⟨b2, o2 + i * 6 + 5, none⟩) hl2).trans r5
        have k1 : (i : Int) < (n : Int) := by omega
        have k0 : (0 : Int) ≤ (i : Int) := by omega
        clear ex ey hv1 hv2 hl1 hl2 HTk0 HNe0 hia hib hsz0 fx fy hbx hby
        go_wp2_with fail
        clear p0 p1 p2 p3 p4 p5 r0 r1 r2 r3 r4 r5
        refine (ih G1 G2 x y _ _ _ Hsz.out (VIs.of HFx.out) (VIs.of HFy.out)).mono ?_
        rintro e w2 ⟨rfl, hb⟩
        have HB2 : Hid (Below w.heap.size w w2) := HBy.out.trans (hb.mono HBy.out.size)
        clear hb HBw HBy HFx HFy
        by_cases he : x = y
        · have HTk : Hid (A.take (i + 1) = B.take (i + 1)) := HTk1.out he
          rw [eqV_true he]
          clear he HTk1 HNe1
          have n1 : IntKind.i64.wrap ((i : Int) + 1) = (i : Int) + 1 := by rw [IntKind.wrap_i64]; omega
          go_wp2
          go_roundw
          case rel => exact ⟨i + 1, by go_num, by omega, HTk, HB2⟩
          case measure => simp [intOf]; omega
        · have HNe : Hid (eqVs A B = false) := eqVs_false (HNe1.out he)
          rw [eqV_false he]
          clear he HTk1 HNe1
          go_wp2
          go_ret
          exact ⟨ret_bool (by rw [HNe.out]), HB2.out⟩
      · have HI : Hid (eqVs A B = true) := (by have h1 := HT.out; have h2 := HNa.out; have h3 := HN2.out; rw [List.take_of_length_le (by omega), List.take_of_length_le (by omega)] at h1; exact eqVs_true h1)
        go_wp2
        go_ret
        exact ⟨ret_bool (by rw [HI.out]), HBw.out⟩
  · have HNe : Hid (eqVs A B = false) := eqVs_false fun e => hn (by rw [e])
    have q : ((A.length : Int) == (B.length : Int)) = false := by simp; omega
    clear hn
    go_enter Try.func51, Try.ntmps51
    go_wp2
    go_ret
    exact ⟨ret_bool (by rw [HNe.out]), Below.refl _ _⟩

set_option maxRecDepth 100000 in
set_option maxHeartbeats 16000000 in
theorem same_n (m : Nat) : ∀ (G1 G2 : Nat → Prop) (a b : VT) (va vb : Value) (w : World), a.sz ≤ m → VIs G1 w va a → VIs G2 w vb b →
    Calls Try.prog 19 #[va, vb] w fun e w' => e = .returned (.bool (eqV a b)) ∧ Below w.heap.size w w' := by
  induction m with
  | zero => intro _ _ a _ _ _ _ h; have := a.sz_pos; omega
  | succ m ih =>
    intro G1 G2 a b va vb w hm ha hb
    have Hsm : Hid (szs a.ks ≤ m) := (by have := a.sz_eq; show _ ≤ _; omega)
    obtain ⟨aa, ca, ak, ck, e1, fa⟩ := ha.form
    obtain ⟨ba, cb, bk, dk, e2, fb⟩ := hb.form
    subst e1 e2
    have HS := hide9 (SmS.start fa fb)
    have hlk := fa.ks.len
    have hll := fb.ks.len
    clear ha hb fa fb
    by_cases hk : a.k = b.k
    · have hq : ∀ w, (binOp .eql 23 (.agg #[.int .i64 a.k.1, .int .i64 a.k.2]) (.agg #[.int .i64 b.k.1, .int .i64 b.k.2])).run Try.prog w = .ok (.bool true) w := fun w => by (rw [eqlSt, decide_eq_true (show (a.k.1, a.k.2) = (b.k.1, b.k.2) from hk)])
      have Hk : Hid (a.k = b.k) := hk
      clear hk
      by_cases htg : a.tg = b.tg
      · have tgq : (a.tg.toList == b.tg.toList) = true := (by rw [txt_eq]; exact decide_eq_true htg)
        have Htg : Hid (a.tg = b.tg) := htg
        clear htg
        by_cases htx : a.tx = b.tx
        · have txq : (a.tx.toList == b.tx.toList) = true := (by rw [txt_eq]; exact decide_eq_true htx)
          have Htx : Hid (a.tx = b.tx) := htx
          clear htx
          go_enter Try.func19, Try.ntmps19
          go_wp2_with fail
          refine (equalAttrs_any G1 G2 _ _ _ _ _ HS.out.fa.at_ HS.out.fb.at_).mono ?_
          rintro e w1 ⟨rfl, hb⟩
          replace HS : Hid (SmS w G1 G2 a b aa ca ak ck ba cb bk dk w1) := HS.out.below hb
          clear hb
          by_cases hat : a.at_ = b.at_
          · have Hat : Hid (a.at_ = b.at_) := hat
            rw [decide_eq_true hat]
            clear hat
            obtain ⟨_, _, _, _, _, z1⟩ := row6 HS.out.b1
            obtain ⟨_, _, _, _, _, z2⟩ := row6 HS.out.b2
            go_wp2_with fail
            refine (equalFunc_any m ih G1 G2 a.ks b.ks _ _ _ Hsm.out HS.out.fa.ks HS.out.fb.ks).mono ?_
            rintro e w2 ⟨rfl, hb⟩
            replace HS : Hid (SmS w G1 G2 a b aa ca ak ck ba cb bk dk w2) := HS.out.below hb
            clear hb z1 z2
            by_cases hks : a.ks = b.ks
            · have HI : Hid (eqV a b = true) := eqV_true (VT.ext Hk.out Htg.out Htx.out Hat.out hks)
              rw [eqVs_true hks]
              clear hks
              go_wp2
              go_ret
              exact ⟨ret_bool (by rw [HI.out]), HS.out.bel⟩
            · have HNe : Hid (eqV a b = false) := eqV_false fun e => hks (by rw [e])
              rw [eqVs_false hks]
              clear hks
              go_wp2
              go_ret
              exact ⟨ret_bool (by rw [HNe.out]), HS.out.bel⟩
          · have HNe : Hid (eqV a b = false) := eqV_false fun e => hat (by rw [e])
            rw [decide_eq_false hat]
            clear hat
            go_wp2
            go_ret
            exact ⟨ret_bool (by rw [HNe.out]), HS.out.bel⟩
        · have txq : (a.tx.toList == b.tx.toList) = false := (by rw [txt_eq]; exact decide_eq_false htx)
          have Htx : Hid (a.tx ≠ b.tx) := htx
          clear htx
          have HNe : Hid (eqV a b = false) := eqV_false fun e => Htx.out (by rw [e])
          go_enter Try.func19, Try.ntmps19
          go_wp2
          go_ret
          exact ⟨ret_bool (by rw [HNe.out]), HS.out.bel⟩
      · have tgq : (a.tg.toList == b.tg.toList) = false := (by rw [txt_eq]; exact decide_eq_false htg)
        have Htg : Hid (a.tg ≠ b.tg) := htg
        clear htg
        have HNe : Hid (eqV a b = false) := eqV_false fun e => Htg.out (by rw [e])
        go_enter Try.func19, Try.ntmps19
        go_wp2
        go_ret
        exact ⟨ret_bool (by rw [HNe.out]), HS.out.bel⟩
    · have hq : ∀ w, (binOp .eql 23 (.agg #[.int .i64 a.k.1, .int .i64 a.k.2]) (.agg #[.int .i64 b.k.1, .int .i64 b.k.2])).run Try.prog w = .ok (.bool false) w := fun w => by (rw [eqlSt, decide_eq_false (show ¬ (a.k.1, a.k.2) = (b.k.1, b.k.2) from hk)])
      have Hk : Hid (a.k ≠ b.k) := hk
      clear hk
      have HNe : Hid (eqV a b = false) := eqV_false fun e => Hk.out (by rw [e])
      go_enter Try.func19, Try.ntmps19
      go_wp2
      go_ret
      exact ⟨ret_bool (by rw [HNe.out]), HS.out.bel⟩

theorem same_any (G1 G2 : Nat → Prop) (a b : VT) (va vb : Value) (w : World) (ha : VIs G1 w va a) (hb : VIs G2 w vb b) : Calls Try.prog 19 #[va, vb] w fun e w' => e = .returned (.bool (eqV a b)) ∧ Below w.heap.size w w' := same_n a.sz G1 G2 a b va vb w (Nat.le_refl _) ha hb

theorem refSame_any (G1 G2 : Nat → Prop) (a b : VT) (va vb : Value) (w : World) (ha : VIs G1 w va a) (hb : VIs G2 w vb b) : Calls Try.prog 12 #[va, vb] w fun e w' => e = .returned (.bool (eqV a b)) ∧ Below w.heap.size w w' := refSame_n a.sz G1 G2 a b va vb w (Nat.le_refl _) ha hb

end Go.Proofs.Ytnanlmmmppcipaa
