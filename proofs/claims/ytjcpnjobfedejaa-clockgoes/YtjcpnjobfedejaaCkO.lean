/- The walk of ClockGoes: for every two lists of numbers and every number it returns true. -/
import Derived.Test.YtjcpnjobfedejaaCkE
import Derived.Test.YtjcpnjobfedejaaCkP
import Derived.Test.YtjcpnjobfedejaaCkW
import Derived.Sort.QuietIn
import Derived.Test.YtjcpnjobfedejaaQuietR
namespace Go.Proofs.Ytjcpnjobfedejaa
open Go.RowKit Go.Shelf
set_option linter.unusedVariables false

attribute [local go_sem] Oper.semAt_some

/-- 'append(s, l...)', s empty and the call's own, l any list of numbers. -/
theorem wpListIn_append_I {F : Fence} {n : Nat} (w : World) {ops : Array Oper} {rest : List Oper} {o : Oper} {a : Act} {Q : Exit → Act → World → Prop}
    (hg : o.guard = none) (s x : Operand) (hop : o.op = Op.call { callee := Callee.builtin Builtin.append, args := #[s, x], argTypes := #[22, 22] })
    (base : Nat) (v : Value) (hs : a.eval s = v) (hown : w.ownsRow base 3 1 v 0 []) (vx : Value) (d : List Int) (hx : a.eval x = vx) (hI : IsI w vx d) (b3 : base ≤ w.heap.size)
    (hK : ∀ v' w', OwnI base w' v' d → w.grownBy w' v.ownBlock → wpListIn F n Try.prog ops Q rest (a.put o.dst v') w') : wpListIn F n Try.prog ops Q (o :: rest) a w := by
  obtain ⟨i0, hi, hz0, hz1, hz2⟩ := info_parts infoInt
  obtain ⟨al, cap, rfl, hc, hl, hr⟩ := hI
  match al with
  | none =>
    have e : d = [] := hr.resolve_right (fun ⟨_, _, e, _⟩ => by cases e)
    subst e
    refine wpListIn_plain hg fun K hK' => ?_
    have hrun : (Builtin.append_ #[22, 22] o.type #[v, .slice none 0 cap]).run Try.prog w = .ok v w := by
      rcases hown.2 with ⟨rfl, _⟩ | ⟨g, cp, cur, rfl, _⟩
      · simp [Builtin.append_, run_underlying Try.underlying22, sizeOf, typeInfo, hi, Builtin.lenOf, Builtin.firstCells]
      · simp [Builtin.append_, run_underlying Try.underlying22, sizeOf, typeInfo, hi, Builtin.lenOf, Builtin.firstCells, storeCells]
    unfold Oper.wpIn
    refine ⟨?_, ?_⟩
    · simp [Oper.about, hop, resolve, Target.leads, Sem.run_pure]
    · rw [Oper.semAt_plain F _ _ (by rw [hop]; intro c hc'; cases hc')]
      simp [execOp, hop, resolve, invoke, builtin, hs, hx, hrun, Result.andThen]
      exact hK' _ _ (hK v w hown ⟨rfl, rfl, rfl, Nat.le_refl _, fun _ _ _ => rfl⟩)
  | some ad =>
    have hn : ∀ j u, (cellsI d)[j]? = some u → w.cell? (ad.add j) = some u := by
      intro j u hj
      rcases hr with rfl | ⟨b, o, e, hr⟩
      · simp [cellsI] at hj
      · cases e
        exact hr.news j u hj
    refine wpListIn_append_own w hg s x 22 hop base 3 i0 (.int .i64 0) 1 8 Try.underlying22 hi hz0 hz1 hz2 rfl (by decide) v 0 [] hs hown ad d.length cap (cellsI d) hx (cellsI_length d) hn (cellsI_one d) (by unfold maxLen; omega) (by omega) b3 ?_
    intro v' w' h1 h2 _
    exact hK v' w' (by unfold OwnI; simpa using h1) h2

theorem eql_nilFunc (B1 B2 : Nat) (w : World) : (binOp .eql 40 (.func (.func 33) #[] #[.pointer (some ⟨B1, 0, none⟩), .pointer (some ⟨B2, 0, none⟩)]) .nilFunc).run Try.prog w = .ok (.bool false) w := by kernel_rfl

theorem results_boolCell6 {fn : Func} (hr : fn.results = #[.cell 6 4]) (tmps : Array Value) (R : Nat) (w : World) (b : Bool) (hp : tmps.getD 6 undef = .pointer (some ⟨R, 0, none⟩)) (hc : w.cell? ⟨R, 0, none⟩ = some (.bool b)) : (results fn tmps).run Try.prog w = .ok (.bool b) w := by
  have hp' : tmps[6]?.getD undef = .pointer (some ⟨R, 0, none⟩) := by simpa using hp
  simp [results, hr, hp', asAddr, loadVar, isAgg, run_underlying Try.underlying4, load, go_sem]
  simp [Sem.run, hc]

/-- A row of numbers that may be written, in a block from B to below T. -/
def GivenI (B T : Nat) (W : World) (a : Option Addr) (m : Nat) : Prop := m = 0 ∨ ∃ g, a = some ⟨g, 0, none⟩ ∧ (B ≤ g ∧ g < T) ∧ ∀ i, i < m → (∃ x, W.cell? ⟨g, i, none⟩ = some (.int .i64 x)) ∧ W.frozen? ⟨g, i, none⟩ = false
theorem OwnI.given {B : Nat} {w : World} {v : Value} {D : List Int} (h : OwnI B w v D) : ∃ a cap, v = .slice a D.length cap ∧ GivenI B w.heap.size w a D.length := by
  have h0 := h
  rcases h.2 with ⟨rfl, hn⟩ | ⟨g, cap, cur, rfl, hg, hc, hcap, rest⟩
  · exact ⟨none, 0, by rw [hn], .inl hn⟩
  · refine ⟨_, cap, rfl, .inr ⟨g, rfl, ⟨hg, (Array.getElem?_eq_some_iff.1 hc).1⟩, fun i hi => ⟨⟨D[i], ?_⟩, World.ownsRow.frozenAt h0 i⟩⟩⟩
    rw [h0.cellAt i (by omega)]
    simp [cellsI, hi]
theorem GivenI.below {B T : Nat} {W W' : World} {a : Option Addr} {m : Nat} (h : GivenI B T W a m) (hb : Below T W W') : GivenI B T W' a m :=
  h.imp id fun ⟨g, e, hg, hr⟩ => ⟨g, e, hg, fun i hi => by
    obtain ⟨⟨x, hx⟩, hf⟩ := hr i hi
    exact ⟨⟨x, (hb.cell (p := ⟨g, i, none⟩) hg.2).trans hx⟩, (hb.frozen (p := ⟨g, i, none⟩) hg.2).trans hf⟩⟩
theorem GivenI.set {B T : Nat} {W : World} {a : Option Addr} {m : Nat} (h : GivenI B T W a m) (g k : Nat) (y : Int) : GivenI B T (W.setCell ⟨g, k, none⟩ (.int .i64 y)) a m :=
  h.imp id fun ⟨g', e, hg, hr⟩ => ⟨g', e, hg, fun i hi => by
    obtain ⟨⟨x, hx⟩, hf⟩ := hr i hi
    refine ⟨?_, by rw [World.frozen?_setCell]; exact hf⟩
    by_cases e2 : (⟨g, k, none⟩ : Addr) = ⟨g', i, none⟩
    · rw [e2]; exact ⟨y, World.cell?_setCell_same _ _ _ hx⟩
    · exact ⟨x, (World.cell?_setCell_other _ _ _ _ e2).trans hx⟩⟩

/-- The blocks from lo to below hi lie as they lay. -/
abbrev KeepsIn (lo hi : Nat) : World → World → Prop := KeepsS (fun k => lo ≤ k ∧ k < hi)
theorem keepsIn_below {lo hi B : Nat} {W W' : World} (h : Below B W W') (hB : hi ≤ B) : KeepsIn lo hi W W' := KeepsS.of_below h (fun k hk => by omega)
theorem keepsIn_grown {lo hi : Nat} {W W' : World} {row : Option Nat} (h : W.grownBy W' row) (hh : hi ≤ W.heap.size) (hr : ∀ r, row = some r → r < lo ∨ hi ≤ r) : KeepsIn lo hi W W' :=
  KeepsS.of_grown h (fun k hk => by omega) (fun r e hk => by have := hr r e; omega)
/-- The row of the wanted gaps, in a block below hi. -/
def RowW (hi : Nat) (W : World) (a : Option Addr) (d : List (Int × Int × Int)) : Prop := d = [] ∨ ∃ b o, a = some ⟨b, o, none⟩ ∧ b < hi ∧ SpansAt W b o d
theorem RowW.below {hi B : Nat} {A C : World} {a : Option Addr} {d : List (Int × Int × Int)} (h : RowW hi A a d) (hb : Below B A C) (hB : hi ≤ B) : RowW hi C a d :=
  h.imp id fun ⟨b, o, e, hlt, hr⟩ => ⟨b, o, e, hlt, fun i hi => ⟨(hb.cell (p := ⟨b, o + i * 3, none⟩) (by show b < _; omega)).trans (hr i hi).1, (hb.cell (p := ⟨b, o + i * 3 + 1, none⟩) (by show b < _; omega)).trans (hr i hi).2.1, (hb.cell (p := ⟨b, o + i * 3 + 2, none⟩) (by show b < _; omega)).trans (hr i hi).2.2⟩⟩
theorem gapsR_each (d1 d2 : List Int) : gapsL (eachL d1 d2 d1) (eachL d1 d2 d2) = gapsR d1 d2 := by
  by_cases h : twoL d1 d2 = 0
  · rw [eachL_ok h, eachL_ok h, gapsR_ok h]
  · rw [eachL_no h, eachL_no h, gapsR_no h]; rfl

set_option maxHeartbeats 8000000 in
set_option maxRecDepth 100000 in
theorem goes_in (n : Nat) (hn : 4 ≤ n) (va vb : Value) (d1 d2 : List Int) (st : Int) (w : World) (h1 : IsI w va d1) (h2 : IsI w vb d2) :
    CallsIn Fence.wide n Try.prog 8 #[va, vb, .int .i64 st] w fun e w' => e = .returned (.bool true) ∧ Below w.heap.size w w' := by
  have hro : Fence.wide.round = none := rfl
  have h1n : 1 ≤ n := by omega
  have hl1 : d1.length ≤ 17592186044416 := by obtain ⟨_, _, _, _, hl, _⟩ := h1; exact hl
  have hl2 : d2.length ≤ 17592186044416 := by obtain ⟨_, _, _, _, hl, _⟩ := h2; exact hl
  obtain ⟨av, cv, ev⟩ := h1.form
  obtain ⟨bv, cb, eb⟩ := h2.form
  subst ev eb
  have HV1 : Hid (IsI w (.slice av d1.length cv) d1) := h1
  have HV2 : Hid (IsI w (.slice bv d2.length cb) d2) := h2
  clear h1 h2
  have hb3 : Below w.heap.size w (((w.alloc (.cells #[.int .i64 st] 3)).alloc (.cells #[.bool false] 4)).alloc (.cells #[] 3)) := (((Below.refl _ _).alloc (Nat.le_refl _) _).alloc (by simp) _).alloc (by simp; omega) _
  have HVa : Hid (IsI (((w.alloc (.cells #[.int .i64 st] 3)).alloc (.cells #[.bool false] 4)).alloc (.cells #[] 3)) (.slice av d1.length cv) d1) := HV1.out.below hb3
  have HO : Hid ((((w.alloc (.cells #[.int .i64 st] 3)).alloc (.cells #[.bool false] 4)).alloc (.cells #[] 3)).ownsRow (w.heap.size + 2) 3 1 (.slice (some ⟨w.heap.size + 1 + 1, 0, none⟩) 0 0) 0 []) := by
    show World.ownsRow _ _ _ _ _ _ _
    have := OwnI.empty ((w.alloc (.cells #[.int .i64 st] 3)).alloc (.cells #[.bool false] 4)) (w.heap.size + 2) (by simp)
    simpa [OwnI, cellsI] using this
  refine callsIn_of_wp_marks Try.func8 rfl trivial ?_ hro
  simp only [Try.ntmps8, List.size_toArray, List.length_cons, List.length_nil, Nat.reduceAdd, Nat.reduceSub, Array.replicate_succ, Array.replicate_zero, List.push_toArray, List.append_toArray, List.nil_append, List.cons_append]
  gi_wp2_with (first
    | (gi_at_builtin; refine wpListIn_append_I _ rfl _ _ rfl (w.heap.size + 2) (.slice (some ⟨w.heap.size + 1 + 1, 0, none⟩) 0 0) rfl HO.out _ d1 rfl HVa.out (by simp <;> omega) ?_; intro v3 w3 hown3 hgrow3; have HB3 : Hid (Below w.heap.size w w3) := hb3.grown hgrow3 (by simp <;> omega) (fun j e => by simp [Value.ownBlock] at e; omega); have HVb : Hid (IsI (w3.alloc (.cells #[] 3)) (.slice bv d2.length cb) d2) := HV2.out.below (HB3.out.alloc HB3.out.size _); have HO4 : Hid ((w3.alloc (.cells #[] 3)).ownsRow w3.heap.size 3 1 (.slice (some ⟨w3.heap.size, 0, none⟩) 0 0) 0 []) := OwnI.empty w3 w3.heap.size (Nat.le_refl _); have HO3 : Hid (OwnI (w.heap.size + 2) w3 v3 d1) := hown3; clear hown3; have HG3 : Hid ((((w.alloc (.cells #[.int .i64 st] 3)).alloc (.cells #[.bool false] 4)).alloc (.cells #[] 3)).grownBy w3 (some (w.heap.size + 1 + 1))) := hgrow3; clear hgrow3)
    | (gi_at_builtin; refine wpListIn_append_I _ rfl _ _ rfl w3.heap.size (.slice (some ⟨w3.heap.size, 0, none⟩) 0 0) rfl HO4.out _ d2 rfl HVb.out (by simp <;> omega) ?_; intro v4 w4 hown4 hgrow4; have HO5 : Hid (OwnI w3.heap.size w4 v4 d2) := hown4; clear hown4; have HG4 : Hid ((w3.alloc (.cells #[] 3)).grownBy w4 (some w3.heap.size)) := hgrow4; clear hgrow4))
  have hgrow3 := HG3.out
  have hgrow4 := HG4.out
  have hown4 := HO5.out
  clear HG3 HG4 HO5 HO4 HVb HO HVa
  have z3 : w.heap.size + 3 ≤ w3.heap.size := by have := hgrow3.size; simpa using this
  have bel3 : Below w.heap.size w w3 := HB3.out
  have bS3 : Boxed w3 w.heap.size 3 (.int .i64 st) := (((Boxed.new w 3 (.int .i64 st)).alloc _).alloc _).kept hgrow3 (by simp <;> omega)
  have bR3 : Boxed w3 (w.heap.size + 1) 4 (.bool false) := by
    have := ((Boxed.new (w.alloc (.cells #[.int .i64 st] 3)) 4 (.bool false)).alloc (.cells #[] 3)).kept hgrow3 (by simp)
    simpa using this
  obtain ⟨ax, cx, ex, gx3⟩ := HO3.out.given
  subst ex
  have HGX3 : Hid (GivenI (w.heap.size + 2) w3.heap.size w3 ax d1.length) := gx3
  clear gx3 hgrow3 hb3
  have z4 : w3.heap.size + 1 ≤ w4.heap.size := by have := hgrow4.size; simpa using this
  have bel34 : Below w3.heap.size w3 w4 := ((Below.refl _ _).alloc (Nat.le_refl _) _).grown hgrow4 (by simp) (fun j e => by cases e; exact Nat.le_refl _)
  have bel4 : Below w.heap.size w w4 := bel3.trans (bel34.mono (by omega))
  have bS4 : Boxed w4 w.heap.size 3 (.int .i64 st) := (bel34.block _ (by omega)).trans bS3
  have bR4 : Boxed w4 (w.heap.size + 1) 4 (.bool false) := (bel34.block _ (by omega)).trans bR3
  have HI3 : Hid (IsI w4 (.slice ax d1.length cx) d1) := (HO3.out.isI hl1).below bel34
  have HGX4 : Hid (GivenI (w.heap.size + 2) w3.heap.size w4 ax d1.length) := HGX3.out.below bel34
  have HI4 : Hid (IsI w4 v4 d2) := OwnI.isI hown4 hl2
  obtain ⟨ay, cy, ey, gy4⟩ := OwnI.given hown4
  subst ey
  have HGY4 : Hid (GivenI w3.heap.size w4.heap.size w4 ay d2.length) := gy4
  clear gy4 hown4 hgrow4 HO3 HGX3 bS3 bR3 bel34 HB3
  have en := eql_nilFunc
  gi_wp2_with (refine ⟨trivial, ?_⟩; gi_at_call 26; refine (callsIn_wide.2 (each_any _ _ d1 d2 _ HI3.out HI4.out)).mono ?_; rintro e w5 ⟨B1, B2, rfl, hE, hb5⟩)
  clear en
  have z5 := hb5.size
  have bS5 : Boxed w5 w.heap.size 3 (.int .i64 st) := (hb5.block _ (by omega)).trans bS4
  have bR5 : Boxed w5 (w.heap.size + 1) 4 (.bool false) := (hb5.block _ (by omega)).trans bR4
  have HGX5 : Hid (GivenI (w.heap.size + 2) w3.heap.size w5 ax d1.length) := HGX4.out.below (hb5.mono (by omega))
  have HGY5 : Hid (GivenI w3.heap.size w4.heap.size w5 ay d2.length) := HGY4.out.below hb5
  have bel5 : Below w.heap.size w w5 := bel4.trans (hb5.mono (by omega))
  have HE : Hid (EachIs w4.heap.size w5.heap.size w5 B1 B2 (eachL d1 d2 d1) (eachL d1 d2 d2)) := hE
  clear hE hb5 bS4 bR4 HGX4 HGY4 HI3 HI4 bel4 bel3
  gi_loopw [10] (fun iv wr => ∃ k : Nat, k ≤ d1.length ∧ iv = .int .i64 (k : Int) ∧ Hid (GivenI (w.heap.size + 2) w3.heap.size wr ax d1.length) ∧ Hid (GivenI w3.heap.size w4.heap.size wr ay d2.length) ∧ Hid (Below (w.heap.size + 2) w5 wr) ∧ Hid (KeepsIn w4.heap.size w5.heap.size w5 wr)) (fun iv _ => d1.length - (intOf iv).toNat)
  case atStart => exact ⟨0, Nat.zero_le _, rfl, HGX5, HGY5, Below.refl _ _, KeepsS.refl _ _⟩
  case round =>
    obtain ⟨k, hk, rfl, HGX, HGY, HBW, HKW⟩ := hrel
    by_cases hlt : k < d1.length
    · obtain ⟨g, rfl, hg, hr⟩ := HGX.out.resolve_left (by omega)
      obtain ⟨⟨x, x1⟩, f1⟩ := hr k hlt
      have k1 : (k : Int) < (d1.length : Int) := by omega
      have k0 : (0 : Int) ≤ (k : Int) := by omega
      clear hr
      gi_wp2
      go_roundw
      case rel =>
        exact ⟨k + 1, by omega, by go_num, HGX.out.set _ _ _, HGY.out.set _ _ _, HBW.out.setCell (p := ⟨g, k, none⟩) hg.1 _, HKW.out.trans ⟨by simp, fun j hj => Below.heap_setCell _ _ _ _ (by show j ≠ g; omega)⟩⟩
      case measure => simp [intOf]; omega
    · clear HGX HGX5 HGY5
      gi_wp2
      gi_loopw [11] (fun iv wr => ∃ m : Nat, m ≤ d2.length ∧ iv = .int .i64 (m : Int) ∧ Hid (GivenI w3.heap.size w4.heap.size wr ay d2.length) ∧ Hid (Below (w.heap.size + 2) w5 wr) ∧ Hid (KeepsIn w4.heap.size w5.heap.size w5 wr)) (fun iv _ => d2.length - (intOf iv).toNat)
      case atStart => exact ⟨0, Nat.zero_le _, rfl, HGY, HBW, HKW⟩
      case round =>
        clear HGY HBW HKW
        obtain ⟨m, hm, rfl, HGY, HBW, HKW⟩ := hrel
        by_cases hlt2 : m < d2.length
        · obtain ⟨g, rfl, hg, hr⟩ := HGY.out.resolve_left (by omega)
          obtain ⟨⟨x, x1⟩, f1⟩ := hr m hlt2
          have k1 : (m : Int) < (d2.length : Int) := by omega
          have k0 : (0 : Int) ≤ (m : Int) := by omega
          clear hr
          gi_wp2
          go_roundw
          case rel =>
            exact ⟨m + 1, by omega, by go_num, HGY.out.set _ _ _, HBW.out.setCell (p := ⟨g, m, none⟩) (by show _ ≤ g; omega) _, HKW.out.trans ⟨by simp, fun j hj => Below.heap_setCell _ _ _ _ (by show j ≠ g; omega)⟩⟩
          case measure => simp [intOf]; omega
        · clear HGY
          have zr := HBW.out.size
          have belr : Below w.heap.size w wr := bel5.trans (HBW.out.mono (by omega))
          have HVr1 : Hid (IsI wr (.slice av d1.length cv) d1) := HV1.out.below belr
          have HVr2 : Hid (IsI wr (.slice bv d2.length cb) d2) := HV2.out.below belr
          gi_wp2_with (refine ⟨trivial, ?_⟩; gi_at_call 24; refine (callsIn_wide.2 (refGaps_any _ _ d1 d2 _ HVr1.out HVr2.out)).mono ?_; rintro e w6 ⟨v6, rfl, ho6, hb6⟩; obtain ⟨a6, c6, e6⟩ := ho6.form; have HO6 : Hid (OwnG wr.heap.size w6 v6 (gapsR d1 d2)) := ho6; clear ho6; subst e6)
          -- RANGES
          have hE0 := gapsR_each d1 d2
          have hk0 := eachL_okC d1 d2
          have hgl := gapsR_len d1 d2
          obtain ⟨hB1r, hB2r, a1', c1', a2', c2', q1, q2, q3, q4, q5, q6⟩ := HE.out
          clear HE
          generalize eachL d1 d2 d1 = e1 at *
          generalize eachL d1 d2 d2 = e2 at *
          generalize gapsR d1 d2 = G at *
          generalize twoL d1 d2 = E at *
          have z6 := hb6.size
          have zz5 := HKW.out.1
          have bS6 : Boxed w6 w.heap.size 3 (.int .i64 st) := (hb6.block _ (by omega)).trans ((HBW.out.block _ (by omega)).trans bS5)
          have bR6 : Boxed w6 (w.heap.size + 1) 4 (.bool false) := (hb6.block _ (by omega)).trans ((HBW.out.block _ (by omega)).trans bR5)
          have HK6 : Hid (KeepsIn w4.heap.size w5.heap.size w5 w6) := HKW.out.trans (keepsIn_below hb6 HKW.out.1)
          have bel6 : Below w.heap.size w w6 := belr.trans (hb6.mono belr.size)
          have HRW : Hid (RowW w6.heap.size w6 a6 G) := by
            obtain ⟨a', c', e1', _, _, hr⟩ := HO6.out.isG hgl
            cases e1'
            rcases hr with e | ⟨b, o, e, hr⟩
            · exact .inl e
            · by_cases hd : G = []
              · exact .inl hd
              · exact .inr ⟨b, o, e, hr.lt hd, hr⟩
          have bW := (Boxed.new w6 35 (.slice a6 G.length c6)).alloc (.cells #[.int .i64 0] 3)
          have bN := Boxed.new (w6.alloc (.cells #[.slice a6 G.length c6] 35)) 3 (.int .i64 0)
          rw [World.size_alloc] at bN
          have hb61 : Below w6.heap.size w6 ((w6.alloc (.cells #[.slice a6 G.length c6] 35)).alloc (.cells #[.int .i64 0] 3)) := ((Below.refl _ _).alloc (Nat.le_refl _) _).alloc (by simp) _
          have sz1 : ((w6.alloc (.cells #[.slice a6 G.length c6] 35)).alloc (.cells #[.int .i64 0] 3)).heap.size = w6.heap.size + 2 := by simp
          obtain ⟨W1, hW1⟩ : ∃ W1, (w6.alloc (.cells #[.slice a6 G.length c6] 35)).alloc (.cells #[.int .i64 0] 3) = W1 := ⟨_, rfl⟩
          rw [hW1] at bW bN hb61 sz1 ⊢
          clear hW1
          have bS1 : Boxed W1 w.heap.size 3 (.int .i64 st) := (hb61.block _ (by omega)).trans bS6
          have bR1 : Boxed W1 (w.heap.size + 1) 4 (.bool false) := (hb61.block _ (by omega)).trans bR6
          have belW1 : Below w.heap.size w W1 := bel6.trans (hb61.mono (by have := bel6.size; omega))
          have hkW1 : KeepsIn w4.heap.size w5.heap.size w5 W1 := HK6.out.trans (keepsIn_below hb61 HK6.out.1)
          have HRW1 : Hid (RowW w6.heap.size W1 a6 G) := HRW.out.below hb61 (Nat.le_refl _)
          have HIT : Hid (∀ (W : World) (m : Nat), 2 ≤ m → W1.heap.size ≤ W.heap.size → KeepsIn w4.heap.size w5.heap.size W1 W → SeqStopsK Fence.wide m Try.prog 33 #[.pointer (some ⟨B1, 0, none⟩), .pointer (some ⟨B2, 0, none⟩)] encG (KeepsIn w4.heap.size w5.heap.size) (fun ys => ys = G) (fun pre => pre <+: G) G.length W) := fun W m hm hs hk => by
            have hkW := hkW1.trans hk
            have := gaps_stops m hm B1 B2 c1' c2' (fun k => w4.heap.size ≤ k ∧ k < w5.heap.size) a1' a2' e1 e2 hk0.1 hk0.2 q3 q4 hB1r hB2r W (fun k hk => by omega) ((hkW.cell (p := ⟨B1, 0, none⟩) hB1r).trans q1) ((hkW.cell (p := ⟨B2, 0, none⟩) hB2r).trans q2) (q5.kept hkW) (q6.kept hkW)
            rw [hE0] at this
            exact this
          clear HRW HO6 hb6 HBW HKW bS5 bR5 bel5 bS6 bR6 HK6 bel6 hb61 HVr1 HVr2 q1 q2 q3 q4 q5 q6 hkW1 hE0 hk0 hB1r hB2r
          have own1 : OwnFrom W1.heap.size (fun (pre : List (Int × Int × Int)) W => Boxed W (w6.heap.size + 1) 3 (.int .i64 (pre.length : Int)) ∧ Below (w6.heap.size + 1) W1 W) :=
            OwnFrom.and (Own.from (boxed_own _ _ _) _) (ownFrom_below (by omega) (by omega))
          have own2 : OwnFrom W1.heap.size (fun (pre : List (Int × Int × Int)) W => Boxed W (w6.heap.size + 1) 3 (.int .i64 st) ∧ Below (w6.heap.size + 1) W1 W) :=
            OwnFrom.and (Own.from (boxed_own _ _ _) _) (ownFrom_below (by omega) (by omega))
          refine wpIn_rangeFunc_ownH hro h1n (gf := 33) (lb := #[.pointer (some ⟨B1, 0, none⟩), .pointer (some ⟨B2, 0, none⟩)]) rfl trivial (enters_of Try.func33 (by kernel_rfl) rfl)
            (HIT.out W1 (n - 1) (by omega) (Nat.le_refl _) (KeepsS.refl _ _)) KeepsS.trans (keepsSK_b (fun j hj => by omega)) (Below.refl _ _) (fun _ => rfl)
            (fun pre W => Boxed W (w6.heap.size + 1) 3 (.int .i64 (pre.length : Int)) ∧ Below (w6.heap.size + 1) W1 W)
            (fun c pre W => (c = .ret ∧ ¬ pre <+: G) ∨ (c = .exit 4 ∧ Boxed W (w6.heap.size + 1) 3 (.int .i64 st) ∧ Below (w6.heap.size + 1) W1 W))
            own1
            (fun c s X Y row hs hg hr => hs.imp id (fun ⟨e, h⟩ => ⟨e, own2 s X Y row h hg hr⟩))
            ⟨bN, Below.refl _ _⟩
            (fun x a' W => ∃ Bx, Box3 W Bx x ∧ a' = { tmps := #[.slice av d1.length cv, .slice bv d2.length cb, .int .i64 st, undef, undef, .pointer (some ⟨w.heap.size, 0, none⟩), .pointer (some ⟨w.heap.size + 1, 0, none⟩), .slice ax d1.length cx, .slice ay d2.length cy, .func (.func 33) #[] #[.pointer (some ⟨B1, 0, none⟩), .pointer (some ⟨B2, 0, none⟩)], .int .i64 (k : Int), .int .i64 (m : Int), .pointer (some ⟨w6.heap.size, 0, none⟩), .int .i64 E, .pointer (some ⟨w6.heap.size + 1, 0, none⟩), .pointer (some ⟨Bx, 0, none⟩), undef, undef, .slice (some ⟨w.heap.size + 1 + 1, 0, none⟩) 0 0, .slice av d1.length cv, .slice ax d1.length cx, .slice (some ⟨w3.heap.size, 0, none⟩) 0 0, .slice bv d2.length cb, .slice ay d2.length cy, .slice ax d1.length cx, .slice ay d2.length cy, .func (.func 33) #[] #[.pointer (some ⟨B1, 0, none⟩), .pointer (some ⟨B2, 0, none⟩)], .func (.func 33) #[] #[.pointer (some ⟨B1, 0, none⟩), .pointer (some ⟨B2, 0, none⟩)], .bool false, .int .i64 (k : Int), .slice ax d1.length cx, .int .i64 (d1.length : Int), .bool false, u33, u34, u35, u36, u37, .int .i64 (m : Int), .slice ay d2.length cy, .int .i64 (d2.length : Int), .bool false, u42, u43, u44, u45, u46, .tuple #[.slice a6 G.length c6, .int .i64 E], .slice av d1.length cv, .slice bv d2.length cb, .tuple #[.slice a6 G.length c6, .int .i64 E], .slice a6 G.length c6, .int .i64 E, .func (.func 33) #[] #[.pointer (some ⟨B1, 0, none⟩), .pointer (some ⟨B2, 0, none⟩)], .agg #[.int .i64 x.1, .int .i64 x.2.1, .int .i64 x.2.2], undef, undef, undef, undef, undef, undef, undef, undef, undef, undef, undef, undef, undef, undef, undef, undef, undef, undef, undef, undef, undef, undef, undef, undef, undef, undef, undef, undef, undef, undef, undef, undef, undef, undef, undef, undef, undef, undef, undef, undef, undef, undef, undef, undef, undef, undef, undef, undef, undef, undef, undef], defers := [] })
            (fun x a' _ X Y row hs hg hr => by obtain ⟨Bx, h2, h3⟩ := hs; exact ⟨Bx, box3_own Bx (fun (_ : Unit) => x) () X Y row h2 hg (fun r e => (hr r e).2), h3⟩)
            ?assign ?body ?done ?stop
          case assign =>
            rintro l pre x W K ⟨bN1, hB1⟩ hK
            have zB := hB1.size
            simp only [encG]
            gi_wp2
            exact hK _ _ ((KeepsOthers.alloc _ _).from _) (keepsIn_grown (World.grownBy_alloc _ _ none) (by omega) (by simp)) ⟨bN1.alloc _, hB1.alloc (by omega) _⟩ ⟨W.heap.size, Box3.new W x, rfl⟩
          case body =>
            rintro l pre x a' W hl ⟨r, hr⟩ ⟨bN1, hB1⟩ ⟨Bx, hBx, rfl⟩ hlt
            have zB := hB1.size
            have cN := bN1.cell
            have fN := bN1.frozen
            have bS2 : Boxed W w.heap.size 3 (.int .i64 st) := (hB1.block _ (by omega)).trans bS1
            have bR2 : Boxed W (w.heap.size + 1) 4 (.bool false) := (hB1.block _ (by omega)).trans bR1
            have bW2 : Boxed W w6.heap.size 35 (.slice a6 G.length c6) := (hB1.block _ (by omega)).trans bW
            have cS := bS2.cell
            have cR := bR2.cell
            have fR := bR2.frozen
            have cW := bW2.cell
            obtain ⟨hx1, hx2, hx3⟩ := hBx.cell
            have hRW := HRW1.out.below hB1 (by omega : w6.heap.size ≤ w6.heap.size + 1)
            obtain ⟨b5, o5, rfl, _, hr5⟩ := hRW.resolve_left (by intro e; rw [e] at hlt; simp at hlt)
            obtain ⟨y1, y2, y3⟩ := hr5 pre.length hlt
            have hget : Hid (∀ h : pre.length < G.length, G[pre.length] ≠ x → ¬ (pre ++ [x]) <+: G) := fun h hne hp => hne (by
              obtain ⟨t, ht⟩ := hp
              simp [← ht])
            have hl3 : pre.length + 1 ≤ 64 := by omega
            have hd : decide ((G.length : Int) ≤ (pre.length : Int)) = false := by simp only [decide_eq_false_iff_not]; omega
            have k0 : (0 : Int) ≤ (pre.length : Int) := by omega
            have hln : ¬ G.length ≤ pre.length := by omega
            have hdn : decide (G.length ≤ pre.length) = false := by simp only [decide_eq_false_iff_not]; omega
            have k1 : (pre.length : Int) < (G.length : Int) := by omega
            have hlt' : pre.length < G.length := hlt
            have hwrap : IntKind.i64.wrap ((pre.length : Int) + 1) = ((pre ++ [x]).length : Int) := by rw [IntWalk.i64_in _ (by omega)]; simp
            clear hRW hr5
            by_cases hst : (pre.length : Int) = st
            · have qs : ((pre.length : Int) == st) = true := by simp [hst]
              gi_wp2
              exact ⟨KeepsFrom.refl _ _, .inr ⟨rfl, by rw [← hst]; exact bN1, hB1⟩⟩
            · have qs : ((pre.length : Int) == st) = false := by simp [hst]
              by_cases hx : G[pre.length] = x
              · rw [hx] at y1 y2 y3
                gi_wp2
                refine region_round l rfl (by kernel_rfl) (by kernel_rfl) (by kernel_rfl) ?_
                repeat (gi_big_quiet_step (fail))
                refine wpQuietIn_nil ?_
                intro _ hw'
                obtain ⟨nq, hw''⟩ := hw'
                subst hw''
                gi_wp2
                refine ⟨KeepsFrom.trans (Y := W.drewN nq) ⟨Nat.le_refl _, fun _ _ _ h _ => h⟩ ((KeepsOthers.setCell _ _ _).from _), ⟨by simp, fun j hj => Below.heap_setCell _ _ _ _ (by show j ≠ w6.heap.size + 1; omega)⟩, ?_, (below_drewN hB1 nq).setCell (p := ⟨w6.heap.size + 1, 0, none⟩) (Nat.le_refl _) _⟩
                rw [show ((pre ++ [x]).length : Int) = (pre.length : Int) + 1 by simp]
                exact Boxed.set (W := W.drewN nq) _ bN1
              · have hnp := hget.out hlt hx
                by_cases hf : G[pre.length].1 = x.1
                · rw [hf] at y1
                  by_cases hf2 : G[pre.length].2.1 = x.2.1
                  · have q2 : (x.2.2 == G[pre.length].2.2) = false := by
                      rw [beq_eq_false_iff_ne]; intro e; exact hx (Prod.ext hf (Prod.ext hf2 e.symm))
                    rw [hf2] at y2
                    gi_wp2
                    refine region_round l rfl (by kernel_rfl) (by kernel_rfl) (by kernel_rfl) ?_
                    repeat (gi_big_quiet_step (fail))
                    refine wpQuietIn_nil ?_
                    intro _ hw'
                    obtain ⟨nq, hw''⟩ := hw'
                    subst hw''
                    gi_wp2
                    exact ⟨KeepsFrom.trans (Y := W.drewN nq) ⟨Nat.le_refl _, fun _ _ _ h _ => h⟩ ((KeepsOthers.setCell _ _ _).from _), .inl ⟨rfl, hnp⟩⟩
                  · have q2 : (x.2.1 == G[pre.length].2.1) = false := by rw [beq_eq_false_iff_ne]; exact fun e => hf2 e.symm
                    gi_wp2
                    refine region_round l rfl (by kernel_rfl) (by kernel_rfl) (by kernel_rfl) ?_
                    repeat (gi_big_quiet_step (fail))
                    refine wpQuietIn_nil ?_
                    intro _ hw'
                    obtain ⟨nq, hw''⟩ := hw'
                    subst hw''
                    gi_wp2
                    exact ⟨KeepsFrom.trans (Y := W.drewN nq) ⟨Nat.le_refl _, fun _ _ _ h _ => h⟩ ((KeepsOthers.setCell _ _ _).from _), .inl ⟨rfl, hnp⟩⟩
                · have q2 : (x.1 == G[pre.length].1) = false := by rw [beq_eq_false_iff_ne]; exact fun e => hf e.symm
                  gi_wp2
                  refine region_round l rfl (by kernel_rfl) (by kernel_rfl) (by kernel_rfl) ?_
                  repeat (gi_big_quiet_step (fail))
                  refine wpQuietIn_nil ?_
                  intro _ hw'
                  obtain ⟨nq, hw''⟩ := hw'
                  subst hw''
                  gi_wp2
                  exact ⟨KeepsFrom.trans (Y := W.drewN nq) ⟨Nat.le_refl _, fun _ _ _ h _ => h⟩ ((KeepsOthers.setCell _ _ _).from _), .inl ⟨rfl, hnp⟩⟩
          case done =>
            rintro D ys W hD rfl ⟨bN1, hB1⟩ hK
            have zB := hB1.size
            have cN := bN1.cell
            have bS2 : Boxed W w.heap.size 3 (.int .i64 st) := (hB1.block _ (by omega)).trans bS1
            have bR2 : Boxed W (w.heap.size + 1) 4 (.bool false) := (hB1.block _ (by omega)).trans bR1
            have bW2 : Boxed W w6.heap.size 35 (.slice a6 ys.length c6) := (hB1.block _ (by omega)).trans bW
            have hRW2 : Hid (RowW w6.heap.size W a6 ys) := HRW1.out.below hB1 (by omega)
            have belW2 : Below w.heap.size w W := belW1.trans (hB1.mono (by omega))
            gi_wp2
            have bN3 := bN1.alloc (.cells #[.int .i64 0] 3)
            have bS3 := bS2.alloc (.cells #[.int .i64 0] 3)
            have bR3 := bR2.alloc (.cells #[.int .i64 0] 3)
            have bW3 := bW2.alloc (.cells #[.int .i64 0] 3)
            have bK3 := Boxed.new W 3 (.int .i64 0)
            have hRW3 : Hid (RowW w6.heap.size (W.alloc (.cells #[.int .i64 0] 3)) a6 ys) := hRW2.out.below ((Below.refl W.heap.size W).alloc (Nat.le_refl _) _) (by omega)
            have belW3 : Below w.heap.size w (W.alloc (.cells #[.int .i64 0] 3)) := belW2.alloc (by omega) _
            have hB3 : Below (w6.heap.size + 1) W1 (W.alloc (.cells #[.int .i64 0] 3)) := hB1.alloc (by omega) _
            have hK3 : (W.alloc (.cells #[.int .i64 0] 3)).heap[D]? = some (.deferred (some [])) := (Below.heap_alloc _ _ _ (Array.getElem?_eq_some_iff.1 hK).1).trans hK
            have hDl : D < W.heap.size := (Array.getElem?_eq_some_iff.1 hK).1
            have sz3 : (W.alloc (.cells #[.int .i64 0] 3)).heap.size = W.heap.size + 1 := by simp
            obtain ⟨W2, hW2⟩ : ∃ W2, W.alloc (.cells #[.int .i64 0] 3) = W2 := ⟨_, rfl⟩
            rw [hW2] at bN3 bS3 bR3 bW3 bK3 hRW3 belW3 hB3 hK3 sz3 ⊢
            clear hW2 bN1 bS2 bR2 bW2 hRW2 belW2 hB1 hK cN
            obtain ⟨B, hB⟩ : ∃ B, W.heap.size = B := ⟨_, rfl⟩
            rw [hB] at bK3 sz3 hDl zB ⊢
            clear hB
            have own3 : OwnFrom W2.heap.size (fun (pre : List (Int × Int × Int)) W => Boxed W B 3 (.int .i64 (pre.length : Int)) ∧ Below B W2 W) :=
              OwnFrom.and (Own.from (boxed_own _ _ _) _) (ownFrom_below (by omega) (by omega))
            refine wpIn_rangeFunc_ownH hro h1n (gf := 33) (lb := #[.pointer (some ⟨B1, 0, none⟩), .pointer (some ⟨B2, 0, none⟩)]) rfl trivial (enters_of Try.func33 (by kernel_rfl) rfl)
              (HIT.out W2 (n - 1) (by omega) hB3.size (keepsIn_below hB3 (by omega))) KeepsS.trans (keepsSK_b (fun j hj => by omega)) (Below.refl _ _) (fun _ => rfl)
              (fun pre W => Boxed W B 3 (.int .i64 (pre.length : Int)) ∧ Below B W2 W)
              (fun c pre W => c = .ret ∧ ¬ pre <+: ys)
              own3
              (fun c s X Y row hs hg hr => hs)
              ⟨bK3, Below.refl _ _⟩
              (fun x a' W => ∃ Bx, Box3 W Bx x ∧ a' = { tmps := #[.slice av d1.length cv, .slice bv d2.length cb, .int .i64 st, undef, undef, .pointer (some ⟨w.heap.size, 0, none⟩), .pointer (some ⟨w.heap.size + 1, 0, none⟩), .slice ax d1.length cx, .slice ay d2.length cy, .func (.func 33) #[] #[.pointer (some ⟨B1, 0, none⟩), .pointer (some ⟨B2, 0, none⟩)], .int .i64 (k : Int), .int .i64 (m : Int), .pointer (some ⟨w6.heap.size, 0, none⟩), .int .i64 E, .pointer (some ⟨w6.heap.size + 1, 0, none⟩), undef, .pointer (some ⟨B, 0, none⟩), .pointer (some ⟨Bx, 0, none⟩), .slice (some ⟨w.heap.size + 1 + 1, 0, none⟩) 0 0, .slice av d1.length cv, .slice ax d1.length cx, .slice (some ⟨w3.heap.size, 0, none⟩) 0 0, .slice bv d2.length cb, .slice ay d2.length cy, .slice ax d1.length cx, .slice ay d2.length cy, .func (.func 33) #[] #[.pointer (some ⟨B1, 0, none⟩), .pointer (some ⟨B2, 0, none⟩)], .func (.func 33) #[] #[.pointer (some ⟨B1, 0, none⟩), .pointer (some ⟨B2, 0, none⟩)], .bool false, .int .i64 (k : Int), .slice ax d1.length cx, .int .i64 (d1.length : Int), .bool false, u33, u34, u35, u36, u37, .int .i64 (m : Int), .slice ay d2.length cy, .int .i64 (d2.length : Int), .bool false, u42, u43, u44, u45, u46, .tuple #[.slice a6 ys.length c6, .int .i64 E], .slice av d1.length cv, .slice bv d2.length cb, .tuple #[.slice a6 ys.length c6, .int .i64 E], .slice a6 ys.length c6, .int .i64 E, .func (.func 33) #[] #[.pointer (some ⟨B1, 0, none⟩), .pointer (some ⟨B2, 0, none⟩)], undef, undef, undef, undef, undef, undef, undef, undef, undef, undef, undef, undef, undef, undef, undef, undef, undef, undef, .func (.func 33) #[] #[.pointer (some ⟨B1, 0, none⟩), .pointer (some ⟨B2, 0, none⟩)], .agg #[.int .i64 x.1, .int .i64 x.2.1, .int .i64 x.2.2], undef, undef, undef, undef, undef, undef, undef, undef, undef, undef, undef, undef, undef, undef, undef, undef, undef, undef, undef, undef, undef, undef, undef, undef, undef, undef, undef, undef, undef, undef, undef, undef], defers := [] })
              (fun x a' _ X Y row hs hg hr => by obtain ⟨Bx, h2, h3⟩ := hs; exact ⟨Bx, box3_own Bx (fun (_ : Unit) => x) () X Y row h2 hg (fun r e => (hr r e).2), h3⟩)
              ?assignd ?bodyd ?doned ?stopd
            case assignd =>
              rintro l pre x W K ⟨bN1, hB1⟩ hK
              have zB := hB1.size
              simp only [encG]
              gi_wp2
              exact hK _ _ ((KeepsOthers.alloc _ _).from _) (keepsIn_grown (World.grownBy_alloc _ _ none) (by omega) (by simp)) ⟨bN1.alloc _, hB1.alloc (by omega) _⟩ ⟨W.heap.size, Box3.new W x, rfl⟩
            case bodyd =>
              rintro l pre x a' W hl ⟨r, hr⟩ ⟨bN1, hB1⟩ ⟨Bx, hBx, rfl⟩ hlt
              have zB2 := hB1.size
              have cN := bN1.cell
              have fN := bN1.frozen
              have bR2 : Boxed W (w.heap.size + 1) 4 (.bool false) := (hB1.block _ (by omega)).trans bR3
              have bW2 : Boxed W w6.heap.size 35 (.slice a6 ys.length c6) := (hB1.block _ (by omega)).trans bW3
              have cR := bR2.cell
              have fR := bR2.frozen
              have cW := bW2.cell
              obtain ⟨hx1, hx2, hx3⟩ := hBx.cell
              have hRW := hRW3.out.below hB1 (by omega : w6.heap.size ≤ B)
              obtain ⟨b5, o5, rfl, _, hr5⟩ := hRW.resolve_left (by intro e; rw [e] at hlt; simp at hlt)
              obtain ⟨y1, y2, y3⟩ := hr5 pre.length hlt
              have hget : Hid (∀ h : pre.length < ys.length, ys[pre.length] ≠ x → ¬ (pre ++ [x]) <+: ys) := fun h hne hp => hne (by
                obtain ⟨t, ht⟩ := hp
                simp [← ht])
              have hl3 : pre.length + 1 ≤ 64 := by omega
              have hd : decide ((ys.length : Int) ≤ (pre.length : Int)) = false := by simp only [decide_eq_false_iff_not]; omega
              have k0 : (0 : Int) ≤ (pre.length : Int) := by omega
              have hln : ¬ ys.length ≤ pre.length := by omega
              have hdn : decide (ys.length ≤ pre.length) = false := by simp only [decide_eq_false_iff_not]; omega
              have k1 : (pre.length : Int) < (ys.length : Int) := by omega
              have hlt' : pre.length < ys.length := hlt
              have hwrap : IntKind.i64.wrap ((pre.length : Int) + 1) = ((pre ++ [x]).length : Int) := by rw [IntWalk.i64_in _ (by omega)]; simp
              clear hRW hr5
              by_cases hx : ys[pre.length] = x
              · rw [hx] at y1 y2 y3
                gi_wp2
                refine region_round l rfl (by kernel_rfl) (by kernel_rfl) (by kernel_rfl) ?_
                repeat (gi_big_quiet_step (fail))
                refine wpQuietIn_nil ?_
                intro _ hw'
                obtain ⟨nq, hw''⟩ := hw'
                subst hw''
                gi_wp2
                refine ⟨KeepsFrom.trans (Y := W.drewN nq) ⟨Nat.le_refl _, fun _ _ _ h _ => h⟩ ((KeepsOthers.setCell _ _ _).from _), ⟨by simp, fun j hj => Below.heap_setCell _ _ _ _ (by show j ≠ B; omega)⟩, ?_, (below_drewN hB1 nq).setCell (p := ⟨B, 0, none⟩) (Nat.le_refl _) _⟩
                rw [show ((pre ++ [x]).length : Int) = (pre.length : Int) + 1 by simp]
                exact Boxed.set (W := W.drewN nq) _ bN1
              · have hnp := hget.out hlt hx
                by_cases hf : ys[pre.length].1 = x.1
                · rw [hf] at y1
                  by_cases hf2 : ys[pre.length].2.1 = x.2.1
                  · have q2 : (x.2.2 == ys[pre.length].2.2) = false := by
                      rw [beq_eq_false_iff_ne]; intro e; exact hx (Prod.ext hf (Prod.ext hf2 e.symm))
                    rw [hf2] at y2
                    gi_wp2
                    refine region_round l rfl (by kernel_rfl) (by kernel_rfl) (by kernel_rfl) ?_
                    repeat (gi_big_quiet_step (fail))
                    refine wpQuietIn_nil ?_
                    intro _ hw'
                    obtain ⟨nq, hw''⟩ := hw'
                    subst hw''
                    gi_wp2
                    exact ⟨KeepsFrom.trans (Y := W.drewN nq) ⟨Nat.le_refl _, fun _ _ _ h _ => h⟩ ((KeepsOthers.setCell _ _ _).from _), rfl, hnp⟩
                  · have q2 : (x.2.1 == ys[pre.length].2.1) = false := by rw [beq_eq_false_iff_ne]; exact fun e => hf2 e.symm
                    gi_wp2
                    refine region_round l rfl (by kernel_rfl) (by kernel_rfl) (by kernel_rfl) ?_
                    repeat (gi_big_quiet_step (fail))
                    refine wpQuietIn_nil ?_
                    intro _ hw'
                    obtain ⟨nq, hw''⟩ := hw'
                    subst hw''
                    gi_wp2
                    exact ⟨KeepsFrom.trans (Y := W.drewN nq) ⟨Nat.le_refl _, fun _ _ _ h _ => h⟩ ((KeepsOthers.setCell _ _ _).from _), rfl, hnp⟩
                · have q2 : (x.1 == ys[pre.length].1) = false := by rw [beq_eq_false_iff_ne]; exact fun e => hf e.symm
                  gi_wp2
                  refine region_round l rfl (by kernel_rfl) (by kernel_rfl) (by kernel_rfl) ?_
                  repeat (gi_big_quiet_step (fail))
                  refine wpQuietIn_nil ?_
                  intro _ hw'
                  obtain ⟨nq, hw''⟩ := hw'
                  subst hw''
                  gi_wp2
                  exact ⟨KeepsFrom.trans (Y := W.drewN nq) ⟨Nat.le_refl _, fun _ _ _ h _ => h⟩ ((KeepsOthers.setCell _ _ _).from _), rfl, hnp⟩
            case stopd =>
              rintro D2 c pre W3 _ hSp ⟨_, hnp⟩ _
              exact absurd hSp hnp
            case doned =>
              rintro D2 ys W3 hD2 rfl ⟨bK1, hB4⟩ hK4
              have zB2 := hB4.size
              have cK := bK1.cell
              have bN5 : Boxed W3 (w6.heap.size + 1) 3 (.int .i64 (ys.length : Int)) := (hB4.block _ (by omega)).trans bN3
              have bS5 : Boxed W3 w.heap.size 3 (.int .i64 st) := (hB4.block _ (by omega)).trans bS3
              have bR5 : Boxed W3 (w.heap.size + 1) 4 (.bool false) := (hB4.block _ (by omega)).trans bR3
              have bW5 : Boxed W3 w6.heap.size 35 (.slice a6 ys.length c6) := (hB4.block _ (by omega)).trans bW3
              have hK5 : W3.heap[D]? = some (.deferred (some [])) := (hB4.block _ (by omega)).trans hK3
              have belW5 : Below w.heap.size w W3 := belW3.trans (hB4.mono (by omega))
              have cN := bN5.cell
              have cS := bS5.cell
              have cR := bR5.cell
              have fR := bR5.frozen
              have cW := bW5.cell
              clear bK1 bN5 bS5 bW5 hB4
              gi_wp2
              refine ⟨trivial, (callsIn_wide.2 (awake_any _)).mono ?_⟩
              rintro e w7 ⟨rfl, hb7⟩
              have zB3 := hb7.size
              have bR6 : Boxed w7 (w.heap.size + 1) 4 (.bool false) := (hb7.block _ (by omega)).trans bR5
              have cR6 := bR6.cell
              have fR6 := bR6.frozen
              have hK6 : w7.heap[D]? = some (.deferred (some [])) := (hb7.block _ (Array.getElem?_eq_some_iff.1 hK5).1).trans hK5
              have hK7 : w7.heap[D2]? = some (.deferred (some [])) := (hb7.block _ (Array.getElem?_eq_some_iff.1 hK4).1).trans hK4
              have belW6 : Below w.heap.size w w7 := belW5.trans (hb7.mono (by omega))
              clear cR fR cN cS cW cK
              gi_wp2
              have hK8 : (w7.setCell ⟨w.heap.size + 1, 0, none⟩ (.bool true)).heap[D2]? = some (.deferred (some [])) := (Below.heap_setCell _ _ _ _ (by show D2 ≠ w.heap.size + 1; omega)).trans hK7
              have hK9 : ((w7.setCell ⟨w.heap.size + 1, 0, none⟩ (.bool true)).putObj D2 (.deferred none)).heap[D]? = some (.deferred (some [])) := ((grownBy_putObj' _ D2 _).block D (by simp; omega) (by simp; omega)).trans ((Below.heap_setCell _ _ _ _ (by show D ≠ w.heap.size + 1; omega)).trans hK6)
              have bR8 : Boxed ((w7.setCell ⟨w.heap.size + 1, 0, none⟩ (.bool true)).putObj D2 (.deferred none)) (w.heap.size + 1) 4 (.bool true) := (bR6.set _).kept (grownBy_putObj' _ D2 _) (by simp; omega)
              have bR9 : Boxed (((w7.setCell ⟨w.heap.size + 1, 0, none⟩ (.bool true)).putObj D2 (.deferred none)).putObj D (.deferred none)) (w.heap.size + 1) 4 (.bool true) := bR8.kept (grownBy_putObj' _ D _) (by simp; omega)
              have bel7 : Below w.heap.size w (w7.setCell ⟨w.heap.size + 1, 0, none⟩ (.bool true)) := belW6.setCell (p := ⟨w.heap.size + 1, 0, none⟩) (Nat.le_succ _) _
              have bel8 := bel7.trans (belowK_b (w := w) (Nat.le_refl _) _ D2 _ (.deferred none) (by omega) hK8 rfl rfl)
              have bel9 := bel8.trans (belowK_b (w := w) (Nat.le_refl _) _ D _ (.deferred none) (by omega) hK9 rfl rfl)
              refine ⟨by simp, .inl ⟨_, _, rfl, run_takeDeferred hK8, ?_⟩⟩
              refine ⟨by simp, .inl ⟨_, _, rfl, run_takeDeferred hK9, ?_⟩⟩
              exact ⟨_, results_boolCell6 rfl _ _ _ true rfl bR9.cell, rfl, bel9⟩
          case stop =>
            rintro D c pre W hD hSp (⟨_, hnp⟩ | ⟨rfl, bN1, hB1⟩) hK
            · exact absurd hSp hnp
            · clear hSp
              have zB := hB1.size
              have cN := bN1.cell
              have bS2 : Boxed W w.heap.size 3 (.int .i64 st) := (hB1.block _ (by omega)).trans bS1
              have bR2 : Boxed W (w.heap.size + 1) 4 (.bool false) := (hB1.block _ (by omega)).trans bR1
              have bW2 : Boxed W w6.heap.size 35 (.slice a6 G.length c6) := (hB1.block _ (by omega)).trans bW
              have hRW2 : Hid (RowW w6.heap.size W a6 G) := HRW1.out.below hB1 (by omega)
              have belW2 : Below w.heap.size w W := belW1.trans (hB1.mono (by omega))
              gi_wp2
              have bN3 := bN1.alloc (.cells #[.int .i64 0] 3)
              have bS3 := bS2.alloc (.cells #[.int .i64 0] 3)
              have bR3 := bR2.alloc (.cells #[.int .i64 0] 3)
              have bW3 := bW2.alloc (.cells #[.int .i64 0] 3)
              have bK3 := Boxed.new W 3 (.int .i64 0)
              have hRW3 : Hid (RowW w6.heap.size (W.alloc (.cells #[.int .i64 0] 3)) a6 G) := hRW2.out.below ((Below.refl W.heap.size W).alloc (Nat.le_refl _) _) (by omega)
              have belW3 : Below w.heap.size w (W.alloc (.cells #[.int .i64 0] 3)) := belW2.alloc (by omega) _
              have hB3 : Below (w6.heap.size + 1) W1 (W.alloc (.cells #[.int .i64 0] 3)) := hB1.alloc (by omega) _
              have hK3 : (W.alloc (.cells #[.int .i64 0] 3)).heap[D]? = some (.deferred (some [])) := (Below.heap_alloc _ _ _ (Array.getElem?_eq_some_iff.1 hK).1).trans hK
              have hDl : D < W.heap.size := (Array.getElem?_eq_some_iff.1 hK).1
              have sz3 : (W.alloc (.cells #[.int .i64 0] 3)).heap.size = W.heap.size + 1 := by simp
              obtain ⟨W2, hW2⟩ : ∃ W2, W.alloc (.cells #[.int .i64 0] 3) = W2 := ⟨_, rfl⟩
              rw [hW2] at bN3 bS3 bR3 bW3 bK3 hRW3 belW3 hB3 hK3 sz3 ⊢
              clear hW2 bN1 bS2 bR2 bW2 hRW2 belW2 hB1 hK cN
              obtain ⟨B, hB⟩ : ∃ B, W.heap.size = B := ⟨_, rfl⟩
              rw [hB] at bK3 sz3 hDl zB ⊢
              clear hB
              have own3 : OwnFrom W2.heap.size (fun (pre : List (Int × Int × Int)) W => Boxed W B 3 (.int .i64 (pre.length : Int)) ∧ Below B W2 W) :=
                OwnFrom.and (Own.from (boxed_own _ _ _) _) (ownFrom_below (by omega) (by omega))
              refine wpIn_rangeFunc_ownH hro h1n (gf := 33) (lb := #[.pointer (some ⟨B1, 0, none⟩), .pointer (some ⟨B2, 0, none⟩)]) rfl trivial (enters_of Try.func33 (by kernel_rfl) rfl)
                (HIT.out W2 (n - 1) (by omega) hB3.size (keepsIn_below hB3 (by omega))) KeepsS.trans (keepsSK_b (fun j hj => by omega)) (Below.refl _ _) (fun _ => rfl)
                (fun pre W => Boxed W B 3 (.int .i64 (pre.length : Int)) ∧ Below B W2 W)
                (fun c pre W => c = .ret ∧ ¬ pre <+: G)
                own3
                (fun c s X Y row hs hg hr => hs)
                ⟨bK3, Below.refl _ _⟩
                (fun x a' W => ∃ Bx, Box3 W Bx x ∧ a' = { tmps := #[.slice av d1.length cv, .slice bv d2.length cb, .int .i64 st, undef, undef, .pointer (some ⟨w.heap.size, 0, none⟩), .pointer (some ⟨w.heap.size + 1, 0, none⟩), .slice ax d1.length cx, .slice ay d2.length cy, .func (.func 33) #[] #[.pointer (some ⟨B1, 0, none⟩), .pointer (some ⟨B2, 0, none⟩)], .int .i64 (k : Int), .int .i64 (m : Int), .pointer (some ⟨w6.heap.size, 0, none⟩), .int .i64 E, .pointer (some ⟨w6.heap.size + 1, 0, none⟩), undef, .pointer (some ⟨B, 0, none⟩), .pointer (some ⟨Bx, 0, none⟩), .slice (some ⟨w.heap.size + 1 + 1, 0, none⟩) 0 0, .slice av d1.length cv, .slice ax d1.length cx, .slice (some ⟨w3.heap.size, 0, none⟩) 0 0, .slice bv d2.length cb, .slice ay d2.length cy, .slice ax d1.length cx, .slice ay d2.length cy, .func (.func 33) #[] #[.pointer (some ⟨B1, 0, none⟩), .pointer (some ⟨B2, 0, none⟩)], .func (.func 33) #[] #[.pointer (some ⟨B1, 0, none⟩), .pointer (some ⟨B2, 0, none⟩)], .bool false, .int .i64 (k : Int), .slice ax d1.length cx, .int .i64 (d1.length : Int), .bool false, u33, u34, u35, u36, u37, .int .i64 (m : Int), .slice ay d2.length cy, .int .i64 (d2.length : Int), .bool false, u42, u43, u44, u45, u46, .tuple #[.slice a6 G.length c6, .int .i64 E], .slice av d1.length cv, .slice bv d2.length cb, .tuple #[.slice a6 G.length c6, .int .i64 E], .slice a6 G.length c6, .int .i64 E, .func (.func 33) #[] #[.pointer (some ⟨B1, 0, none⟩), .pointer (some ⟨B2, 0, none⟩)], undef, undef, undef, undef, undef, undef, undef, undef, undef, undef, undef, undef, undef, undef, undef, undef, undef, undef, .func (.func 33) #[] #[.pointer (some ⟨B1, 0, none⟩), .pointer (some ⟨B2, 0, none⟩)], .agg #[.int .i64 x.1, .int .i64 x.2.1, .int .i64 x.2.2], undef, undef, undef, undef, undef, undef, undef, undef, undef, undef, undef, undef, undef, undef, undef, undef, undef, undef, undef, undef, undef, undef, undef, undef, undef, undef, undef, undef, undef, undef, undef, undef], defers := [] })
                (fun x a' _ X Y row hs hg hr => by obtain ⟨Bx, h2, h3⟩ := hs; exact ⟨Bx, box3_own Bx (fun (_ : Unit) => x) () X Y row h2 hg (fun r e => (hr r e).2), h3⟩)
                ?assignx ?bodyx ?donex ?stopx
              case assignx =>
                rintro l pre x W K ⟨bN1, hB1⟩ hK
                have zB := hB1.size
                simp only [encG]
                gi_wp2
                exact hK _ _ ((KeepsOthers.alloc _ _).from _) (keepsIn_grown (World.grownBy_alloc _ _ none) (by omega) (by simp)) ⟨bN1.alloc _, hB1.alloc (by omega) _⟩ ⟨W.heap.size, Box3.new W x, rfl⟩
              case bodyx =>
                rintro l pre x a' W hl ⟨r, hr⟩ ⟨bN1, hB1⟩ ⟨Bx, hBx, rfl⟩ hlt
                have zB2 := hB1.size
                have cN := bN1.cell
                have fN := bN1.frozen
                have bR2 : Boxed W (w.heap.size + 1) 4 (.bool false) := (hB1.block _ (by omega)).trans bR3
                have bW2 : Boxed W w6.heap.size 35 (.slice a6 G.length c6) := (hB1.block _ (by omega)).trans bW3
                have cR := bR2.cell
                have fR := bR2.frozen
                have cW := bW2.cell
                obtain ⟨hx1, hx2, hx3⟩ := hBx.cell
                have hRW := hRW3.out.below hB1 (by omega : w6.heap.size ≤ B)
                obtain ⟨b5, o5, rfl, _, hr5⟩ := hRW.resolve_left (by intro e; rw [e] at hlt; simp at hlt)
                obtain ⟨y1, y2, y3⟩ := hr5 pre.length hlt
                have hget : Hid (∀ h : pre.length < G.length, G[pre.length] ≠ x → ¬ (pre ++ [x]) <+: G) := fun h hne hp => hne (by
                  obtain ⟨t, ht⟩ := hp
                  simp [← ht])
                have hl3 : pre.length + 1 ≤ 64 := by omega
                have hd : decide ((G.length : Int) ≤ (pre.length : Int)) = false := by simp only [decide_eq_false_iff_not]; omega
                have k0 : (0 : Int) ≤ (pre.length : Int) := by omega
                have hln : ¬ G.length ≤ pre.length := by omega
                have hdn : decide (G.length ≤ pre.length) = false := by simp only [decide_eq_false_iff_not]; omega
                have k1 : (pre.length : Int) < (G.length : Int) := by omega
                have hlt' : pre.length < G.length := hlt
                have hwrap : IntKind.i64.wrap ((pre.length : Int) + 1) = ((pre ++ [x]).length : Int) := by rw [IntWalk.i64_in _ (by omega)]; simp
                clear hRW hr5
                by_cases hx : G[pre.length] = x
                · rw [hx] at y1 y2 y3
                  gi_wp2
                  refine region_round l rfl (by kernel_rfl) (by kernel_rfl) (by kernel_rfl) ?_
                  repeat (gi_big_quiet_step (fail))
                  refine wpQuietIn_nil ?_
                  intro _ hw'
                  obtain ⟨nq, hw''⟩ := hw'
                  subst hw''
                  gi_wp2
                  refine ⟨KeepsFrom.trans (Y := W.drewN nq) ⟨Nat.le_refl _, fun _ _ _ h _ => h⟩ ((KeepsOthers.setCell _ _ _).from _), ⟨by simp, fun j hj => Below.heap_setCell _ _ _ _ (by show j ≠ B; omega)⟩, ?_, (below_drewN hB1 nq).setCell (p := ⟨B, 0, none⟩) (Nat.le_refl _) _⟩
                  rw [show ((pre ++ [x]).length : Int) = (pre.length : Int) + 1 by simp]
                  exact Boxed.set (W := W.drewN nq) _ bN1
                · have hnp := hget.out hlt hx
                  by_cases hf : G[pre.length].1 = x.1
                  · rw [hf] at y1
                    by_cases hf2 : G[pre.length].2.1 = x.2.1
                    · have q2 : (x.2.2 == G[pre.length].2.2) = false := by
                        rw [beq_eq_false_iff_ne]; intro e; exact hx (Prod.ext hf (Prod.ext hf2 e.symm))
                      rw [hf2] at y2
                      gi_wp2
                      refine region_round l rfl (by kernel_rfl) (by kernel_rfl) (by kernel_rfl) ?_
                      repeat (gi_big_quiet_step (fail))
                      refine wpQuietIn_nil ?_
                      intro _ hw'
                      obtain ⟨nq, hw''⟩ := hw'
                      subst hw''
                      gi_wp2
                      exact ⟨KeepsFrom.trans (Y := W.drewN nq) ⟨Nat.le_refl _, fun _ _ _ h _ => h⟩ ((KeepsOthers.setCell _ _ _).from _), rfl, hnp⟩
                    · have q2 : (x.2.1 == G[pre.length].2.1) = false := by rw [beq_eq_false_iff_ne]; exact fun e => hf2 e.symm
                      gi_wp2
                      refine region_round l rfl (by kernel_rfl) (by kernel_rfl) (by kernel_rfl) ?_
                      repeat (gi_big_quiet_step (fail))
                      refine wpQuietIn_nil ?_
                      intro _ hw'
                      obtain ⟨nq, hw''⟩ := hw'
                      subst hw''
                      gi_wp2
                      exact ⟨KeepsFrom.trans (Y := W.drewN nq) ⟨Nat.le_refl _, fun _ _ _ h _ => h⟩ ((KeepsOthers.setCell _ _ _).from _), rfl, hnp⟩
                  · have q2 : (x.1 == G[pre.length].1) = false := by rw [beq_eq_false_iff_ne]; exact fun e => hf e.symm
                    gi_wp2
                    refine region_round l rfl (by kernel_rfl) (by kernel_rfl) (by kernel_rfl) ?_
                    repeat (gi_big_quiet_step (fail))
                    refine wpQuietIn_nil ?_
                    intro _ hw'
                    obtain ⟨nq, hw''⟩ := hw'
                    subst hw''
                    gi_wp2
                    exact ⟨KeepsFrom.trans (Y := W.drewN nq) ⟨Nat.le_refl _, fun _ _ _ h _ => h⟩ ((KeepsOthers.setCell _ _ _).from _), rfl, hnp⟩
              case stopx =>
                rintro D2 c pre W3 _ hSp ⟨_, hnp⟩ _
                exact absurd hSp hnp
              case donex =>
                rintro D2 ys W3 hD2 rfl ⟨bK1, hB4⟩ hK4
                have zB2 := hB4.size
                have cK := bK1.cell
                have bN5 : Boxed W3 (w6.heap.size + 1) 3 (.int .i64 st) := (hB4.block _ (by omega)).trans bN3
                have bS5 : Boxed W3 w.heap.size 3 (.int .i64 st) := (hB4.block _ (by omega)).trans bS3
                have bR5 : Boxed W3 (w.heap.size + 1) 4 (.bool false) := (hB4.block _ (by omega)).trans bR3
                have bW5 : Boxed W3 w6.heap.size 35 (.slice a6 ys.length c6) := (hB4.block _ (by omega)).trans bW3
                have hK5 : W3.heap[D]? = some (.deferred (some [])) := (hB4.block _ (by omega)).trans hK3
                have belW5 : Below w.heap.size w W3 := belW3.trans (hB4.mono (by omega))
                have cN := bN5.cell
                have cS := bS5.cell
                have cR := bR5.cell
                have fR := bR5.frozen
                have cW := bW5.cell
                clear bK1 bN5 bS5 bW5 hB4
                by_cases hst : st = (ys.length : Int)
                · have hq : (st == (ys.length : Int)) = true := by simp [hst]
                  gi_wp2
                  refine ⟨trivial, (callsIn_wide.2 (awake_any _)).mono ?_⟩
                  rintro e w7 ⟨rfl, hb7⟩
                  have zB3 := hb7.size
                  have bR6 : Boxed w7 (w.heap.size + 1) 4 (.bool false) := (hb7.block _ (by omega)).trans bR5
                  have cR6 := bR6.cell
                  have fR6 := bR6.frozen
                  have hK6 : w7.heap[D]? = some (.deferred (some [])) := (hb7.block _ (Array.getElem?_eq_some_iff.1 hK5).1).trans hK5
                  have hK7 : w7.heap[D2]? = some (.deferred (some [])) := (hb7.block _ (Array.getElem?_eq_some_iff.1 hK4).1).trans hK4
                  have belW6 : Below w.heap.size w w7 := belW5.trans (hb7.mono (by omega))
                  clear cR fR cN cS cW cK
                  gi_wp2
                  have hK8 : (w7.setCell ⟨w.heap.size + 1, 0, none⟩ (.bool true)).heap[D2]? = some (.deferred (some [])) := (Below.heap_setCell _ _ _ _ (by show D2 ≠ w.heap.size + 1; omega)).trans hK7
                  have hK9 : ((w7.setCell ⟨w.heap.size + 1, 0, none⟩ (.bool true)).putObj D2 (.deferred none)).heap[D]? = some (.deferred (some [])) := ((grownBy_putObj' _ D2 _).block D (by simp; omega) (by simp; omega)).trans ((Below.heap_setCell _ _ _ _ (by show D ≠ w.heap.size + 1; omega)).trans hK6)
                  have bR8 : Boxed ((w7.setCell ⟨w.heap.size + 1, 0, none⟩ (.bool true)).putObj D2 (.deferred none)) (w.heap.size + 1) 4 (.bool true) := (bR6.set _).kept (grownBy_putObj' _ D2 _) (by simp; omega)
                  have bR9 : Boxed (((w7.setCell ⟨w.heap.size + 1, 0, none⟩ (.bool true)).putObj D2 (.deferred none)).putObj D (.deferred none)) (w.heap.size + 1) 4 (.bool true) := bR8.kept (grownBy_putObj' _ D _) (by simp; omega)
                  have bel7 : Below w.heap.size w (w7.setCell ⟨w.heap.size + 1, 0, none⟩ (.bool true)) := belW6.setCell (p := ⟨w.heap.size + 1, 0, none⟩) (Nat.le_succ _) _
                  have bel8 := bel7.trans (belowK_b (w := w) (Nat.le_refl _) _ D2 _ (.deferred none) (by omega) hK8 rfl rfl)
                  have bel9 := bel8.trans (belowK_b (w := w) (Nat.le_refl _) _ D _ (.deferred none) (by omega) hK9 rfl rfl)
                  refine ⟨by simp, .inl ⟨_, _, rfl, run_takeDeferred hK8, ?_⟩⟩
                  refine ⟨by simp, .inl ⟨_, _, rfl, run_takeDeferred hK9, ?_⟩⟩
                  exact ⟨_, results_boolCell6 rfl _ _ _ true rfl bR9.cell, rfl, bel9⟩
                · have hq : (st == (ys.length : Int)) = false := by simp [hst]
                  gi_wp2
                  refine ⟨trivial, (callsIn_wide.2 (awake_any _)).mono ?_⟩
                  rintro e w7 ⟨rfl, hb7⟩
                  have zB3 := hb7.size
                  have bR6 : Boxed w7 (w.heap.size + 1) 4 (.bool false) := (hb7.block _ (by omega)).trans bR5
                  have cR6 := bR6.cell
                  have fR6 := bR6.frozen
                  have hK6 : w7.heap[D]? = some (.deferred (some [])) := (hb7.block _ (Array.getElem?_eq_some_iff.1 hK5).1).trans hK5
                  have hK7 : w7.heap[D2]? = some (.deferred (some [])) := (hb7.block _ (Array.getElem?_eq_some_iff.1 hK4).1).trans hK4
                  have belW6 : Below w.heap.size w w7 := belW5.trans (hb7.mono (by omega))
                  clear cR fR cN cS cW cK
                  gi_wp2
                  have hK8 : (w7.setCell ⟨w.heap.size + 1, 0, none⟩ (.bool true)).heap[D2]? = some (.deferred (some [])) := (Below.heap_setCell _ _ _ _ (by show D2 ≠ w.heap.size + 1; omega)).trans hK7
                  have hK9 : ((w7.setCell ⟨w.heap.size + 1, 0, none⟩ (.bool true)).putObj D2 (.deferred none)).heap[D]? = some (.deferred (some [])) := ((grownBy_putObj' _ D2 _).block D (by simp; omega) (by simp; omega)).trans ((Below.heap_setCell _ _ _ _ (by show D ≠ w.heap.size + 1; omega)).trans hK6)
                  have bR8 : Boxed ((w7.setCell ⟨w.heap.size + 1, 0, none⟩ (.bool true)).putObj D2 (.deferred none)) (w.heap.size + 1) 4 (.bool true) := (bR6.set _).kept (grownBy_putObj' _ D2 _) (by simp; omega)
                  have bR9 : Boxed (((w7.setCell ⟨w.heap.size + 1, 0, none⟩ (.bool true)).putObj D2 (.deferred none)).putObj D (.deferred none)) (w.heap.size + 1) 4 (.bool true) := bR8.kept (grownBy_putObj' _ D _) (by simp; omega)
                  have bel7 : Below w.heap.size w (w7.setCell ⟨w.heap.size + 1, 0, none⟩ (.bool true)) := belW6.setCell (p := ⟨w.heap.size + 1, 0, none⟩) (Nat.le_succ _) _
                  have bel8 := bel7.trans (belowK_b (w := w) (Nat.le_refl _) _ D2 _ (.deferred none) (by omega) hK8 rfl rfl)
                  have bel9 := bel8.trans (belowK_b (w := w) (Nat.le_refl _) _ D _ (.deferred none) (by omega) hK9 rfl rfl)
                  refine ⟨by simp, .inl ⟨_, _, rfl, run_takeDeferred hK8, ?_⟩⟩
                  refine ⟨by simp, .inl ⟨_, _, rfl, run_takeDeferred hK9, ?_⟩⟩
                  exact ⟨_, results_boolCell6 rfl _ _ _ true rfl bR9.cell, rfl, bel9⟩

theorem clockGoes_walk (va : Value) (d1 : List Int) (vb : Value) (d2 : List Int) (st : Int) (w : World) (h1 : IsI w va d1) (h2 : IsI w vb d2) (_ : (Lit.int .i64 st).wf = true) :
    Calls Try.prog 8 #[va, vb, .int .i64 st] w fun e w' => e = .returned (.bool true) ∧ Below w.heap.size w w' :=
  callsIn_wide.1 (goes_in 4 (Nat.le_refl _) va vb d1 d2 st w h1 h2)

end Go.Proofs.Ytjcpnjobfedejaa
