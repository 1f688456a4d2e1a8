/- The walk of IdentGoes: for every list of stamps and every number it returns true. -/
import Derived.Test.YtmfnfekkemoliaaDoorRowSrt
import Derived.Test.YtmfnfekkemoliaaDoorWalksC
import Derived.Sort.QuietIn
import Derived.Test.YtmfnfekkemoliaaDoorQuietR
namespace Go.Proofs.YtmfnfekkemoliaaDoor
open Go.RowKit Go.Shelf
set_option linter.unusedVariables false

attribute [local go_sem] Oper.semAt_some

/-- 'append(s, l...)', s empty and the call's own, l any list of stamps. -/
theorem wpListIn_append_S {F : Fence} {n : Nat} (w : World) {ops : Array Oper} {rest : List Oper} {o : Oper} {a : Act} {Q : Exit → Act → World → Prop}
    (hg : o.guard = none) (s x : Operand) (hop : o.op = Op.call { callee := Callee.builtin Builtin.append, args := #[s, x], argTypes := #[38, 38] })
    (base : Nat) (v : Value) (hs : a.eval s = v) (hown : w.ownsRow base 23 2 v 0 []) (vx : Value) (d : List (Int × Int)) (hx : a.eval x = vx) (hI : IsS w vx d) (b3 : base ≤ w.heap.size)
    (hK : ∀ v' w', w'.ownsRow base 23 2 v' d.length (flat d) → w.grownBy w' v.ownBlock → wpListIn F n Tryd.prog ops Q rest (a.put o.dst v') w') : wpListIn F n Tryd.prog ops Q (o :: rest) a w := by
  obtain ⟨i0, hi, hz0, hz1, hz2⟩ := info_parts infoStamp
  obtain ⟨al, cap, rfl, hc, hl, hr⟩ := hI
  match al with
  | none =>
    have e : d = [] := hr.resolve_right (fun ⟨_, _, e, _⟩ => by cases e)
    subst e
    refine wpListIn_plain hg fun K hK' => ?_
    have hrun : (Builtin.append_ #[38, 38] o.type #[v, .slice none 0 cap]).run Tryd.prog w = .ok v w := by
      rcases hown.2 with ⟨rfl, _⟩ | ⟨g, cp, cur, rfl, _⟩
      · simp [Builtin.append_, run_underlying Tryd.underlying38, sizeOf, typeInfo, hi, Builtin.lenOf, Builtin.firstCells]
      · simp [Builtin.append_, run_underlying Tryd.underlying38, sizeOf, typeInfo, hi, Builtin.lenOf, Builtin.firstCells, storeCells]
    unfold Oper.wpIn
    refine ⟨?_, ?_⟩
    · simp [Oper.about, hop, resolve, Target.leads, Sem.run_pure]
    · rw [Oper.semAt_plain F _ _ (by rw [hop]; intro c hc'; cases hc')]
      simp [execOp, hop, resolve, invoke, builtin, hs, hx, hrun, Result.andThen]
      exact hK' _ _ (hK v w hown ⟨rfl, rfl, rfl, Nat.le_refl _, fun _ _ _ => rfl⟩)
  | some ad =>
    have hn : ∀ j u, (flat d)[j]? = some u → w.cell? (ad.add j) = some u := by
      intro j u hj
      rcases hr with rfl | ⟨b, o, e, hr⟩
      · simp [flat] at hj
      · cases e
        exact hr.news j u hj
    refine wpListIn_append_own w hg s x 38 hop base 23 i0 (.agg #[.int .i64 0, .int .i64 0]) 2 16 Tryd.underlying38 hi hz0 hz1 hz2 rfl (by decide) v 0 [] hs hown ad d.length cap (flat d) hx (flat_length d) hn (flat_one d) (by unfold maxLen; omega) (by omega) b3 ?_
    intro v' w' h1 h2 _
    exact hK v' w' (by simpa using h1) h2

theorem eql_nilFunc (Bs : Nat) (w : World) : (binOp .eql 43 (.func (.func 40) #[] #[.pointer (some ⟨Bs, 0, none⟩)]) .nilFunc).run Tryd.prog w = .ok (.bool false) w := by kernel_rfl

theorem results_boolCell (tmps : Array Value) (R : Nat) (w : World) (hp : tmps.getD 4 undef = .pointer (some ⟨R, 0, none⟩)) (hc : w.cell? ⟨R, 0, none⟩ = some (.bool true)) : (results Tryd.f8 tmps).run Tryd.prog w = .ok (.bool true) w := by
  have hp' : tmps[4]?.getD undef = .pointer (some ⟨R, 0, none⟩) := by simpa using hp
  simp [results, hp', asAddr, loadVar, isAgg, run_underlying Tryd.underlying4, load, go_sem]
  simp [Sem.run, hc]

/-- The given list's row, that the law writes over. -/
def GivenF (B T : Nat) (W : World) (a : Option Addr) (m : Nat) : Prop := m = 0 ∨ ∃ g E, a = some ⟨g, 0, none⟩ ∧ B ≤ g ∧ g < T ∧ RowF W g E ∧ E.length = m

set_option maxHeartbeats 8000000 in
set_option maxRecDepth 100000 in
theorem goes_in (n : Nat) (hn : 3 ≤ n) (v : Value) (d : List (Int × Int)) (st : Int) (w : World) (h : IsS w v d) :
    CallsIn Fence.wide n Tryd.prog 8 #[v, .int .i64 st] w fun e w' => e = .returned (.bool true) ∧ Below w.heap.size w w' := by
  have hro : Fence.wide.round = none := rfl
  have h1 : 1 ≤ n := by omega
  have hl : d.length ≤ 8796093022208 := by obtain ⟨_, _, _, _, hl, _⟩ := h; exact hl
  obtain ⟨av, cv, ev⟩ := h.form
  subst ev
  have hb2 : Below w.heap.size w ((w.alloc (.cells #[.int .i64 st] 3)).alloc (.cells #[.bool false] 4)) := ((Below.refl _ _).alloc (Nat.le_refl _) _).alloc (by simp) _
  have hb3 : Below w.heap.size w (((w.alloc (.cells #[.int .i64 st] 3)).alloc (.cells #[.bool false] 4)).alloc (.cells #[] 23)) := hb2.alloc (by simp; omega) _
  have HV0 : Hid (IsS w (.slice av d.length cv) d) := h
  have HV : Hid (IsS (((w.alloc (.cells #[.int .i64 st] 3)).alloc (.cells #[.bool false] 4)).alloc (.cells #[] 23)) (.slice av d.length cv) d) := h.below hb3
  have HO : Hid ((((w.alloc (.cells #[.int .i64 st] 3)).alloc (.cells #[.bool false] 4)).alloc (.cells #[] 23)).ownsRow (w.heap.size + 2) 23 2 (.slice (some ⟨w.heap.size + 1 + 1, 0, none⟩) 0 0) 0 []) := by
    show World.ownsRow _ _ _ _ _ _ _
    have := OwnS.empty ((w.alloc (.cells #[.int .i64 st] 3)).alloc (.cells #[.bool false] 4)) (w.heap.size + 2) (by simp)
    simpa [OwnS, flat] using this
  clear h hb2
  refine callsIn_of_wp_marks Tryd.func8 rfl trivial ?_ hro
  simp only [Tryd.ntmps8, List.size_toArray, List.length_cons, List.length_nil, Nat.reduceAdd, Nat.reduceSub, Array.replicate_succ, Array.replicate_zero, List.push_toArray, List.append_toArray, List.nil_append, List.cons_append]
  gi_wp2_with (first | (gi_at_builtin; refine wpListIn_append_S _ rfl _ _ rfl (w.heap.size + 2) (.slice (some ⟨w.heap.size + 1 + 1, 0, none⟩) 0 0) rfl HO.out _ d rfl HV.out (by simp <;> omega) ?_; intro v3 w3 hown' hgrow3))
  have z3 : w.heap.size + 3 ≤ w3.heap.size := by have := hgrow3.size; simpa using this
  have bel3 : Below w.heap.size w w3 := hb3.grown hgrow3 (by simp <;> omega) (fun j e => by simp [Value.ownBlock] at e; omega)
  have bS : Boxed w3 w.heap.size 3 (.int .i64 st) := (((Boxed.new w 3 (.int .i64 st)).alloc _).alloc _).kept hgrow3 (by simp [Value.ownBlock] <;> omega)
  have bR : Boxed w3 (w.heap.size + 1) 4 (.bool false) := by
    have := ((Boxed.new (w.alloc (.cells #[.int .i64 st] 3)) 4 (.bool false)).alloc (.cells #[] 23)).kept hgrow3 (by simp [Value.ownBlock])
    simpa using this
  have own3 : OwnS (w.heap.size + 2) w3 v3 d := hown'
  have IG : Hid (IsS w3 v3 d) := own3.isS hl
  obtain ⟨a3, c3, e3, gv3⟩ : ∃ a3 c3, v3 = .slice a3 d.length c3 ∧ GivenF (w.heap.size + 2) w3.heap.size w3 a3 d.length := by
    rcases own3.cases with ⟨rfl, rfl⟩ | ⟨g, cap, rfl, hg, hcap⟩
    · exact ⟨none, 0, rfl, .inl rfl⟩
    · exact ⟨_, cap, rfl, .inr ⟨g, d, rfl, hg, own3.blockLt, rowF_holdsK (holdsK_own own3), rfl⟩⟩
  subst e3
  clear hown' hgrow3 own3 HO HV hb3
  have en := eql_nilFunc
  gi_wp2_with (refine ⟨trivial, ?_⟩; gi_at_call 28; refine (callsIn_wide.2 (rising_any _ d _ IG.out)).mono ?_; rintro e w4 ⟨Bs, ar, cr, rfl, hBs, hBl, hcr, hrow, hlr, hbr⟩)
  clear en
  have z4 := hbr.size
  have gv4 : GivenF (w.heap.size + 2) w3.heap.size w4 a3 d.length := gv3.imp id fun ⟨g, E, e1, e2, e3, e4, e5⟩ => ⟨g, E, e1, e2, e3, e4.below hbr, e5⟩
  have bS4 : Boxed w4 w.heap.size 3 (.int .i64 st) := (hbr.block _ (by omega)).trans bS
  have bR4 : Boxed w4 (w.heap.size + 1) 4 (.bool false) := (hbr.block _ (by omega)).trans bR
  have bel4 : Below w.heap.size w w4 := bel3.trans (hbr.mono (by omega))
  clear gv3 bS bR bel3 IG hbr
  gi_loopw [7] (fun iv wr => ∃ k : Nat, k ≤ d.length ∧ iv = .int .i64 (k : Int) ∧ GivenF (w.heap.size + 2) w3.heap.size wr a3 d.length ∧ Below (w.heap.size + 2) w4 wr ∧ KeepsIn w3.heap.size w4.heap.size w4 wr) (fun iv _ => d.length - (intOf iv).toNat)
  case atStart => exact ⟨0, Nat.zero_le _, rfl, gv4, Below.refl _ _, KeepsIn.refl _ _ _⟩
  case round =>
    obtain ⟨k, hk, rfl, hgv, hbw, hkw⟩ := hrel
    by_cases hlt : k < d.length
    · obtain ⟨g, E, rfl, hg1, hg2, hrE, hE⟩ := hgv.resolve_left (by omega)
      obtain ⟨⟨x1, x2⟩, f1, f2⟩ := hrE k (by omega)
      have HrE : Hid (RowF wr g E) := hrE
      have k1 : (k : Int) < (d.length : Int) := by omega
      have k0 : (0 : Int) ≤ (k : Int) := by omega
      clear hgv hrE gv4
      gi_wp2
      go_roundw
      case rel =>
        refine ⟨k + 1, by omega, by go_num, .inr ⟨g, E.set k (-7, 0), rfl, hg1, hg2, HrE.out.set (by omega) _ _, by simpa using hE⟩, ?_, ?_⟩
        · exact (hbw.setCell (p := ⟨g, k * 2, none⟩) hg1 _).setCell (p := ⟨g, k * 2 + 1, none⟩) hg1 _
        · refine ⟨by simpa using hkw.1, fun j h1 h2 => ?_⟩
          rw [Below.heap_setCell _ _ _ _ (by show j ≠ g; omega), Below.heap_setCell _ _ _ _ (by show j ≠ g; omega)]
          exact hkw.2 j h1 h2
      case measure => simp [intOf]; omega
    · clear hgv gv4
      have zr := hbw.size
      have HV5 : Hid (IsS wr (.slice av d.length cv) d) := HV0.out.below (bel4.trans (hbw.mono (by omega)))
      gi_wp2_with (refine ⟨trivial, ?_⟩; gi_at_call 27; refine (callsIn_wide.2 (refSort_any _ d _ HV5.out)).mono ?_; rintro e w5 ⟨v5, rfl, hs5, hb5⟩; obtain ⟨a5, c5, e5⟩ := hs5.form; have HS5 : Hid (IsS w5 v5 (sortL d)) := hs5; clear hs5; subst e5)
      have HRW : Hid (RowB 0 w5.heap.size w5 a5 (sortL d)) := by
        obtain ⟨a', c', e1, _, _, hr⟩ := HS5.out
        cases e1
        rcases hr with e | ⟨b, o, e, hr⟩
        · exact .inl e
        · by_cases hd : sortL d = []
          · exact .inl hd
          · exact .inr ⟨b, o, e, ⟨Nat.zero_le _, hr.lt hd⟩, hr⟩
      have z5 := hb5.size
      have bS5 : Boxed w5 w.heap.size 3 (.int .i64 st) := (hb5.block _ (by omega)).trans ((hbw.block _ (by omega)).trans bS4)
      have bR5 : Boxed w5 (w.heap.size + 1) 4 (.bool false) := (hb5.block _ (by omega)).trans ((hbw.block _ (by omega)).trans bR4)
      have hk5 : KeepsIn w3.heap.size w4.heap.size w4 w5 := hkw.trans (KeepsIn.of_below hb5 hkw.1)
      have bel5 : Below w.heap.size w w5 := (bel4.trans (hbw.mono (by omega))).trans (hb5.mono (by have := bel4.size; omega))
      have bW := (Boxed.new w5 38 (.slice a5 (sortL d).length c5)).alloc (.cells #[.int .i64 0] 3)
      have bN := Boxed.new (w5.alloc (.cells #[.slice a5 (sortL d).length c5] 38)) 3 (.int .i64 0)
      rw [World.size_alloc] at bN
      have hb51 : Below w5.heap.size w5 ((w5.alloc (.cells #[.slice a5 (sortL d).length c5] 38)).alloc (.cells #[.int .i64 0] 3)) := ((Below.refl _ _).alloc (Nat.le_refl _) _).alloc (by simp) _
      have sz1 : ((w5.alloc (.cells #[.slice a5 (sortL d).length c5] 38)).alloc (.cells #[.int .i64 0] 3)).heap.size = w5.heap.size + 2 := by simp
      obtain ⟨W1, hW1⟩ : ∃ W1, (w5.alloc (.cells #[.slice a5 (sortL d).length c5] 38)).alloc (.cells #[.int .i64 0] 3) = W1 := ⟨_, rfl⟩
      rw [hW1] at bW bN hb51 sz1 ⊢
      clear hW1
      have bS1 : Boxed W1 w.heap.size 3 (.int .i64 st) := (hb51.block _ (by omega)).trans bS5
      have bR1 : Boxed W1 (w.heap.size + 1) 4 (.bool false) := (hb51.block _ (by omega)).trans bR5
      have belW1 : Below w.heap.size w W1 := bel5.trans (hb51.mono (by have := bel5.size; omega))
      have hkW1 : KeepsIn w3.heap.size w4.heap.size w4 W1 := hk5.trans (KeepsIn.of_below hb51 hk5.1)
      have zz4 := hkw.1
      have HRW1 : Hid (RowB 0 w5.heap.size W1 a5 (sortL d)) := HRW.out.kept (KeepsIn.of_below hb51 (Nat.le_refl _))
      have hcr1 : W1.cell? ⟨Bs, 0, none⟩ = some (.slice ar (sortL d).length cr) := (hkW1.cell (p := ⟨Bs, 0, none⟩) hBl hBs).trans hcr
      have hrow1 : RowB w3.heap.size w4.heap.size W1 ar (sortL d) := hrow.kept hkW1
      have HIT : Hid (∀ (W : World) (m : Nat), 1 ≤ m → W1.heap.size ≤ W.heap.size → KeepsIn w3.heap.size w4.heap.size W1 W → SeqStopsK Fence.wide m Tryd.prog 40 #[.pointer (some ⟨Bs, 0, none⟩)] encP (KeepsIn w3.heap.size w4.heap.size) (fun ys => ys = sortL d) (fun pre => pre <+: sortL d) (sortL d).length W) := fun W m hm hs hk =>
        rise_stops Fence.wide m trivial hro hm Bs w3.heap.size w4.heap.size cr ar (sortL d) hlr ⟨hBl, hBs⟩ W (by omega) ((hk.cell (p := ⟨Bs, 0, none⟩) hBl hBs).trans hcr1) (hrow1.kept hk)
      clear HRW HS5 hb5 hbw hkw bS4 bR4 bel4 bS5 bR5 hk5 bel5 hb51 HV5 hcr hrow hkW1
      have own1 : OwnFrom W1.heap.size (fun (pre : List (Int × Int)) W => Boxed W (w5.heap.size + 1) 3 (.int .i64 (pre.length : Int)) ∧ Below (w5.heap.size + 1) W1 W) :=
        OwnFrom.and (Own.from (boxed_own _ _ _) _) (ownFrom_below (by omega) (by omega))
      have own2 : OwnFrom W1.heap.size (fun (pre : List (Int × Int)) W => Boxed W (w5.heap.size + 1) 3 (.int .i64 st) ∧ Below (w5.heap.size + 1) W1 W) :=
        OwnFrom.and (Own.from (boxed_own _ _ _) _) (ownFrom_below (by omega) (by omega))
      refine wpIn_rangeFunc_ownH hro h1 (gf := 40) (lb := #[.pointer (some ⟨Bs, 0, none⟩)]) rfl trivial (enters_of Tryd.func40 (by kernel_rfl) rfl)
        (HIT.out W1 (n - 1) (by omega) (Nat.le_refl _) (KeepsIn.refl _ _ _)) KeepsIn.trans (keepsInK_b (by omega)) (Below.refl _ _) (fun _ => rfl)
        (fun pre W => Boxed W (w5.heap.size + 1) 3 (.int .i64 (pre.length : Int)) ∧ Below (w5.heap.size + 1) W1 W)
        (fun c pre W => (c = .ret ∧ ¬ pre <+: sortL d) ∨ (c = .exit 2 ∧ Boxed W (w5.heap.size + 1) 3 (.int .i64 st) ∧ Below (w5.heap.size + 1) W1 W))
        own1
        (fun c s X Y row hs hg hr => hs.imp id (fun ⟨e, h⟩ => ⟨e, own2 s X Y row h hg hr⟩))
        ⟨bN, Below.refl _ _⟩
        (fun x a' W => ∃ Bx, Box2 W Bx x ∧ a' = { tmps := #[.slice av d.length cv, .int .i64 st, undef, .pointer (some ⟨w.heap.size, 0, none⟩), .pointer (some ⟨w.heap.size + 1, 0, none⟩), .slice a3 d.length c3, .func (.func 40) #[] #[.pointer (some ⟨Bs, 0, none⟩)], .int .i64 (k : Int), .pointer (some ⟨w5.heap.size, 0, none⟩), .pointer (some ⟨w5.heap.size + 1, 0, none⟩), .pointer (some ⟨Bx, 0, none⟩), undef, undef, .slice (some ⟨w.heap.size + 1 + 1, 0, none⟩) 0 0, .slice av d.length cv, .slice a3 d.length c3, .slice a3 d.length c3, .func (.func 40) #[] #[.pointer (some ⟨Bs, 0, none⟩)], .func (.func 40) #[] #[.pointer (some ⟨Bs, 0, none⟩)], .bool false, .int .i64 (k : Int), .slice a3 d.length c3, .int .i64 (d.length : Int), .bool false, u24, u25, u26, u27, u28, u29, .slice av d.length cv, .slice a5 (sortL d).length c5, .func (.func 40) #[] #[.pointer (some ⟨Bs, 0, none⟩)], .agg #[.int .i64 x.1, .int .i64 x.2], undef, undef, undef, undef, undef, undef, undef, undef, undef, undef, undef, undef, undef, undef, undef, undef, undef, undef, undef, undef, undef, undef, undef, undef, undef, undef, undef, undef, undef, undef, undef, undef, undef, undef, undef, undef, undef, undef, undef, undef, undef, undef, undef, undef, undef, undef, undef, undef, undef, undef, undef], defers := [] })
        (fun x a' _ X Y row hs hg hr => by obtain ⟨Bx, h2, h3⟩ := hs; exact ⟨Bx, box2_own Bx (fun (_ : Unit) => x) () X Y row h2 hg (fun r e => (hr r e).2), h3⟩)
        ?assign ?body ?done ?stop
      case assign =>
        rintro l pre x W K ⟨bN1, hB1⟩ hK
        have zB := hB1.size
        simp only [encP]
        gi_wp2
        exact hK _ _ ((KeepsOthers.alloc _ _).from _) (KeepsIn.of_grown (World.grownBy_alloc _ _ none) (by omega) (by simp)) ⟨bN1.alloc _, hB1.alloc (by omega) _⟩ ⟨W.heap.size, Box2.new W x, rfl⟩
      case body =>
        rintro l pre x a' W hl ⟨r, hr⟩ ⟨bN1, hB1⟩ ⟨Bx, hBx, rfl⟩ hlt
        have zB := hB1.size
        have cN := bN1.cell
        have fN := bN1.frozen
        have bS2 : Boxed W w.heap.size 3 (.int .i64 st) := (hB1.block _ (by omega)).trans bS1
        have bR2 : Boxed W (w.heap.size + 1) 4 (.bool false) := (hB1.block _ (by omega)).trans bR1
        have bW2 : Boxed W w5.heap.size 38 (.slice a5 (sortL d).length c5) := (hB1.block _ (by omega)).trans bW
        have cS := bS2.cell
        have cR := bR2.cell
        have fR := bR2.frozen
        have cW := bW2.cell
        obtain ⟨hx1, hx2⟩ := hBx.cell
        have hRW := HRW1.out.kept (KeepsIn.of_below (lo := 0) hB1 (by omega : w5.heap.size ≤ w5.heap.size + 1))
        obtain ⟨b5, o5, rfl, _, hr5⟩ := hRW.resolve_left (by intro e; rw [e] at hlt; simp at hlt)
        obtain ⟨y1, y2⟩ := hr5 pre.length hlt
        have hget : Hid (∀ h : pre.length < (sortL d).length, (sortL d)[pre.length] ≠ x → ¬ (pre ++ [x]) <+: sortL d) := fun h hne hp => hne (by
          obtain ⟨t, ht⟩ := hp
          simp [← ht])
        have hl2 : pre.length + 1 ≤ 8796093022208 := by omega
        have hd : decide (((sortL d).length : Int) ≤ (pre.length : Int)) = false := by simp only [decide_eq_false_iff_not]; omega
        have k0 : (0 : Int) ≤ (pre.length : Int) := by omega
        have hln : ¬ (sortL d).length ≤ pre.length := by omega
        have hdn : decide ((sortL d).length ≤ pre.length) = false := by simp only [decide_eq_false_iff_not]; omega
        have k1 : (pre.length : Int) < ((sortL d).length : Int) := by omega
        have hlt' : pre.length < (sortL d).length := hlt
        have hwrap : IntKind.i64.wrap ((pre.length : Int) + 1) = ((pre ++ [x]).length : Int) := by rw [IntWalk.i64_in _ (by omega)]; simp
        clear hRW hr5
        by_cases hst : (pre.length : Int) = st
        · have qs : ((pre.length : Int) == st) = true := by simp [hst]
          gi_wp2
          exact ⟨KeepsFrom.refl _ _, .inr ⟨rfl, by rw [← hst]; exact bN1, hB1⟩⟩
        · have qs : ((pre.length : Int) == st) = false := by simp [hst]
          by_cases hx : (sortL d)[pre.length] = x
          · rw [hx] at y1 y2
            gi_wp2
            refine region_round l rfl (by kernel_rfl) (by kernel_rfl) (by kernel_rfl) ?_
            repeat (gi_big_quiet_step (fail))
            refine wpQuietIn_nil ?_
            intro _ hw'
            obtain ⟨nq, hw''⟩ := hw'
            subst hw''
            gi_wp2
            refine ⟨KeepsFrom.trans (Y := W.drewN nq) ⟨Nat.le_refl _, fun _ _ _ h _ => h⟩ ((KeepsOthers.setCell _ _ _).from _), ⟨by simp, fun j h1 h2 => Below.heap_setCell _ _ _ _ (by show j ≠ w5.heap.size + 1; omega)⟩, ?_, (below_drewN hB1 nq).setCell (p := ⟨w5.heap.size + 1, 0, none⟩) (Nat.le_refl _) _⟩
            rw [show ((pre ++ [x]).length : Int) = (pre.length : Int) + 1 by simp]
            exact Boxed.set (W := W.drewN nq) _ bN1
          · have hnp := hget.out hlt hx
            by_cases hf : (sortL d)[pre.length].1 = x.1
            · have q2 : (x.2 == (sortL d)[pre.length].2) = false := by
                rw [beq_eq_false_iff_ne]; intro e; exact hx (Prod.ext hf e.symm)
              rw [hf] at y1
              gi_wp2
              refine region_round l rfl (by kernel_rfl) (by kernel_rfl) (by kernel_rfl) ?_
              repeat (gi_big_quiet_step (fail))
              refine wpQuietIn_nil ?_
              intro _ hw'
              obtain ⟨nq, hw''⟩ := hw'
              subst hw''
              gi_wp2
              exact ⟨KeepsFrom.trans (Y := W.drewN nq) ⟨Nat.le_refl _, fun _ _ _ h _ => h⟩ ((KeepsOthers.setCell _ _ _).from _), .inl ⟨rfl, hnp⟩⟩
            · have q2 : (x.1 == (sortL d)[pre.length].1) = false := by rw [beq_eq_false_iff_ne]; exact fun e => hf e.symm
              gi_wp2
              refine region_round l rfl (by kernel_rfl) (by kernel_rfl) (by kernel_rfl) ?_
              repeat (gi_big_quiet_step (fail))
              refine wpQuietIn_nil ?_
              intro _ hw'
              obtain ⟨nq, hw''⟩ := hw'
              subst hw''
              gi_wp2
              exact ⟨KeepsFrom.trans (Y := W.drewN nq) ⟨Nat.le_refl _, fun _ _ _ h _ => h⟩ ((KeepsOthers.setCell _ _ _).from _), .inl ⟨rfl, hnp⟩⟩
      case done =>
        rintro D ys W hD rfl ⟨bN1, hB1⟩ hK
        have zB := hB1.size
        have cN := bN1.cell
        have bS2 : Boxed W w.heap.size 3 (.int .i64 st) := (hB1.block _ (by omega)).trans bS1
        have bR2 : Boxed W (w.heap.size + 1) 4 (.bool false) := (hB1.block _ (by omega)).trans bR1
        have bW2 : Boxed W w5.heap.size 38 (.slice a5 (sortL d).length c5) := (hB1.block _ (by omega)).trans bW
        have hRW2 : Hid (RowB 0 w5.heap.size W a5 (sortL d)) := HRW1.out.kept (KeepsIn.of_below (lo := 0) hB1 (by omega : w5.heap.size ≤ w5.heap.size + 1))
        have belW2 : Below w.heap.size w W := belW1.trans (hB1.mono (by omega))
        gi_wp2
        have bN3 := bN1.alloc (.cells #[.int .i64 0] 3)
        have bS3 := bS2.alloc (.cells #[.int .i64 0] 3)
        have bR3 := bR2.alloc (.cells #[.int .i64 0] 3)
        have bW3 := bW2.alloc (.cells #[.int .i64 0] 3)
        have bK3 := Boxed.new W 3 (.int .i64 0)
        have hRW3 : Hid (RowB 0 w5.heap.size (W.alloc (.cells #[.int .i64 0] 3)) a5 (sortL d)) := hRW2.out.kept (KeepsIn.of_below (lo := 0) ((Below.refl W.heap.size W).alloc (Nat.le_refl _) _) (by omega))
        have belW3 : Below w.heap.size w (W.alloc (.cells #[.int .i64 0] 3)) := belW2.alloc (by omega) _
        have hB3 : Below (w5.heap.size + 1) W1 (W.alloc (.cells #[.int .i64 0] 3)) := hB1.alloc (by omega) _
        have hK3 : (W.alloc (.cells #[.int .i64 0] 3)).heap[D]? = some (.deferred (some [])) := (Below.heap_alloc _ _ _ (Array.getElem?_eq_some_iff.1 hK).1).trans hK
        have hDl : D < W.heap.size := (Array.getElem?_eq_some_iff.1 hK).1
        have sz3 : (W.alloc (.cells #[.int .i64 0] 3)).heap.size = W.heap.size + 1 := by simp
        obtain ⟨W2, hW2⟩ : ∃ W2, W.alloc (.cells #[.int .i64 0] 3) = W2 := ⟨_, rfl⟩
        rw [hW2] at bN3 bS3 bR3 bW3 bK3 hRW3 belW3 hB3 hK3 sz3 ⊢
        clear hW2 bN1 bS2 bR2 bW2 hRW2 belW2 hB1 hK cN
        obtain ⟨B, hB⟩ : ∃ B, W.heap.size = B := ⟨_, rfl⟩
        rw [hB] at bK3 sz3 hDl zB ⊢
        clear hB
        have own3 : OwnFrom W2.heap.size (fun (pre : List (Int × Int)) W => Boxed W B 3 (.int .i64 (pre.length : Int)) ∧ Below B W2 W) :=
          OwnFrom.and (Own.from (boxed_own _ _ _) _) (ownFrom_below (by omega) (by omega))
        refine wpIn_rangeFunc_ownH hro h1 (gf := 40) (lb := #[.pointer (some ⟨Bs, 0, none⟩)]) rfl trivial (enters_of Tryd.func40 (by kernel_rfl) rfl)
          (HIT.out W2 (n - 1) (by omega) hB3.size (KeepsIn.of_below hB3 (by omega))) KeepsIn.trans (keepsInK_b (by omega)) (Below.refl _ _) (fun _ => rfl)
          (fun pre W => Boxed W B 3 (.int .i64 (pre.length : Int)) ∧ Below B W2 W)
          (fun c pre W => c = .ret ∧ ¬ pre <+: sortL d)
          own3
          (fun c s X Y row hs hg hr => hs)
          ⟨bK3, Below.refl _ _⟩
          (fun x a' W => ∃ Bx, Box2 W Bx x ∧ a' = { tmps := #[.slice av d.length cv, .int .i64 st, undef, .pointer (some ⟨w.heap.size, 0, none⟩), .pointer (some ⟨w.heap.size + 1, 0, none⟩), .slice a3 d.length c3, .func (.func 40) #[] #[.pointer (some ⟨Bs, 0, none⟩)], .int .i64 (k : Int), .pointer (some ⟨w5.heap.size, 0, none⟩), .pointer (some ⟨w5.heap.size + 1, 0, none⟩), undef, .pointer (some ⟨B, 0, none⟩), .pointer (some ⟨Bx, 0, none⟩), .slice (some ⟨w.heap.size + 1 + 1, 0, none⟩) 0 0, .slice av d.length cv, .slice a3 d.length c3, .slice a3 d.length c3, .func (.func 40) #[] #[.pointer (some ⟨Bs, 0, none⟩)], .func (.func 40) #[] #[.pointer (some ⟨Bs, 0, none⟩)], .bool false, .int .i64 (k : Int), .slice a3 d.length c3, .int .i64 (d.length : Int), .bool false, u24, u25, u26, u27, u28, u29, .slice av d.length cv, .slice a5 (sortL d).length c5, .func (.func 40) #[] #[.pointer (some ⟨Bs, 0, none⟩)], undef, undef, undef, undef, undef, undef, undef, undef, undef, undef, undef, undef, undef, undef, undef, undef, undef, undef, .func (.func 40) #[] #[.pointer (some ⟨Bs, 0, none⟩)], .agg #[.int .i64 x.1, .int .i64 x.2], undef, undef, undef, undef, undef, undef, undef, undef, undef, undef, undef, undef, undef, undef, undef, undef, undef, undef, undef, undef, undef, undef, undef, undef, undef, undef, undef, undef, undef, undef, undef, undef], defers := [] })
          (fun x a' _ X Y row hs hg hr => by obtain ⟨Bx, h2, h3⟩ := hs; exact ⟨Bx, box2_own Bx (fun (_ : Unit) => x) () X Y row h2 hg (fun r e => (hr r e).2), h3⟩)
          ?assignd ?bodyd ?doned ?stopd
        case assignd =>
          rintro l pre x W K ⟨bN1, hB1⟩ hK
          have zB := hB1.size
          simp only [encP]
          gi_wp2
          exact hK _ _ ((KeepsOthers.alloc _ _).from _) (KeepsIn.of_grown (World.grownBy_alloc _ _ none) (by omega) (by simp)) ⟨bN1.alloc _, hB1.alloc (by omega) _⟩ ⟨W.heap.size, Box2.new W x, rfl⟩
        case bodyd =>
          rintro l pre x a' W hl ⟨r, hr⟩ ⟨bN1, hB1⟩ ⟨Bx, hBx, rfl⟩ hlt
          have zB2 := hB1.size
          have cN := bN1.cell
          have fN := bN1.frozen
          have bR2 : Boxed W (w.heap.size + 1) 4 (.bool false) := (hB1.block _ (by omega)).trans bR3
          have bW2 : Boxed W w5.heap.size 38 (.slice a5 (sortL d).length c5) := (hB1.block _ (by omega)).trans bW3
          have cR := bR2.cell
          have fR := bR2.frozen
          have cW := bW2.cell
          obtain ⟨hx1, hx2⟩ := hBx.cell
          have hRW := hRW3.out.kept (KeepsIn.of_below (lo := 0) hB1 (by omega : w5.heap.size ≤ B))
          obtain ⟨b5, o5, rfl, _, hr5⟩ := hRW.resolve_left (by intro e; rw [e] at hlt; simp at hlt)
          obtain ⟨y1, y2⟩ := hr5 pre.length hlt
          have hget : Hid (∀ h : pre.length < (sortL d).length, (sortL d)[pre.length] ≠ x → ¬ (pre ++ [x]) <+: sortL d) := fun h hne hp => hne (by
            obtain ⟨t, ht⟩ := hp
            simp [← ht])
          have hl2 : pre.length + 1 ≤ 8796093022208 := by omega
          have hd : decide (((sortL d).length : Int) ≤ (pre.length : Int)) = false := by simp only [decide_eq_false_iff_not]; omega
          have k0 : (0 : Int) ≤ (pre.length : Int) := by omega
          have hln : ¬ (sortL d).length ≤ pre.length := by omega
          have hdn : decide ((sortL d).length ≤ pre.length) = false := by simp only [decide_eq_false_iff_not]; omega
          have k1 : (pre.length : Int) < ((sortL d).length : Int) := by omega
          have hlt' : pre.length < (sortL d).length := hlt
          have hwrap : IntKind.i64.wrap ((pre.length : Int) + 1) = ((pre ++ [x]).length : Int) := by rw [IntWalk.i64_in _ (by omega)]; simp
          clear hRW hr5
          by_cases hx : (sortL d)[pre.length] = x
          · rw [hx] at y1 y2
            gi_wp2
            refine region_round l rfl (by kernel_rfl) (by kernel_rfl) (by kernel_rfl) ?_
            repeat (gi_big_quiet_step (fail))
            refine wpQuietIn_nil ?_
            intro _ hw'
            obtain ⟨nq, hw''⟩ := hw'
            subst hw''
            gi_wp2
            refine ⟨KeepsFrom.trans (Y := W.drewN nq) ⟨Nat.le_refl _, fun _ _ _ h _ => h⟩ ((KeepsOthers.setCell _ _ _).from _), ⟨by simp, fun j h1 h2 => Below.heap_setCell _ _ _ _ (by show j ≠ B; omega)⟩, ?_, (below_drewN hB1 nq).setCell (p := ⟨B, 0, none⟩) (Nat.le_refl _) _⟩
            rw [show ((pre ++ [x]).length : Int) = (pre.length : Int) + 1 by simp]
            exact Boxed.set (W := W.drewN nq) _ bN1
          · have hnp := hget.out hlt hx
            by_cases hf : (sortL d)[pre.length].1 = x.1
            · have q2 : (x.2 == (sortL d)[pre.length].2) = false := by
                rw [beq_eq_false_iff_ne]; intro e; exact hx (Prod.ext hf e.symm)
              rw [hf] at y1
              gi_wp2
              refine region_round l rfl (by kernel_rfl) (by kernel_rfl) (by kernel_rfl) ?_
              repeat (gi_big_quiet_step (fail))
              refine wpQuietIn_nil ?_
              intro _ hw'
              obtain ⟨nq, hw''⟩ := hw'
              subst hw''
              gi_wp2
              exact ⟨KeepsFrom.trans (Y := W.drewN nq) ⟨Nat.le_refl _, fun _ _ _ h _ => h⟩ ((KeepsOthers.setCell _ _ _).from _), rfl, hnp⟩
            · have q2 : (x.1 == (sortL d)[pre.length].1) = false := by rw [beq_eq_false_iff_ne]; exact fun e => hf e.symm
              gi_wp2
              refine region_round l rfl (by kernel_rfl) (by kernel_rfl) (by kernel_rfl) ?_
              repeat (gi_big_quiet_step (fail))
              refine wpQuietIn_nil ?_
              intro _ hw'
              obtain ⟨nq, hw''⟩ := hw'
              subst hw''
              gi_wp2
              exact ⟨KeepsFrom.trans (Y := W.drewN nq) ⟨Nat.le_refl _, fun _ _ _ h _ => h⟩ ((KeepsOthers.setCell _ _ _).from _), rfl, hnp⟩
        case stopd =>
          rintro D2 c pre W3 _ hSp ⟨_, hnp⟩ _
          exact absurd hSp hnp
        case doned =>
          rintro D2 ys W3 hD2 rfl ⟨bK1, hB4⟩ hK4
          have zB2 := hB4.size
          have cK := bK1.cell
          have bN5 : Boxed W3 (w5.heap.size + 1) 3 (.int .i64 ((sortL d).length : Int)) := (hB4.block _ (by omega)).trans bN3
          have bS5 : Boxed W3 w.heap.size 3 (.int .i64 st) := (hB4.block _ (by omega)).trans bS3
          have bR5 : Boxed W3 (w.heap.size + 1) 4 (.bool false) := (hB4.block _ (by omega)).trans bR3
          have bW5 : Boxed W3 w5.heap.size 38 (.slice a5 (sortL d).length c5) := (hB4.block _ (by omega)).trans bW3
          have hK5 : W3.heap[D]? = some (.deferred (some [])) := (hB4.block _ (by omega)).trans hK3
          have belW5 : Below w.heap.size w W3 := belW3.trans (hB4.mono (by omega))
          have cN := bN5.cell
          have cS := bS5.cell
          have cR := bR5.cell
          have fR := bR5.frozen
          have cW := bW5.cell
          clear bK1 bN5 bS5 bW5 hB4
          gi_wp2
          refine ⟨trivial, (callsIn_wide.2 (awake_any _)).mono ?_⟩
          rintro e w6 ⟨rfl, hb6⟩
          have zB3 := hb6.size
          have bR6 : Boxed w6 (w.heap.size + 1) 4 (.bool false) := (hb6.block _ (by omega)).trans bR5
          have cR6 := bR6.cell
          have fR6 := bR6.frozen
          have hK6 : w6.heap[D]? = some (.deferred (some [])) := (hb6.block _ (Array.getElem?_eq_some_iff.1 hK5).1).trans hK5
          have hK7 : w6.heap[D2]? = some (.deferred (some [])) := (hb6.block _ (Array.getElem?_eq_some_iff.1 hK4).1).trans hK4
          have belW6 : Below w.heap.size w w6 := belW5.trans (hb6.mono (by omega))
          clear cR fR cN cS cW cK
          gi_wp2
          have hK8 : (w6.setCell ⟨w.heap.size + 1, 0, none⟩ (.bool true)).heap[D2]? = some (.deferred (some [])) := (Below.heap_setCell _ _ _ _ (by show D2 ≠ w.heap.size + 1; omega)).trans hK7
          have hK9 : ((w6.setCell ⟨w.heap.size + 1, 0, none⟩ (.bool true)).putObj D2 (.deferred none)).heap[D]? = some (.deferred (some [])) := ((grownBy_putObj' _ D2 _).block D (by simp; omega) (by simp; omega)).trans ((Below.heap_setCell _ _ _ _ (by show D ≠ w.heap.size + 1; omega)).trans hK6)
          have bR8 : Boxed ((w6.setCell ⟨w.heap.size + 1, 0, none⟩ (.bool true)).putObj D2 (.deferred none)) (w.heap.size + 1) 4 (.bool true) := (bR6.set _).kept (grownBy_putObj' _ D2 _) (by simp; omega)
          have bR9 : Boxed (((w6.setCell ⟨w.heap.size + 1, 0, none⟩ (.bool true)).putObj D2 (.deferred none)).putObj D (.deferred none)) (w.heap.size + 1) 4 (.bool true) := bR8.kept (grownBy_putObj' _ D _) (by simp; omega)
          have bel7 : Below w.heap.size w (w6.setCell ⟨w.heap.size + 1, 0, none⟩ (.bool true)) := belW6.setCell (p := ⟨w.heap.size + 1, 0, none⟩) (Nat.le_succ _) _
          have bel8 := bel7.trans (belowK_b (w := w) (Nat.le_refl _) _ D2 _ (.deferred none) (by omega) hK8 rfl rfl)
          have bel9 := bel8.trans (belowK_b (w := w) (Nat.le_refl _) _ D _ (.deferred none) (by omega) hK9 rfl rfl)
          refine ⟨by simp, .inl ⟨_, _, rfl, run_takeDeferred hK8, ?_⟩⟩
          refine ⟨by simp, .inl ⟨_, _, rfl, run_takeDeferred hK9, ?_⟩⟩
          exact ⟨_, results_boolCell _ _ _ rfl bR9.cell, rfl, bel9⟩
      case stop =>
        rintro D c pre W hD hSp (⟨_, hnp⟩ | ⟨rfl, bN1, hB1⟩) hK
        · exact absurd hSp hnp
        · have zB := hB1.size
          have cN := bN1.cell
          have bS2 : Boxed W w.heap.size 3 (.int .i64 st) := (hB1.block _ (by omega)).trans bS1
          have bR2 : Boxed W (w.heap.size + 1) 4 (.bool false) := (hB1.block _ (by omega)).trans bR1
          have bW2 : Boxed W w5.heap.size 38 (.slice a5 (sortL d).length c5) := (hB1.block _ (by omega)).trans bW
          have hRW2 : Hid (RowB 0 w5.heap.size W a5 (sortL d)) := HRW1.out.kept (KeepsIn.of_below (lo := 0) hB1 (by omega : w5.heap.size ≤ w5.heap.size + 1))
          have belW2 : Below w.heap.size w W := belW1.trans (hB1.mono (by omega))
          gi_wp2
          have bN3 := bN1.alloc (.cells #[.int .i64 0] 3)
          have bS3 := bS2.alloc (.cells #[.int .i64 0] 3)
          have bR3 := bR2.alloc (.cells #[.int .i64 0] 3)
          have bW3 := bW2.alloc (.cells #[.int .i64 0] 3)
          have bK3 := Boxed.new W 3 (.int .i64 0)
          have hRW3 : Hid (RowB 0 w5.heap.size (W.alloc (.cells #[.int .i64 0] 3)) a5 (sortL d)) := hRW2.out.kept (KeepsIn.of_below (lo := 0) ((Below.refl W.heap.size W).alloc (Nat.le_refl _) _) (by omega))
          have belW3 : Below w.heap.size w (W.alloc (.cells #[.int .i64 0] 3)) := belW2.alloc (by omega) _
          have hB3 : Below (w5.heap.size + 1) W1 (W.alloc (.cells #[.int .i64 0] 3)) := hB1.alloc (by omega) _
          have hK3 : (W.alloc (.cells #[.int .i64 0] 3)).heap[D]? = some (.deferred (some [])) := (Below.heap_alloc _ _ _ (Array.getElem?_eq_some_iff.1 hK).1).trans hK
          have hDl : D < W.heap.size := (Array.getElem?_eq_some_iff.1 hK).1
          have sz3 : (W.alloc (.cells #[.int .i64 0] 3)).heap.size = W.heap.size + 1 := by simp
          obtain ⟨W2, hW2⟩ : ∃ W2, W.alloc (.cells #[.int .i64 0] 3) = W2 := ⟨_, rfl⟩
          rw [hW2] at bN3 bS3 bR3 bW3 bK3 hRW3 belW3 hB3 hK3 sz3 ⊢
          clear hW2 bN1 bS2 bR2 bW2 hRW2 belW2 hB1 hK cN
          obtain ⟨B, hB⟩ : ∃ B, W.heap.size = B := ⟨_, rfl⟩
          rw [hB] at bK3 sz3 hDl zB ⊢
          clear hB
          have own3 : OwnFrom W2.heap.size (fun (pre : List (Int × Int)) W => Boxed W B 3 (.int .i64 (pre.length : Int)) ∧ Below B W2 W) :=
            OwnFrom.and (Own.from (boxed_own _ _ _) _) (ownFrom_below (by omega) (by omega))
          refine wpIn_rangeFunc_ownH hro h1 (gf := 40) (lb := #[.pointer (some ⟨Bs, 0, none⟩)]) rfl trivial (enters_of Tryd.func40 (by kernel_rfl) rfl)
            (HIT.out W2 (n - 1) (by omega) hB3.size (KeepsIn.of_below hB3 (by omega))) KeepsIn.trans (keepsInK_b (by omega)) (Below.refl _ _) (fun _ => rfl)
            (fun pre W => Boxed W B 3 (.int .i64 (pre.length : Int)) ∧ Below B W2 W)
            (fun c pre W => c = .ret ∧ ¬ pre <+: sortL d)
            own3
            (fun c s X Y row hs hg hr => hs)
            ⟨bK3, Below.refl _ _⟩
            (fun x a' W => ∃ Bx, Box2 W Bx x ∧ a' = { tmps := #[.slice av d.length cv, .int .i64 st, undef, .pointer (some ⟨w.heap.size, 0, none⟩), .pointer (some ⟨w.heap.size + 1, 0, none⟩), .slice a3 d.length c3, .func (.func 40) #[] #[.pointer (some ⟨Bs, 0, none⟩)], .int .i64 (k : Int), .pointer (some ⟨w5.heap.size, 0, none⟩), .pointer (some ⟨w5.heap.size + 1, 0, none⟩), undef, .pointer (some ⟨B, 0, none⟩), .pointer (some ⟨Bx, 0, none⟩), .slice (some ⟨w.heap.size + 1 + 1, 0, none⟩) 0 0, .slice av d.length cv, .slice a3 d.length c3, .slice a3 d.length c3, .func (.func 40) #[] #[.pointer (some ⟨Bs, 0, none⟩)], .func (.func 40) #[] #[.pointer (some ⟨Bs, 0, none⟩)], .bool false, .int .i64 (k : Int), .slice a3 d.length c3, .int .i64 (d.length : Int), .bool false, u24, u25, u26, u27, u28, u29, .slice av d.length cv, .slice a5 (sortL d).length c5, .func (.func 40) #[] #[.pointer (some ⟨Bs, 0, none⟩)], undef, undef, undef, undef, undef, undef, undef, undef, undef, undef, undef, undef, undef, undef, undef, undef, undef, undef, .func (.func 40) #[] #[.pointer (some ⟨Bs, 0, none⟩)], .agg #[.int .i64 x.1, .int .i64 x.2], undef, undef, undef, undef, undef, undef, undef, undef, undef, undef, undef, undef, undef, undef, undef, undef, undef, undef, undef, undef, undef, undef, undef, undef, undef, undef, undef, undef, undef, undef, undef, undef], defers := [] })
            (fun x a' _ X Y row hs hg hr => by obtain ⟨Bx, h2, h3⟩ := hs; exact ⟨Bx, box2_own Bx (fun (_ : Unit) => x) () X Y row h2 hg (fun r e => (hr r e).2), h3⟩)
            ?assignx ?bodyx ?donex ?stopx
          case assignx =>
            rintro l pre x W K ⟨bN1, hB1⟩ hK
            have zB := hB1.size
            simp only [encP]
            gi_wp2
            exact hK _ _ ((KeepsOthers.alloc _ _).from _) (KeepsIn.of_grown (World.grownBy_alloc _ _ none) (by omega) (by simp)) ⟨bN1.alloc _, hB1.alloc (by omega) _⟩ ⟨W.heap.size, Box2.new W x, rfl⟩
          case bodyx =>
            rintro l pre x a' W hl ⟨r, hr⟩ ⟨bN1, hB1⟩ ⟨Bx, hBx, rfl⟩ hlt
            have zB2 := hB1.size
            have cN := bN1.cell
            have fN := bN1.frozen
            have bR2 : Boxed W (w.heap.size + 1) 4 (.bool false) := (hB1.block _ (by omega)).trans bR3
            have bW2 : Boxed W w5.heap.size 38 (.slice a5 (sortL d).length c5) := (hB1.block _ (by omega)).trans bW3
            have cR := bR2.cell
            have fR := bR2.frozen
            have cW := bW2.cell
            obtain ⟨hx1, hx2⟩ := hBx.cell
            have hRW := hRW3.out.kept (KeepsIn.of_below (lo := 0) hB1 (by omega : w5.heap.size ≤ B))
            obtain ⟨b5, o5, rfl, _, hr5⟩ := hRW.resolve_left (by intro e; rw [e] at hlt; simp at hlt)
            obtain ⟨y1, y2⟩ := hr5 pre.length hlt
            have hget : Hid (∀ h : pre.length < (sortL d).length, (sortL d)[pre.length] ≠ x → ¬ (pre ++ [x]) <+: sortL d) := fun h hne hp => hne (by
              obtain ⟨t, ht⟩ := hp
              simp [← ht])
            have hl2 : pre.length + 1 ≤ 8796093022208 := by omega
            have hd : decide (((sortL d).length : Int) ≤ (pre.length : Int)) = false := by simp only [decide_eq_false_iff_not]; omega
            have k0 : (0 : Int) ≤ (pre.length : Int) := by omega
            have hln : ¬ (sortL d).length ≤ pre.length := by omega
            have hdn : decide ((sortL d).length ≤ pre.length) = false := by simp only [decide_eq_false_iff_not]; omega
            have k1 : (pre.length : Int) < ((sortL d).length : Int) := by omega
            have hlt' : pre.length < (sortL d).length := hlt
            have hwrap : IntKind.i64.wrap ((pre.length : Int) + 1) = ((pre ++ [x]).length : Int) := by rw [IntWalk.i64_in _ (by omega)]; simp
            clear hRW hr5
            by_cases hx : (sortL d)[pre.length] = x
            · rw [hx] at y1 y2
              gi_wp2
              refine region_round l rfl (by kernel_rfl) (by kernel_rfl) (by kernel_rfl) ?_
              repeat (gi_big_quiet_step (fail))
              refine wpQuietIn_nil ?_
              intro _ hw'
              obtain ⟨nq, hw''⟩ := hw'
              subst hw''
              gi_wp2
              refine ⟨KeepsFrom.trans (Y := W.drewN nq) ⟨Nat.le_refl _, fun _ _ _ h _ => h⟩ ((KeepsOthers.setCell _ _ _).from _), ⟨by simp, fun j h1 h2 => Below.heap_setCell _ _ _ _ (by show j ≠ B; omega)⟩, ?_, (below_drewN hB1 nq).setCell (p := ⟨B, 0, none⟩) (Nat.le_refl _) _⟩
              rw [show ((pre ++ [x]).length : Int) = (pre.length : Int) + 1 by simp]
              exact Boxed.set (W := W.drewN nq) _ bN1
            · have hnp := hget.out hlt hx
              by_cases hf : (sortL d)[pre.length].1 = x.1
              · have q2 : (x.2 == (sortL d)[pre.length].2) = false := by
                  rw [beq_eq_false_iff_ne]; intro e; exact hx (Prod.ext hf e.symm)
                rw [hf] at y1
                gi_wp2
                refine region_round l rfl (by kernel_rfl) (by kernel_rfl) (by kernel_rfl) ?_
                repeat (gi_big_quiet_step (fail))
                refine wpQuietIn_nil ?_
                intro _ hw'
                obtain ⟨nq, hw''⟩ := hw'
                subst hw''
                gi_wp2
                exact ⟨KeepsFrom.trans (Y := W.drewN nq) ⟨Nat.le_refl _, fun _ _ _ h _ => h⟩ ((KeepsOthers.setCell _ _ _).from _), rfl, hnp⟩
              · have q2 : (x.1 == (sortL d)[pre.length].1) = false := by rw [beq_eq_false_iff_ne]; exact fun e => hf e.symm
                gi_wp2
                refine region_round l rfl (by kernel_rfl) (by kernel_rfl) (by kernel_rfl) ?_
                repeat (gi_big_quiet_step (fail))
                refine wpQuietIn_nil ?_
                intro _ hw'
                obtain ⟨nq, hw''⟩ := hw'
                subst hw''
                gi_wp2
                exact ⟨KeepsFrom.trans (Y := W.drewN nq) ⟨Nat.le_refl _, fun _ _ _ h _ => h⟩ ((KeepsOthers.setCell _ _ _).from _), rfl, hnp⟩
          case stopx =>
            rintro D2 c pre W3 _ hSp ⟨_, hnp⟩ _
            exact absurd hSp hnp
          case donex =>
            rintro D2 ys W3 hD2 rfl ⟨bK1, hB4⟩ hK4
            have zB2 := hB4.size
            have cK := bK1.cell
            have bN5 : Boxed W3 (w5.heap.size + 1) 3 (.int .i64 st) := (hB4.block _ (by omega)).trans bN3
            have bS5 : Boxed W3 w.heap.size 3 (.int .i64 st) := (hB4.block _ (by omega)).trans bS3
            have bR5 : Boxed W3 (w.heap.size + 1) 4 (.bool false) := (hB4.block _ (by omega)).trans bR3
            have bW5 : Boxed W3 w5.heap.size 38 (.slice a5 (sortL d).length c5) := (hB4.block _ (by omega)).trans bW3
            have hK5 : W3.heap[D]? = some (.deferred (some [])) := (hB4.block _ (by omega)).trans hK3
            have belW5 : Below w.heap.size w W3 := belW3.trans (hB4.mono (by omega))
            have cN := bN5.cell
            have cS := bS5.cell
            have cR := bR5.cell
            have fR := bR5.frozen
            have cW := bW5.cell
            clear bK1 bN5 bS5 bW5 hB4
            by_cases hst : st = ((sortL d).length : Int)
            · have hq : (st == ((sortL d).length : Int)) = true := by simp [hst]
              gi_wp2
              refine ⟨trivial, (callsIn_wide.2 (awake_any _)).mono ?_⟩
              rintro e w6 ⟨rfl, hb6⟩
              have zB3 := hb6.size
              have bR6 : Boxed w6 (w.heap.size + 1) 4 (.bool false) := (hb6.block _ (by omega)).trans bR5
              have cR6 := bR6.cell
              have fR6 := bR6.frozen
              have hK6 : w6.heap[D]? = some (.deferred (some [])) := (hb6.block _ (Array.getElem?_eq_some_iff.1 hK5).1).trans hK5
              have hK7 : w6.heap[D2]? = some (.deferred (some [])) := (hb6.block _ (Array.getElem?_eq_some_iff.1 hK4).1).trans hK4
              have belW6 : Below w.heap.size w w6 := belW5.trans (hb6.mono (by omega))
              clear cR fR cN cS cW cK
              gi_wp2
              have hK8 : (w6.setCell ⟨w.heap.size + 1, 0, none⟩ (.bool true)).heap[D2]? = some (.deferred (some [])) := (Below.heap_setCell _ _ _ _ (by show D2 ≠ w.heap.size + 1; omega)).trans hK7
              have hK9 : ((w6.setCell ⟨w.heap.size + 1, 0, none⟩ (.bool true)).putObj D2 (.deferred none)).heap[D]? = some (.deferred (some [])) := ((grownBy_putObj' _ D2 _).block D (by simp; omega) (by simp; omega)).trans ((Below.heap_setCell _ _ _ _ (by show D ≠ w.heap.size + 1; omega)).trans hK6)
              have bR8 : Boxed ((w6.setCell ⟨w.heap.size + 1, 0, none⟩ (.bool true)).putObj D2 (.deferred none)) (w.heap.size + 1) 4 (.bool true) := (bR6.set _).kept (grownBy_putObj' _ D2 _) (by simp; omega)
              have bR9 : Boxed (((w6.setCell ⟨w.heap.size + 1, 0, none⟩ (.bool true)).putObj D2 (.deferred none)).putObj D (.deferred none)) (w.heap.size + 1) 4 (.bool true) := bR8.kept (grownBy_putObj' _ D _) (by simp; omega)
              have bel7 : Below w.heap.size w (w6.setCell ⟨w.heap.size + 1, 0, none⟩ (.bool true)) := belW6.setCell (p := ⟨w.heap.size + 1, 0, none⟩) (Nat.le_succ _) _
              have bel8 := bel7.trans (belowK_b (w := w) (Nat.le_refl _) _ D2 _ (.deferred none) (by omega) hK8 rfl rfl)
              have bel9 := bel8.trans (belowK_b (w := w) (Nat.le_refl _) _ D _ (.deferred none) (by omega) hK9 rfl rfl)
              refine ⟨by simp, .inl ⟨_, _, rfl, run_takeDeferred hK8, ?_⟩⟩
              refine ⟨by simp, .inl ⟨_, _, rfl, run_takeDeferred hK9, ?_⟩⟩
              exact ⟨_, results_boolCell _ _ _ rfl bR9.cell, rfl, bel9⟩
            · have hq : (st == ((sortL d).length : Int)) = false := by simp [hst]
              gi_wp2
              refine ⟨trivial, (callsIn_wide.2 (awake_any _)).mono ?_⟩
              rintro e w6 ⟨rfl, hb6⟩
              have zB3 := hb6.size
              have bR6 : Boxed w6 (w.heap.size + 1) 4 (.bool false) := (hb6.block _ (by omega)).trans bR5
              have cR6 := bR6.cell
              have fR6 := bR6.frozen
              have hK6 : w6.heap[D]? = some (.deferred (some [])) := (hb6.block _ (Array.getElem?_eq_some_iff.1 hK5).1).trans hK5
              have hK7 : w6.heap[D2]? = some (.deferred (some [])) := (hb6.block _ (Array.getElem?_eq_some_iff.1 hK4).1).trans hK4
              have belW6 : Below w.heap.size w w6 := belW5.trans (hb6.mono (by omega))
              clear cR fR cN cS cW cK
              gi_wp2
              have hK8 : (w6.setCell ⟨w.heap.size + 1, 0, none⟩ (.bool true)).heap[D2]? = some (.deferred (some [])) := (Below.heap_setCell _ _ _ _ (by show D2 ≠ w.heap.size + 1; omega)).trans hK7
              have hK9 : ((w6.setCell ⟨w.heap.size + 1, 0, none⟩ (.bool true)).putObj D2 (.deferred none)).heap[D]? = some (.deferred (some [])) := ((grownBy_putObj' _ D2 _).block D (by simp; omega) (by simp; omega)).trans ((Below.heap_setCell _ _ _ _ (by show D ≠ w.heap.size + 1; omega)).trans hK6)
              have bR8 : Boxed ((w6.setCell ⟨w.heap.size + 1, 0, none⟩ (.bool true)).putObj D2 (.deferred none)) (w.heap.size + 1) 4 (.bool true) := (bR6.set _).kept (grownBy_putObj' _ D2 _) (by simp; omega)
              have bR9 : Boxed (((w6.setCell ⟨w.heap.size + 1, 0, none⟩ (.bool true)).putObj D2 (.deferred none)).putObj D (.deferred none)) (w.heap.size + 1) 4 (.bool true) := bR8.kept (grownBy_putObj' _ D _) (by simp; omega)
              have bel7 : Below w.heap.size w (w6.setCell ⟨w.heap.size + 1, 0, none⟩ (.bool true)) := belW6.setCell (p := ⟨w.heap.size + 1, 0, none⟩) (Nat.le_succ _) _
              have bel8 := bel7.trans (belowK_b (w := w) (Nat.le_refl _) _ D2 _ (.deferred none) (by omega) hK8 rfl rfl)
              have bel9 := bel8.trans (belowK_b (w := w) (Nat.le_refl _) _ D _ (.deferred none) (by omega) hK9 rfl rfl)
              refine ⟨by simp, .inl ⟨_, _, rfl, run_takeDeferred hK8, ?_⟩⟩
              refine ⟨by simp, .inl ⟨_, _, rfl, run_takeDeferred hK9, ?_⟩⟩
              exact ⟨_, results_boolCell _ _ _ rfl bR9.cell, rfl, bel9⟩

theorem goes_walk (v : Value) (d : List (Int × Int)) (st : Int) (w : World) (h : IsS w v d) (_ : (Lit.int .i64 st).wf = true) :
    Calls Tryd.prog 8 #[v, .int .i64 st] w fun e w' => e = .returned (.bool true) ∧ Below w.heap.size w w' :=
  callsIn_wide.1 (goes_in 3 (Nat.le_refl _) v d st w h)

end Go.Proofs.YtmfnfekkemoliaaDoor
