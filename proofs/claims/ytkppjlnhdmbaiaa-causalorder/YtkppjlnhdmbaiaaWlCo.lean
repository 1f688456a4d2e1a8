/- CausalOrder is true of every input. -/
import Derived.Test.YtkppjlnhdmbaiaaCaI
namespace Go.Proofs.Ytkppjlnhdmbaiaa
open Go.RowKit
set_option linter.unusedVariables false
set_option linter.unusedSimpArgs false

/-- A clock with these changes more. -/
def ticks : List Int → List Ch → List Int
  | kn, [] => kn
  | kn, x :: t => ticks (tickR kn x.ar) t
/-- Each is ready with the clock and those ahead of it. -/
def Chain : List Int → List Ch → Prop
  | kn, [] => OkC kn
  | kn, x :: t => OkC kn ∧ isReadyB kn x = true ∧ Chain (tickR kn x.ar) t
theorem Chain.ok {kn : List Int} {O : List Ch} (h : Chain kn O) : OkC kn := by
  cases O with
  | nil => exact h
  | cons x t => exact h.1
theorem Chain.last : ∀ {kn : List Int} {O : List Ch}, Chain kn O → OkC (ticks kn O)
  | kn, [], h => h
  | kn, x :: t, h => Chain.last (kn := tickR kn x.ar) (O := t) h.2.2
theorem isReady_of {kn : List Int} {x : Ch} (h1 : OkC kn) (h2 : checkCh x = 0) (h3 : readyB kn x = true) : isReadyB kn x = true := by
  unfold isReadyB
  rw [(checkL_ok kn).2 h1, h2, h3]
  rfl
theorem runL_chain : ∀ (n : Nat) (kn : List Int) (L : List Ch), OkC kn → Plc L → (∀ c ∈ L, checkCh c = 0) → Chain kn (runL n kn L).1 ∧ (L.length ≤ n → ∀ y ∈ (runL n kn L).2, readyB (ticks kn (runL n kn L).1) y = false)
  | 0, kn, L, hk, hp, hc => ⟨hk, fun hl y hy => by
      have e : L = [] := List.eq_nil_of_length_eq_zero (by omega)
      subst e
      simp [runL] at hy⟩
  | n + 1, kn, L, hk, hp, hc => by
    cases h : L.find? (readyB kn) with
    | none =>
      rw [runL_none h]
      refine ⟨hk, fun _ y hy => ?_⟩
      have := List.find?_eq_none.1 h y hy
      show readyB kn y = false
      simpa using this
    | some x =>
      have hx : x ∈ L := List.mem_of_find?_eq_some h
      have hr : readyB kn x = true := by have := List.find?_some h; simpa using this
      have hpe := (hp.take hx).length_eq
      simp only [List.length_cons] at hpe
      obtain ⟨q1, q2⟩ := runL_chain n (tickR kn x.ar) (L.filter (notAt x)) (tick_ready hk (hc x hx) hr).2.1 (hp.sub List.filter_sublist) fun c hc2 => hc c (List.mem_filter.1 hc2).1
      rw [runL_some h]
      exact ⟨⟨hk, isReady_of hk (hc x hx) hr, q1⟩, fun hl y hy => q2 (by omega) y hy⟩
theorem take_order {room : Int} {H : List Ch} {kn : List Int} {c : Ch} (hk : OkC kn) (hp : Plc H) (hc : ∀ x ∈ H, checkCh x = 0) :
    ((takeR room H kn c).2.2 ≠ 0 → (takeR room H kn c).2.1 = []) ∧ Chain kn (takeR room H kn c).2.1 ∧ ((takeR room H kn c).2.1 ≠ [] → ∀ y ∈ (takeR room H kn c).1, readyB (ticks kn (takeR room H kn c).2.1) y = false) := by
  unfold takeR
  split
  · exact ⟨fun _ => rfl, hk, fun h => absurd rfl h⟩
  · rename_i h0
    have hok := newH_ok (Classical.not_not.1 h0)
    split
    · rename_i hr
      have ht := tick_ready hk hok.2.1 hr
      obtain ⟨q1, q2⟩ := runL_chain H.length (tickR kn c.ar) H ht.2.1 hp hc
      exact ⟨fun h => absurd rfl h, ⟨hk, isReady_of hk hok.2.1 hr, q1⟩, fun _ y hy => q2 (Nat.le_refl _) y hy⟩
    · split
      · exact ⟨fun _ => rfl, hk, fun h => absurd rfl h⟩
      · exact ⟨fun _ => rfl, hk, fun h => absurd rfl h⟩
theorem takeR_out {room : Int} {H : List Ch} {kn : List Int} {c : Ch} : (takeR room H kn c).2.1.length ≤ H.length + 1 := by
  unfold takeR
  split
  · simp
  · split
    · have := runL_len H.length (tickR kn c.ar) H
      simp only [List.length_cons]
      omega
    · split <;> simp
theorem BufH.ok {F : Nat → Prop} {w : World} {v : Value} {room : Int} {H : List Ch} (h : BufH F w v room H) : Plc H ∧ ∀ x ∈ H, checkCh x = 0 := by
  obtain ⟨D, h1, hp, _⟩ := h
  have hok : HoldOk D := by
    rcases h1 with ⟨_, _, _, h⟩ | ⟨_, _, rfl, _⟩
    · exact h.ok
    · exact HoldOk.nil
  refine ⟨(show Plc (D.map Prod.fst) from List.pairwise_map.2 hok.apart).perm hp, fun x hx => ?_⟩
  obtain ⟨y, hy, rfl⟩ := List.mem_map.1 (hp.mem_iff.2 hx)
  exact (hok.right y hy).1
/-- A clock that lies beside the buffer. -/
def KnG (F : Nat → Prop) (W : World) (kv : Value) (kn : List Int) : Prop := IsG (fun k => k < W.heap.size ∧ ¬ F k) W kv kn
theorem KnG.below {F : Nat → Prop} {W W' : World} {kv : Value} {kn : List Int} (h : KnG F W kv kn) (hb : Below W.heap.size W W') : KnG F W' kv kn :=
  (IsG.keep h (KeepsS.of_below hb fun k hk => hk.1)).mono fun k hk => ⟨Nat.lt_of_lt_of_le hk.1 hb.size, hk.2⟩
theorem KnG.touch {F F' : Nat → Prop} {W W' : World} {kv : Value} {kn : List Int} (h : KnG F W kv kn) (ht : Touch F W W') (hF : ∀ k, F' k → F k ∨ W.heap.size ≤ k) : KnG F' W' kv kn :=
  (IsG.keep h (ht.keeps fun k hk => hk)).mono fun k hk => ⟨Nat.lt_of_lt_of_le hk.1 ht.size, fun h2 => (hF k h2).elim hk.2 fun h3 => by omega⟩
theorem KnG.own {F : Nat → Prop} {W : World} {kv : Value} {kn : List Int} {B : Nat} (h : OwnI B W kv kn) (hl : kn.length ≤ 17592186044416) (hF : ∀ k, F k → k < B) : KnG F W kv kn := IsG.own h hl fun k h1 h2 => ⟨h2, fun h3 => by have := hF k h3; omega⟩
/-- What stands while what came is gone over. -/
structure OrdS (F : Nat → Prop) (w : World) (bb : Nat) (N : Nat) (H : List Ch) (gv : Value) (E : List (Ch × Value)) (O : List Ch) (kv : Value) (kn : List Int) (W : World) : Prop where
  buf : BufH F W (.pointer (some ⟨bb, 0, none⟩)) 256 H
  acc : AccH N gv E W
  eq : E.map Prod.fst = O
  kn : KnG F W kv kn
  bel : Below w.heap.size w W
theorem OrdS.below {F : Nat → Prop} {w : World} {bb N : Nat} {H : List Ch} {gv : Value} {E : List (Ch × Value)} {O : List Ch} {kv : Value} {kn : List Int} {W W' : World} (h : OrdS F w bb N H gv E O kv kn W) (hb : Below W.heap.size W W') : OrdS F w bb N H gv E O kv kn W' := ⟨h.buf.below hb, h.acc.below hb, h.eq, h.kn.below hb, h.bel.trans (hb.mono h.bel.size)⟩

set_option maxRecDepth 100000 in
set_option maxHeartbeats 8000000 in
theorem orderWalk (v : Value) (l : List Ch) (w : World) (h : IsH w v l) :
    Calls Try.prog 5 #[v] w fun e w' => e = .returned (.bool true) ∧ Below w.heap.size w w' := by
  have HH : Hid (IsH w v l) := h
  obtain ⟨a1, c1, e1⟩ := h.form
  subst e1
  clear h
  go_enter Try.func5, Try.ntmps5
  go_wp2_with fail
  refine (new_any 256 _).mono ?_
  rintro e w1 ⟨h, hb1⟩
  rcases h with ⟨h, _⟩ | ⟨_, bb, mb, rfl, hL, hF1, hF2⟩
  · omega
  obtain ⟨W2, eW2⟩ : ∃ X, X = w1.alloc (.cells #[] 3) := ⟨_, rfl⟩
  have hb2 : Below w1.heap.size w1 W2 := by rw [eW2]; exact (Below.refl _ _).alloc (Nat.le_refl _) _
  have HL1 : Hid (BufH (fun k => k = mb ∨ k = bb) W2 (.pointer (some ⟨bb, 0, none⟩)) 256 []) := BufH.below ⟨[], hL.v, List.Perm.refl _, List.Pairwise.nil⟩ hb2
  have HF1 : Hid (∀ k, (k = mb ∨ k = bb) → w.heap.size ≤ k) := fun k hk => by rcases hk with rfl | rfl <;> assumption
  have HB1 : Hid (Below w.heap.size w W2) := hb1.trans (hb2.mono hb1.size)
  have HK1 : Hid (KnG (fun k => k = mb ∨ k = bb) W2 (.slice (some ⟨w1.heap.size, 0, none⟩) 0 0) []) := ⟨_, 0, rfl, Nat.le_refl _, by simp, .inl rfl⟩
  have HC1 : Hid (OkC []) := ⟨by simp, fun x hx => by simp at hx⟩
  clear hL hb1 hF1 hF2 hb2
  go_wp2
  rw [← eW2]
  clear eW2
  go_loopw [5, 6] (fun kv iv wr => ∃ (i : Nat) (H : List Ch) (F : Nat → Prop) (kn : List Int), i ≤ l.length ∧ iv = .int .i64 (i : Int) ∧ Hid (BufH F wr (.pointer (some ⟨bb, 0, none⟩)) 256 H) ∧ H.length ≤ 256 ∧ Hid (∀ k, F k → w.heap.size ≤ k) ∧ Hid (Below w.heap.size w wr) ∧ Hid (KnG F wr kv kn) ∧ Hid (OkC kn)) (fun _ iv _ => l.length - (intOf iv).toNat)
  case atStart => exact ⟨0, [], _, [], Nat.zero_le _, rfl, HL1, by simp, HF1, HB1, HK1, HC1⟩
  case round =>
    obtain ⟨i, H, F, kn, hi, rfl, HL, hHl, HF, HB, HK, HC⟩ := hrel
    obtain ⟨ak, ck, ek⟩ := (IsG.isI HK.out).form
    subst ek
    by_cases hlt : i < l.length
    · obtain ⟨_, _, e, _, hll, hrow⟩ := HH.out
      cases e
      obtain ⟨b, o, rfl, hrow2⟩ := hrow.resolve_left (by intro e; subst e; simp at hlt)
      obtain ⟨a3, c3, hI3, hS3, k_0, k_1, k_2, k_3, k_4, k_5, k_6, k_7, k_8, k_9, k_10, k_11, k_12⟩ := ((hrow2 i hlt).below HB.out).all
      have HI3 : Hid (IsI wr (.slice a3 l[i].deps.length c3) l[i].deps) := hI3
      have HS3 : Hid (Sized l[i]) := hS3
      have i1 : (i : Int) < (l.length : Int) := by omega
      have i0 : (0 : Int) ≤ (i : Int) := by omega
      clear hI3 hS3 hrow hrow2
      generalize l[i] = x at *
      obtain ⟨ac, ar, sq, ds, kd, nc, nr, pc, pr, fc, fr, nm, vl⟩ := x
      simp only at k_0 k_1 k_2 k_3 k_4 k_5 k_6 k_7 k_8 k_9 k_10 k_11 k_12 HI3 HS3
      go_wp2_with fail
      clear k_0 k_1 k_2 k_3 k_4 k_5 k_6 k_7 k_8 k_9 k_10 k_11 k_12
      refine (take_any F _ 256 H ac ar sq (.slice a3 ds.length c3) kd nc nr pc pr fc fr nm vl ds _ kn _ HL.out (by omega) (IsG.isI HK.out) HI3.out HS3.out).mono ?_
      rintro e w3 ⟨v3, E3, F3, rfl, hA3, hE3, hL3, hF3, ht3⟩
      have hord := take_order (room := 256) (c := ⟨ac, ar, sq, ds, kd, nc, nr, pc, pr, fc, fr, nm, vl⟩) HC.out HL.out.ok.1 HL.out.ok.2
      have hHl3 : ((takeR 256 H kn ⟨ac, ar, sq, ds, kd, nc, nr, pc, pr, fc, fr, nm, vl⟩).1.length : Int) ≤ 256 := takeR_len (by omega)
      have hO4 : (takeR 256 H kn ⟨ac, ar, sq, ds, kd, nc, nr, pc, pr, fc, fr, nm, vl⟩).2.1.length ≤ 257 := Nat.le_trans takeR_out (by omega)
      have HF3 : Hid (∀ k, F3 k → w.heap.size ≤ k) := fun k hk => (hF3 k hk).elim (HF.out k) (fun h => Nat.le_trans HB.out.size h)
      have hB3 : Below w.heap.size w w3 := HB.out.trans (ht3.below HF.out HB.out.size)
      have hK3 : KnG F3 w3 (.slice ak kn.length ck) kn := HK.out.touch ht3 hF3
      obtain ⟨av, cv, ev⟩ := hA3.own.form
      subst ev
      have hO3 := hE3
      have hL3b := hL3
      generalize takeR 256 H kn ⟨ac, ar, sq, ds, kd, nc, nr, pc, pr, fc, fr, nm, vl⟩ = R at *
      obtain ⟨H3, O3, f3⟩ := R
      simp only at hord hHl3 hO4 hE3 hL3 ⊢
      have hlen : E3.length = O3.length := by have := congrArg List.length hE3; simpa using this
      rw [hlen] at hA3 ⊢
      have HS3' : Hid (OrdS F3 w bb wr.heap.size H3 (.slice av O3.length cv) E3 O3 (.slice ak kn.length ck) kn w3) := ⟨hL3, hA3, hE3, hK3, hB3⟩
      have HOr : Hid ((f3 ≠ 0 → O3 = []) ∧ Chain kn O3 ∧ (O3 ≠ [] → ∀ y ∈ H3, readyB (ticks kn O3) y = false)) := hord
      have HFl : Hid (∀ k, F3 k → k < w3.heap.size) := hL3.lt
      obtain ⟨N0, eN0⟩ : ∃ n, n = wr.heap.size := ⟨_, rfl⟩
      rw [← eN0] at HS3'
      clear hA3 hE3 hL3 hF3 ht3 hord hB3 hK3 hO3 hL3b hlen HL HB HK HI3 HS3 HF eN0
      by_cases hO0 : O3 = []
      · subst hO0
        have HE : Hid (OkC kn) := HC
        by_cases hf : f3 = 0
        · subst hf
          go_wp2
          refine wp_loop_rounds 1 ?_
          rw [rounds_succ]
          go_wp2
          go_roundw
          case rel => exact ⟨i + 1, H3, F3, kn, by omega, by go_num, HS3'.out.buf, by omega, HF3, HS3'.out.bel, HS3'.out.kn, HE⟩
          case measure => simp [intOf]; omega
        · have hf2 : (f3 == 0) = false := by simp [hf]
          go_wp2
          refine wp_loop_rounds 1 ?_
          rw [rounds_succ]
          go_wp2
          go_roundw
          case rel => exact ⟨i + 1, H3, F3, kn, by omega, by go_num, HS3'.out.buf, by omega, HF3, HS3'.out.bel, HS3'.out.kn, HE⟩
          case measure => simp [intOf]; omega
      · obtain rfl : f3 = 0 := Classical.byContradiction fun hf => hO0 (HOr.out.1 hf)
        have HCh : Hid (Chain kn O3) := HOr.out.2.1
        have HEnd : Hid (∀ y ∈ H3, readyB (ticks kn O3) y = false) := HOr.out.2.2 hO0
        have hpos : 0 < O3.length := by cases O3 with | nil => exact absurd rfl hO0 | cons x y => simp
        have hO5 : ((O3.length : Int) == 0) = false := by rw [beq_eq_false_iff_ne]; omega
        have HTk : Hid (ticks kn O3 = ticks kn O3) := rfl
        clear HOr hO0 HC
        go_wp2
        go_loopw [5, 9] (fun kv iv wr => ∃ (k : Nat) (kn2 : List Int), k ≤ O3.length ∧ iv = .int .i64 (k : Int) ∧ Hid (OrdS F3 w bb N0 H3 (.slice av O3.length cv) E3 O3 kv kn2 wr) ∧ Hid (Chain kn2 (O3.drop k)) ∧ Hid (ticks kn2 (O3.drop k) = ticks kn O3) ∧ Hid (w3.heap.size ≤ wr.heap.size)) (fun _ iv _ => O3.length - (intOf iv).toNat)
        case atStart => exact ⟨0, kn, Nat.zero_le _, rfl, HS3', HCh, (rfl : ticks kn (O3.drop 0) = _), Nat.le_refl _⟩
        case round =>
          obtain ⟨k, kn2, hk, rfl, HS, HChr, HTr, HZr⟩ := hrel
          obtain ⟨ak2, ck2, ek2⟩ := (IsG.isI HS.out.kn).form
          subst ek2
          by_cases hlt2 : k < O3.length
          · have hEO : E3.length = O3.length := by have := congrArg List.length HS.out.eq; simpa using this
            obtain ⟨g, cap, ev, hcl⟩ := OwnH.at HS.out.acc.own (i := k) (by omega)
            simp only [Value.slice.injEq] at ev
            obtain ⟨rfl, hev, rfl⟩ := ev
            have hdep := HS.out.acc.dep E3[k] (List.getElem_mem (by omega))
            have hx : O3[k] = E3[k].1 := by simp [← HS.out.eq]
            have hdr : O3.drop k = E3[k].1 :: O3.drop (k + 1) := by rw [List.drop_eq_getElem_cons hlt2, hx]
            have hch := HChr.out
            have htr := HTr.out
            rw [hdr] at hch htr
            obtain ⟨a5, c5, e5⟩ := hdep.1.form
            have HRow : Hid (∀ W, Below wr.heap.size wr W → ∀ j u, (chCells E3[k].1 E3[k].2)[j]? = some u → W.cell? ⟨g, k * 13 + j, none⟩ = some u) := fun W hb j u hj => (hb.cell (p := ⟨g, k * 13 + j, none⟩) (cell_lt (hcl j u hj))).trans (hcl j u hj)
            have HDx : Hid (OwnI N0 wr E3[k].2 E3[k].1.deps ∧ Sized E3[k].1 ∧ E3[k].1.deps.length ≤ 17592186044416) := hdep
            have HCx : Hid (OkC kn2 ∧ isReadyB kn2 E3[k].1 = true ∧ Chain (tickR kn2 E3[k].1.ar) (O3.drop (k + 1))) := hch
            have HTx : Hid (ticks (tickR kn2 E3[k].1.ar) (O3.drop (k + 1)) = ticks kn O3) := htr
            have i1 : (k : Int) < (O3.length : Int) := by omega
            have i0 : (0 : Int) ≤ (k : Int) := by omega
            clear hcl hdep hx hdr hch htr HChr HTr hev
            generalize E3[k] = x at *
            obtain ⟨⟨ac2, ar2, sq2, ds2, kd2, nc2, nr2, pc2, pr2, fc2, fr2, nm2, vl2⟩, dv2⟩ := x
            simp only at e5
            subst e5
            obtain ⟨k_0, k_1, k_2, k_3, k_4, k_5, k_6, k_7, k_8, k_9, k_10, k_11, k_12⟩ := chAll (HRow.out wr (Below.refl _ _))
            clear hEO
            simp only at k_0 k_1 k_2 k_3 k_4 k_5 k_6 k_7 k_8 k_9 k_10 k_11 k_12
            go_wp2_with fail
            clear k_0 k_1 k_2 k_3 k_4 k_5 k_6 k_7 k_8 k_9 k_10 k_11 k_12
            refine (refReady_any ac2 ar2 sq2 (.slice a5 ds2.length c5) kd2 nc2 nr2 pc2 pr2 fc2 fr2 nm2 vl2 ds2 _ kn2 _ (IsG.isI HS.out.kn) (OwnI.isI HDx.out.1 HDx.out.2.2) HDx.out.2.1.1).mono ?_
            rintro e w4 ⟨rfl, hb4⟩
            rw [show isReadyB kn2 (⟨ac2, ar2, sq2, ds2, kd2, nc2, nr2, pc2, pr2, fc2, fr2, nm2, vl2⟩ : Ch) = true from HCx.out.2.1]
            have HS4 : Hid (OrdS F3 w bb N0 H3 (.slice (some ⟨g, 0, none⟩) O3.length cv) E3 O3 (.slice ak2 kn2.length ck2) kn2 w4) := HS.out.below hb4
            obtain ⟨k_0, k_1, k_2, k_3, k_4, k_5, k_6, k_7, k_8, k_9, k_10, k_11, k_12⟩ := chAll (HRow.out w4 hb4)
            simp only at k_0 k_1 k_2 k_3 k_4 k_5 k_6 k_7 k_8 k_9 k_10 k_11 k_12
            have HZ4 : Hid (w3.heap.size ≤ w4.heap.size) := Nat.le_trans HZr.out hb4.size
            clear hb4 HS
            go_wp2_with fail
            clear k_0 k_1 k_2 k_3 k_4 k_5 k_6 k_7 k_8 k_9 k_10 k_11 k_12
            refine (refTick_any _ kn2 ar2 _ (IsG.isI HS4.out.kn)).mono ?_
            rintro e w5 ⟨v5, rfl, ho5, hb5⟩
            obtain ⟨a6, c6, e6⟩ := ho5.form
            subst e6
            have hS5 := HS4.out.below hb5
            have HS5 : Hid (OrdS F3 w bb N0 H3 (.slice (some ⟨g, 0, none⟩) O3.length cv) E3 O3 (.slice a6 (tickR kn2 ar2).length c6) (tickR kn2 ar2) w5) := ⟨hS5.buf, hS5.acc, hS5.eq, KnG.own ho5 (Nat.le_trans (tickR_len kn2 ar2) (by decide)) (fun k hk => Nat.lt_of_lt_of_le (HFl.out k hk) HZ4.out), hS5.bel⟩
            have HZ5 : Hid (w3.heap.size ≤ w5.heap.size) := Nat.le_trans HZ4.out hb5.size
            have HC5 : Hid (Chain (tickR kn2 ar2) (O3.drop (k + 1))) := HCx.out.2.2
            have HT5 : Hid (ticks (tickR kn2 ar2) (O3.drop (k + 1)) = ticks kn O3) := HTx.out
            clear ho5 hb5 hS5 HS4 HZ4 HCx HTx HDx HRow
            go_wp2
            go_roundw
            case rel => exact ⟨k + 1, _, by omega, by go_num, HS5, HC5, HT5, HZ5⟩
            case measure => simp [intOf]; omega
          · have hd0 : O3.drop k = [] := List.drop_eq_nil_of_le (by omega)
            have hc2 : OkC kn2 := HChr.out.ok
            have ht2 : kn2 = ticks kn O3 := by have := HTr.out; rw [hd0] at this; exact this
            have HC2 : Hid (OkC kn2) := hc2
            have HE2 : Hid (∀ y ∈ H3, readyB kn2 y = false) := by rw [ht2]; exact HEnd.out
            clear HChr HTr hc2 ht2 hd0
            go_wp2_with fail
            refine (heldH_any F3 _ 256 H3 _ HS.out.buf (by omega)).mono ?_
            rintro e w6 ⟨a7, c7, E7, rfl, hA7, hE7, hb7⟩
            have hS7 := HS.out.below hb7
            have HA7 : Hid (AccH wr.heap.size (.slice a7 H3.length c7) E7 w6 ∧ E7.map Prod.fst = H3) := ⟨hA7, hE7⟩
            have HS7 : Hid (OrdS F3 w bb N0 H3 (.slice av O3.length cv) E3 O3 (.slice ak2 kn2.length ck2) kn2 w6) := hS7
            obtain ⟨N7, eN7⟩ : ∃ n, n = wr.heap.size := ⟨_, rfl⟩
            rw [← eN7] at HA7
            clear hA7 hE7 hb7 hS7 HS eN7
            go_wp2
            go_loopw [11] (fun iv wr => ∃ (j : Nat), j ≤ H3.length ∧ iv = .int .i64 (j : Int) ∧ Hid (OrdS F3 w bb N0 H3 (.slice av O3.length cv) E3 O3 (.slice ak2 kn2.length ck2) kn2 wr) ∧ Hid (AccH N7 (.slice a7 H3.length c7) E7 wr ∧ E7.map Prod.fst = H3)) (fun iv _ => H3.length - (intOf iv).toNat)
            case atStart => exact ⟨0, Nat.zero_le _, rfl, HS7, HA7⟩
            case round =>
              obtain ⟨j, hj, rfl, HS, HA⟩ := hrel
              by_cases hlt3 : j < H3.length
              · have hEO : E7.length = H3.length := by have := congrArg List.length HA.out.2; simpa using this
                obtain ⟨g, cap, ev, hcl⟩ := OwnH.at HA.out.1.own (i := j) (by omega)
                simp only [Value.slice.injEq] at ev
                obtain ⟨rfl, hev, rfl⟩ := ev
                have hdep := HA.out.1.dep E7[j] (List.getElem_mem (by omega))
                have hm : E7[j].1 ∈ H3 := by
                  have h1 : E7[j].1 ∈ E7.map Prod.fst := List.mem_map_of_mem (List.getElem_mem (by omega))
                  rw [HA.out.2] at h1
                  exact h1
                have HNr : Hid (isReadyB kn2 E7[j].1 = false) := by
                  show _ = _
                  unfold isReadyB
                  rw [HE2.out _ hm]
                  simp
                obtain ⟨a5, c5, e5⟩ := hdep.1.form
                have HDx : Hid (OwnI N7 wr E7[j].2 E7[j].1.deps ∧ Sized E7[j].1 ∧ E7[j].1.deps.length ≤ 17592186044416) := hdep
                have i1 : (j : Int) < (H3.length : Int) := by omega
                have i0 : (0 : Int) ≤ (j : Int) := by omega
                obtain ⟨k_0, k_1, k_2, k_3, k_4, k_5, k_6, k_7, k_8, k_9, k_10, k_11, k_12⟩ := chAll hcl
                clear hcl hdep hm hev
                generalize E7[j] = x at *
                obtain ⟨⟨ac2, ar2, sq2, ds2, kd2, nc2, nr2, pc2, pr2, fc2, fr2, nm2, vl2⟩, dv2⟩ := x
                simp only at e5
                subst e5
                clear hEO
                simp only at k_0 k_1 k_2 k_3 k_4 k_5 k_6 k_7 k_8 k_9 k_10 k_11 k_12
                go_wp2_with fail
                clear k_0 k_1 k_2 k_3 k_4 k_5 k_6 k_7 k_8 k_9 k_10 k_11 k_12
                refine (refReady_any ac2 ar2 sq2 (.slice a5 ds2.length c5) kd2 nc2 nr2 pc2 pr2 fc2 fr2 nm2 vl2 ds2 _ kn2 _ (IsG.isI HS.out.kn) (OwnI.isI HDx.out.1 HDx.out.2.2) HDx.out.2.1.1).mono ?_
                rintro e w8 ⟨rfl, hb8⟩
                rw [show isReadyB kn2 (⟨ac2, ar2, sq2, ds2, kd2, nc2, nr2, pc2, pr2, fc2, fr2, nm2, vl2⟩ : Ch) = false from HNr.out]
                have HS8 : Hid (OrdS F3 w bb N0 H3 (.slice av O3.length cv) E3 O3 (.slice ak2 kn2.length ck2) kn2 w8) := HS.out.below hb8
                have HA8 : Hid (AccH N7 (.slice (some ⟨g, 0, none⟩) H3.length c7) E7 w8 ∧ E7.map Prod.fst = H3) := ⟨HA.out.1.below hb8, HA.out.2⟩
                clear hb8 HS HA HDx HNr
                go_wp2
                go_roundw
                case rel => exact ⟨j + 1, by omega, by go_num, HS8, HA8⟩
                case measure => simp [intOf]; omega
              · go_wp2
                go_roundw
                case rel => exact ⟨i + 1, H3, F3, kn2, by omega, by go_num, HS.out.buf, by omega, HF3, HS.out.bel, HS.out.kn, HC2⟩
                case measure => simp [intOf]; omega
    · go_wp2_with fail
      refine (awake_any _).mono ?_
      rintro e w2 ⟨rfl, hb2⟩
      have HB2 : Hid (Below w.heap.size w w2) := HB.out.trans (hb2.mono HB.out.size)
      clear hb2
      go_wp2
      go_ret
      exact ⟨rfl, HB2.out⟩

end Go.Proofs.Ytkppjlnhdmbaiaa
