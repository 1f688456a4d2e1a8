/- The walk of WireReads. -/
import Derived.Test.YtlioiblpcpaejaaGreatXM
import Derived.Test.YtlioiblpcpaejaaGreatXWrK
import Derived.Test.YtlioiblpcpaejaaGreatXWdI
namespace Go.Proofs.YtlioiblpcpaejaaGreat
open Go.RowKit
set_option linter.unusedVariables false
set_option linter.unusedSimpArgs false

theorem OwnB.someF {B : Nat} {w : World} {v : Value} {D : List UInt8} (h : OwnB B w v D) (hd : D ≠ []) : ∃ g cap, v = .slice (some ⟨g, 0, none⟩) D.length cap ∧ B ≤ g := by
  rcases h.2 with ⟨rfl, hn⟩ | ⟨g, cap, cur, rfl, hg, _⟩
  · exact absurd (List.eq_nil_of_length_eq_zero hn) hd
  · exact ⟨g, cap, rfl, hg⟩
theorem OwnB.writeN {B : Nat} {w : World} {g cap n : Nat} {D : List UInt8} (h : OwnB B w (.slice (some ⟨g, 0, none⟩) n cap) D) (hn : n = D.length) (j : Nat) (c : UInt8) :
    OwnB B (w.setCell ⟨g, j, none⟩ (.int .u8 (c.toNat : Int))) (.slice (some ⟨g, 0, none⟩) n cap) (D.set j c) ∧ w.grownBy (w.setCell ⟨g, j, none⟩ (.int .u8 (c.toNat : Int))) (some g) := by
  subst hn; exact h.write j c
theorem flip_eqR (c : UInt8) : (255 : Int) - (c.toNat : Int) = ((UInt8.ofNat (255 - c.toNat)).toNat : Int) := by
  have := UInt8.toNat_lt c
  rw [UInt8.toNat_ofNat', Nat.mod_eq_of_lt (by omega)]
  omega
/-- Where one world has what another has, from a block on. -/
def AG (N : Nat) (A W : World) : Prop := A.heap.size ≤ W.heap.size ∧ ∀ j, N ≤ j → j < A.heap.size → W.heap[j]? = A.heap[j]?
theorem AG.below {N : Nat} {A W W' : World} (h : AG N A W) (hb : Below W.heap.size W W') : AG N A W' := ⟨Nat.le_trans h.1 hb.size, fun j h1 h2 => (hb.block j (by have := h.1; omega)).trans (h.2 j h1 h2)⟩
theorem AG.grown {N : Nat} {A W W' : World} {g : Nat} (h : AG N A W) (hg : W.grownBy W' (some g)) (hN : g < N) : AG N A W' := ⟨Nat.le_trans h.1 hg.size, fun j h1 h2 => (hg.block j (by have := h.1; omega) (fun e => by injection e with e; omega)).trans (h.2 j h1 h2)⟩

set_option maxRecDepth 100000 in
set_option maxHeartbeats 8000000 in
theorem wireReads_walk (v : Value) (p : List UInt8) (w : World) (h1 : IsB w v p) (hl : p.length ≤ 140737488351232) :
    Calls Tryz.prog 3 #[v] w fun e w' => e = .returned (.bool true) ∧ Below w.heap.size w w' := by
  obtain ⟨av, cap, ev⟩ := h1.form
  subst ev
  have H1 : Hid (IsB w (.slice av p.length cap) p) := h1
  obtain ⟨⟨⟨kd, fm, cl, mo, L⟩, ee⟩, eR⟩ : ∃ r, readF p = r := ⟨_, rfl⟩
  have G1 : Hid (∀ v W, IsB W v p → Calls Tryz.prog 4 #[v] W fun e w' => GotFrK ⟨kd, fm, cl, mo, L⟩ ee W e w') := fun v W hW => by
    have := readK_any v p W hW
    rw [eR] at this
    exact this
  have G2 : Hid (∀ W, IsB W (.slice av p.length cap) p → Calls Tryz.prog 5 #[.slice av p.length cap] W fun e w' => GotFrK ⟨kd, fm, cl, mo, L⟩ ee W e w') := fun W hW => by
    have := refRead_any _ p W hW
    rw [eR] at this
    exact this
  have qe : (ee == ee) = true := by simp
  clear h1 eR
  go_enter Tryz.func3, Tryz.ntmps3
  go_wp2_with (at_builtin; refine wpList_copyE rfl _ _ rfl _ p rfl rfl H1.out (by omega) ?_; intro v1 w1 ho1 hb1; obtain ⟨a1, c1, rfl⟩ := ho1.form; have HO1 : Hid (OwnB w.heap.size w1 (.slice a1 p.length c1) p) := ho1; have HB1 : Hid (Below w.heap.size w w1) := hb1; clear ho1 hb1)
  have hgk : Hid (∀ j, (Value.slice a1 p.length c1).ownBlock = some j → j < w1.heap.size) := fun j e => (World.ownsRow.lt HO1.out j e).2
  refine (G1.out _ _ (HO1.out.isB (by omega))).mono ?_
  rintro e w2 ⟨a3, c3, a4, c4, rfl, hk2, hb2⟩
  have K2 : Hid (∀ W', AG w1.heap.size w2 W' → IsI W' (.slice a3 cl.length c3) cl ∧ IsH W' (.slice a4 L.length c4) L) := fun W' h => hk2 W' h.2
  have HO2 : Hid (OwnB w.heap.size w2 (.slice a1 p.length c1) p) := HO1.out.below hb2
  have HB2 : Hid (Below w.heap.size w w2) := HB1.out.trans (hb2.mono HB1.out.size)
  have hs2 := hb2.size
  clear hk2 hb2 HO1 HB1 G1
  simp only
  go_upto_region 3 with fail
  obtain ⟨W3, eW⟩ : ∃ X, X = w2.alloc (.cells #[.int .i64 kd, .int .i64 fm, .slice a3 cl.length c3, .bool mo, .slice a4 L.length c4] 26) := ⟨_, rfl⟩
  have BA : Hid (Below w2.heap.size w2 W3) := by rw [eW]; exact (Below.refl _ _).alloc (Nat.le_refl _) _
  have R3 : Hid (W3.heap[w2.heap.size]? = some (.cells #[.int .i64 kd, .int .i64 fm, .slice a3 cl.length c3, .bool mo, .slice a4 L.length c4] 26)) := by rw [eW]; exact heap_alloc_new _ _
  rw [← eW]
  have A3 : Hid (AG w1.heap.size w2 W3) := AG.below ⟨Nat.le_refl _, fun _ _ _ => rfl⟩ BA.out
  have HO3 : Hid (OwnB w.heap.size W3 (.slice a1 p.length c1) p) := HO2.out.below BA.out
  have HB3 : Hid (Below w.heap.size w W3) := HB2.out.trans (BA.out.mono HB2.out.size)
  have hs3 := row_lt R3.out
  clear eW BA HO2 HB2
  go_wp2_with fail
  refine (G2.out _ (H1.out.below HB3.out)).mono ?_
  rintro e w4 ⟨a5, c5, a6, c6, rfl, hk4, hb4⟩
  have K4 : Hid (∀ W', AG W3.heap.size w4 W' → IsI W' (.slice a5 cl.length c5) cl ∧ IsH W' (.slice a6 L.length c6) L) := fun W' h => hk4 W' h.2
  have A4 : Hid (AG w1.heap.size w2 w4) := A3.out.below hb4
  have R4 : Hid (w4.heap[w2.heap.size]? = some (.cells #[.int .i64 kd, .int .i64 fm, .slice a3 cl.length c3, .bool mo, .slice a4 L.length c4] 26)) := row_below R3.out hb4
  have HO4 : Hid (OwnB w.heap.size w4 (.slice a1 p.length c1) p) := HO3.out.below hb4
  have HB4 : Hid (Below w.heap.size w w4) := HB3.out.trans (hb4.mono HB3.out.size)
  have hs4 := hb4.size
  clear hk4 hb4 A3 R3 HO3 HB3 G2
  simp only
  go_upto_region 4 with fail
  obtain ⟨W5, eW⟩ : ∃ X, X = w4.alloc (.cells #[.int .i64 kd, .int .i64 fm, .slice a5 cl.length c5, .bool mo, .slice a6 L.length c6] 26) := ⟨_, rfl⟩
  have BA : Hid (Below w4.heap.size w4 W5) := by rw [eW]; exact (Below.refl _ _).alloc (Nat.le_refl _) _
  have S5 : Hid (W5.heap[w4.heap.size]? = some (.cells #[.int .i64 kd, .int .i64 fm, .slice a5 cl.length c5, .bool mo, .slice a6 L.length c6] 26)) := by rw [eW]; exact heap_alloc_new _ _
  rw [← eW]
  have HW5 : Hid (AG w1.heap.size w2 W5 ∧ AG W3.heap.size w4 W5 ∧ W5.heap[w2.heap.size]? = some (.cells #[.int .i64 kd, .int .i64 fm, .slice a3 cl.length c3, .bool mo, .slice a4 L.length c4] 26) ∧ W5.heap[w4.heap.size]? = some (.cells #[.int .i64 kd, .int .i64 fm, .slice a5 cl.length c5, .bool mo, .slice a6 L.length c6] 26) ∧ Below w.heap.size w W5) := ⟨A4.out.below BA.out, AG.below ⟨Nat.le_refl _, fun _ _ _ => rfl⟩ BA.out, row_below R4.out BA.out, S5.out, HB4.out.trans (BA.out.mono HB4.out.size)⟩
  have HO5 : Hid (OwnB w.heap.size W5 (.slice a1 p.length c1) p) := HO4.out.below BA.out
  clear eW BA A4 R4 HO4 HB4 S5
  have hN : Hid (w1.heap.size ≤ w2.heap.size ∧ w1.heap.size ≤ W3.heap.size ∧ w1.heap.size ≤ w4.heap.size) := ⟨hs2, by omega, by omega⟩
  clear hs2 hs3 hs4
  generalize w1.heap.size = N1 at *
  generalize hg4 : w2.heap.size = g4 at *
  generalize W3.heap.size = N3 at *
  generalize hg6 : w4.heap.size = g6 at *
  clear hg4 hg6
  go_wp2
  go_loopw [8] (fun i wr => ∃ (k : Nat) (Q : List UInt8), k ≤ p.length ∧ i = .int .i64 (k : Int) ∧ Hid (Q.length = p.length) ∧ Hid (OwnB w.heap.size wr (.slice a1 p.length c1) Q) ∧ Hid (AG N1 w2 wr ∧ AG N3 w4 wr ∧ wr.heap[g4]? = some (.cells #[.int .i64 kd, .int .i64 fm, .slice a3 cl.length c3, .bool mo, .slice a4 L.length c4] 26) ∧ wr.heap[g6]? = some (.cells #[.int .i64 kd, .int .i64 fm, .slice a5 cl.length c5, .bool mo, .slice a6 L.length c6] 26) ∧ Below w.heap.size w wr)) (fun i _ => p.length - (intOf i).toNat)
  case atStart => exact ⟨0, p, Nat.zero_le _, rfl, rfl, HO5, HW5⟩
  case round =>
    obtain ⟨k, Q, hk, rfl, HQL, HO, HW⟩ := hrel
    by_cases hlt : k < p.length
    · have HQN : Hid (Q ≠ []) := by intro e; have := HQL.out; rw [e] at this; simp at this; omega
      obtain ⟨g, cap, hv, hg⟩ := HO.out.someF HQN.out
      injection hv with e1 e2 e3
      subst e1
      have hgN := hgk.out g rfl
      have hkq : k < Q.length := by rw [HQL.out]; exact hlt
      obtain ⟨x1, x2⟩ := HO.out.cell HQL.out.symm hkq
      have hfl := flip_eqR Q[k]
      obtain ⟨o2, g2⟩ := HO.out.writeN HQL.out.symm k (UInt8.ofNat (255 - Q[k].toNat))
      have hc := UInt8.toNat_lt Q[k]
      generalize UInt8.ofNat (255 - Q[k].toNat) = z at *
      generalize Q[k].toNat = c at *
      have HO4 : Hid (OwnB w.heap.size (wr.setCell ⟨g, k, none⟩ (.int .u8 (z.toNat : Int))) (.slice (some ⟨g, 0, none⟩) p.length c1) (Q.set k z)) := o2
      have HQ4 : Hid ((Q.set k z).length = p.length) := by show _ = _; rw [List.length_set]; exact HQL.out
      have HW4 : Hid (AG N1 w2 (wr.setCell ⟨g, k, none⟩ (.int .u8 (z.toNat : Int))) ∧ AG N3 w4 (wr.setCell ⟨g, k, none⟩ (.int .u8 (z.toNat : Int))) ∧ (wr.setCell ⟨g, k, none⟩ (.int .u8 (z.toNat : Int))).heap[g4]? = some (.cells #[.int .i64 kd, .int .i64 fm, .slice a3 cl.length c3, .bool mo, .slice a4 L.length c4] 26) ∧ (wr.setCell ⟨g, k, none⟩ (.int .u8 (z.toNat : Int))).heap[g6]? = some (.cells #[.int .i64 kd, .int .i64 fm, .slice a5 cl.length c5, .bool mo, .slice a6 L.length c6] 26) ∧ Below w.heap.size w (wr.setCell ⟨g, k, none⟩ (.int .u8 (z.toNat : Int)))) := by
        have hn := hN.out
        exact ⟨HW.out.1.grown g2 hgN, HW.out.2.1.grown g2 (by omega), row_grown HW.out.2.2.1 g2 (fun e => by injection e with e; omega), row_grown HW.out.2.2.2.1 g2 (fun e => by injection e with e; omega), HW.out.2.2.2.2.trans (grownBy.toBelow g2 HW.out.2.2.2.2.size (fun j e => by injection e with e; omega))⟩
      have k1 : (k : Int) < (p.length : Int) := by omega
      have k0 : (0 : Int) ≤ (k : Int) := by omega
      clear o2 g2 e2 e3 HW HO
      go_wp2
      go_roundw
      case rel => exact ⟨k + 1, Q.set k z, by omega, by go_num, HQ4, HO4, HW4⟩
      case measure => simp [intOf]; omega
    · obtain rfl : k = p.length := by omega
      obtain ⟨I1, I2⟩ := K2.out _ HW.out.1
      obtain ⟨J1, J2⟩ := K4.out _ HW.out.2.1
      have HI : Hid (IsI wr (.slice a3 cl.length c3) cl ∧ IsH wr (.slice a4 L.length c4) L ∧ IsI wr (.slice a5 cl.length c5) cl ∧ IsH wr (.slice a6 L.length c6) L) := ⟨I1, I2, J1, J2⟩
      clear I1 I2 J1 J2 K2 K4
      go_upto_region 8 with fail
      go_step
      refine wpList_load_row rfl 26 (.tmp 4) rfl g4 _ _ _ rfl HW.out.2.2.1 Tryz.underlying26 rfl sizeFrame ?_
      (try simp only [Act.put, List.setIfInBounds_toArray, List.set_cons_zero, List.set_cons_succ])
      refine wpList_load_row rfl 26 (.tmp 6) rfl g6 _ _ _ rfl HW.out.2.2.2.1 Tryz.underlying26 rfl sizeFrame ?_
      (try simp only [Act.put, List.setIfInBounds_toArray, List.set_cons_zero, List.set_cons_succ])
      go_wp2_with fail
      refine (sameFr_eq kd fm a3 cl c3 mo a4 L c4 a5 c5 a6 c6 _ HI.out.1 HI.out.2.1 HI.out.2.2.1 HI.out.2.2.2).mono ?_
      rintro e w6 ⟨rfl, hb6⟩
      have B6 : Hid (Below w.heap.size w w6) := HW.out.2.2.2.2.trans (hb6.mono HW.out.2.2.2.2.size)
      clear hb6 HW HO HI
      go_wp2_with fail
      refine (wawake_any _).mono ?_
      rintro e w7 ⟨rfl, hb7⟩
      have B7 : Hid (Below w.heap.size w w7) := B6.out.trans (hb7.mono B6.out.size)
      clear hb7 B6
      go_wp2
      go_ret
      exact ⟨rfl, B7.out⟩

end Go.Proofs.YtlioiblpcpaejaaGreat
