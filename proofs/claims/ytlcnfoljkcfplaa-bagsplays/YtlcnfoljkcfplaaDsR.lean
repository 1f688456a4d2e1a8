/- The document's Ways. -/
import Derived.Test.YtlcnfoljkcfplaaDsQ
import Derived.Lib.SmallJoins
namespace Go.Proofs.Ytlcnfoljkcfplaa
open Go.RowKit
set_option linter.unusedVariables false
set_option linter.unusedSimpArgs false

theorem Rel.wt {n : Nat} {B : Nat → List Pc} {L : List Sn} (h : Rel n B L) {f t : Nat} (hf : f < n) (ht : t < n) : waitL L (f : Int) (t : Int) = wt n B f t := by
  unfold Go.Proofs.Ytlcnfoljkcfplaa.wt
  by_cases e : f = t
  · rw [if_pos e]
    show (linkL L (f : Int) (t : Int)).length = 0
    rw [List.length_eq_zero_iff]
    unfold linkL
    refine List.filter_eq_nil_iff.2 fun s hs q => ?_
    have h1 := (onL_iff _ _ _).1 q
    have h2 := linkE_ok (h.on s hs)
    have h3 := h2.2.2
    rw [h1.1, h1.2] at h3
    exact h3 (by rw [e])
  · rw [if_neg e]
    have hl : linkE n (f : Int) (t : Int) = 0 := by
      unfold linkE
      rw [if_pos ⟨⟨by omega, by omega⟩, by omega, by omega⟩, if_neg (by omega)]
    rw [← h.len hl]
    unfold plc
    simp
theorem OwnV.le {b b' : Nat} {w : World} {v : Value} {D : List (Nat × Nat × Nat)} (h : OwnV b w v D) (hb : b' ≤ b) : OwnV b' w v D := Go.Joins.ownsRow_le h hb
/-- The net as the document's Ways has it in its box. -/
structure WyX (m xb n : Nat) (v : Value) (L : List Sn) (W1 : World) : Prop where
  row : W1.heap[xb]? = some (.cells #[.int .i64 (n : Int), v] 30)
  is : IsS W1 v L
  sz : m = W1.heap.size
theorem WyX.cells {m xb n : Nat} {v : Value} {L : List Sn} {W1 W : World} (h : WyX m xb n v L W1) (hb : Below m W1 W) : W.cell? ⟨xb, 0, none⟩ = some (.int .i64 (n : Int)) ∧ W.cell? ⟨xb, 1, none⟩ = some v := by
  have h1 : W.heap[xb]? = some (.cells #[.int .i64 (n : Int), v] 30) := (hb.block _ (by rw [h.sz]; exact row_lt h.row)).trans h.row
  exact ⟨by rw [cell_of_row _ _ _ _ _ _ h1]; rfl, by rw [cell_of_row _ _ _ _ _ _ h1]; rfl⟩
theorem WyX.doc {m xb n : Nat} {v : Value} {L : List Sn} {W1 W : World} (h : WyX m xb n v L W1) (hb : Below m W1 W) : IsS W v L := h.is.below (by rw [← h.sz]; exact hb)

set_option maxRecDepth 100000 in
set_option maxHeartbeats 4000000 in
theorem refWays_any (n : Nat) (v : Value) (L : List Sn) (B : Nat → List Pc) (w : World) (h : IsS w v L) (hr : Rel n B L) (hn64 : n ≤ 64) :
    Calls Try.prog 26 #[.agg #[.int .i64 (n : Int), v]] w fun e w' => ∃ v, e = .returned v ∧ OwnV w.heap.size w' v (wall n B n) ∧ Below w.heap.size w w' := by
  obtain ⟨i0, hin, hz0, hz1, hz2⟩ := info_parts infoWay
  obtain ⟨a1, c1, e1⟩ := h.form
  subst e1
  have hnn : n * n ≤ 4096 := Nat.mul_le_mul hn64 hn64
  have HNN : Hid (n * n ≤ 4096) := hnn
  have HR : Hid (Rel n B L) := hr
  obtain ⟨W1, eW⟩ : ∃ X, X = w.alloc (.cells #[.int .i64 (n : Int), .slice a1 L.length c1] 30) := ⟨_, rfl⟩
  have hb : Below w.heap.size w W1 := by rw [eW]; exact (Below.refl _ _).alloc (Nat.le_refl _) _
  obtain ⟨m, rfl⟩ : ∃ x, x = W1.heap.size := ⟨_, rfl⟩
  have em2 : W1.heap.size = w.heap.size + 1 := by rw [eW]; exact Array.size_push _
  have HX : Hid (WyX W1.heap.size w.heap.size n (.slice a1 L.length c1) L W1) := ⟨by rw [eW]; exact heap_alloc_new _ _, h.below hb, rfl⟩
  have Hm : Hid (Below w.heap.size w W1 ∧ w.heap.size ≤ W1.heap.size) := ⟨hb, by omega⟩
  obtain ⟨W2, eW2⟩ : ∃ X, X = W1.alloc (.cells #[] 71) := ⟨_, rfl⟩
  have HO0 : Hid (OwnV W1.heap.size W2 (.slice (some ⟨W1.heap.size, 0, none⟩) 0 0) (wall n B 0)) := (by rw [eW2]; exact World.ownsRow_lit W1 #[] 0 (Nat.le_refl _) (by decide) rfl)
  have HB0 : Hid (Below W1.heap.size W1 W2) := (by rw [eW2]; exact (Below.refl _ _).alloc (Nat.le_refl _) _)
  have HE := hide9 (And.intro eW (And.intro eW2 em2))
  clear h hb hr hnn eW em2 eW2
  go_enter Try.func26, Try.ntmps26
  go_wp2
  rw [← HE.out.1, ← HE.out.2.1, ← HE.out.2.2]
  clear HE
  go_loopw [3, 4] (fun ov iv wr => ∃ (k : Nat) (a : Option Addr) (c : Nat), k ≤ n ∧ iv = .int .i64 (k : Int) ∧ ov = .slice a (wall n B k).length c ∧ Hid (OwnV W1.heap.size wr (.slice a (wall n B k).length c) (wall n B k)) ∧ Hid (Below W1.heap.size W1 wr)) (fun _ iv _ => n - (intOf iv).toNat)
  case atStart => exact ⟨0, _, _, Nat.zero_le _, rfl, rfl, HO0, HB0⟩
  case round =>
    obtain ⟨k, a, c, hk, rfl, rfl, HO, HB⟩ := hrel
    by_cases hlt : k < n
    · have k1 : (k : Int) < (n : Int) := by omega
      obtain ⟨x_0, x_1⟩ := HX.out.cells HB.out
      go_wp2
      clear x_0 x_1
      go_loopw [3, 5] (fun ov iv wr => ∃ (j : Nat) (a : Option Addr) (c : Nat), j ≤ n ∧ iv = .int .i64 (j : Int) ∧ ov = .slice a (wall n B k ++ wrow n B k j).length c ∧ Hid (OwnV W1.heap.size wr (.slice a (wall n B k ++ wrow n B k j).length c) (wall n B k ++ wrow n B k j)) ∧ Hid (Below W1.heap.size W1 wr)) (fun _ iv _ => n - (intOf iv).toNat)
      case atStart =>
        have e : wall n B k ++ wrow n B k 0 = wall n B k := by simp [wrow]
        exact ⟨0, a, c, Nat.zero_le _, rfl, by rw [e], by rw [e]; exact HO, HB⟩
      case round =>
        obtain ⟨j, a2, c2, hj, rfl, rfl, HO2, HB2⟩ := hrel
        by_cases hlt2 : j < n
        · have j1 : (j : Int) < (n : Int) := by omega
          have HS : Hid (wall n B k ++ wrow n B k (j + 1) = (wall n B k ++ wrow n B k j) ++ (wone n B k j).toList) := by show _ = _; rw [wrow_succ, List.append_assoc]
          have HD : Hid ((wall n B k ++ wrow n B k j).length ≤ 8192) := by
            show _ ≤ _
            rw [List.length_append]
            have h1 := wall_len n B k
            have h2 := wrow_len n B k j
            have h3 : k * n ≤ n * n := Nat.mul_le_mul_right n hk
            have h4 := HNN.out
            omega
          obtain ⟨x_0, x_1⟩ := HX.out.cells HB2.out
          go_wp2_with fail
          clear x_0 x_1
          refine (refWaiting_any (n : Int) _ L _ _ _ (HX.out.doc HB2.out)).mono ?_
          rintro e w3 ⟨rfl, hw⟩
          rw [HR.out.wt hlt hlt2]
          have HB3 : Hid (Below W1.heap.size W1 w3) := HB2.out.trans (hw.mono HB2.out.size)
          have HO3 : Hid (OwnV W1.heap.size w3 (.slice a2 (wall n B k ++ wrow n B k j).length c2) (wall n B k ++ wrow n B k j)) := HO2.out.below hw
          clear hw
          by_cases h0 : 0 < wt n B k j
          · have HW1 : Hid (wall n B k ++ wrow n B k (j + 1) = (wall n B k ++ wrow n B k j) ++ [(k, j, wt n B k j)]) := by show _ = _; rw [HS.out]; unfold wone; rw [if_pos h0]; rfl
            generalize wall n B k ++ wrow n B k j = D at *
            generalize wt n B k j = q at *
            have HV : Hid (∀ W : World, W = w3.alloc (.cells #[.int .i64 (k : Int), .int .i64 (j : Int), .int .i64 (q : Int)] 71) → (∀ i u, [Value.int .i64 (k : Int), .int .i64 (j : Int), .int .i64 (q : Int)][i]? = some u → W.cell? ((⟨w3.heap.size, 0, none⟩ : Addr).add i) = some u) ∧ Below w3.heap.size w3 W) := fun W hW => by
              refine ⟨fun i u hi => ?_, by rw [hW]; exact (Below.refl _ _).alloc (Nat.le_refl _) _⟩
              rw [Addr.add_lit, cell_of_row W w3.heap.size _ _ _ _ (by rw [hW]; exact heap_alloc_new w3 _)]
              simpa using hi
            go_wp2_with (at_builtin; refine wpList_append_own _ rfl _ _ 67 rfl W1.heap.size 71 i0 (.agg #[.int .i64 0, .int .i64 0, .int .i64 0]) 3 24 Try.underlying67 hin hz0 hz1 hz2 rfl (by decide) _ _ _ rfl (HO3.out.below (HV.out _ rfl).2) ⟨w3.heap.size, 0, none⟩ 1 1 [.int .i64 (k : Int), .int .i64 (j : Int), .int .i64 (q : Int)] rfl rfl (HV.out _ rfl).1 (fun x hx => by simp at hx; rcases hx with rfl | rfl | rfl <;> rfl) (by have := HD.out; unfold maxLen; omega) (by have := HD.out; omega) (Nat.le_trans HB3.out.size (HV.out _ rfl).2.size) ?_; intro v4 w4 hown4 hgrow4 hnil4; obtain ⟨a4, c4, e4⟩ := OwnV.form (OwnV.snoc (x := (k, j, q)) hown4); subst e4; have HO4 : Hid (OwnV W1.heap.size w4 _ (D ++ [(k, j, q)])) := OwnV.snoc (x := (k, j, q)) hown4; have HB4 : Hid (Below W1.heap.size W1 w4) := (HB3.out.trans ((HV.out _ rfl).2.mono HB3.out.size)).grown hgrow4 (Nat.le_trans HB3.out.size (HV.out _ rfl).2.size) HO3.out.block; clear hown4 hgrow4 hnil4)
            go_round
            case rel => exact ⟨j + 1, a4, c4, by omega, by go_num, by rw [HW1.out]; simp, by rw [HW1.out]; exact HO4, HB4⟩
            case measure => simp [intOf]; omega
          · have HW1 : Hid (wall n B k ++ wrow n B k (j + 1) = wall n B k ++ wrow n B k j) := by show _ = _; rw [HS.out]; unfold wone; rw [if_neg h0]; simp
            have h00 : wt n B k j = 0 := by omega
            rw [h00]
            generalize wall n B k ++ wrow n B k j = D at *
            go_wp2
            go_round
            case rel => exact ⟨j + 1, a2, c2, by omega, by go_num, by rw [HW1.out], by rw [HW1.out]; exact HO3, HB3⟩
            case measure => simp [intOf]; omega
        · obtain ⟨x_0, x_1⟩ := HX.out.cells HB2.out
          obtain rfl : j = n := by omega
          have e : wall j B (k + 1) = wall j B k ++ wrow j B k j := wall_succ j B k
          have HE : Hid (wall j B (k + 1) = wall j B k ++ wrow j B k j) := e
          clear e
          generalize wall j B k ++ wrow j B k j = D at *
          go_wp2
          go_round
          case rel => exact ⟨k + 1, a2, c2, by omega, by go_num, by rw [HE.out], by rw [HE.out]; exact HO2, HB2⟩
          case measure => simp [intOf]; omega
    · obtain ⟨x_0, x_1⟩ := HX.out.cells HB.out
      obtain rfl : k = n := by omega
      go_wp2
      go_ret
      exact ⟨_, rfl, HO.out.le Hm.out.2, Hm.out.1.trans (HB.out.mono Hm.out.2)⟩

end Go.Proofs.Ytlcnfoljkcfplaa
