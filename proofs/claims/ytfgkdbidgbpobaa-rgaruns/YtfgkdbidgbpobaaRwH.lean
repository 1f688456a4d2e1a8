/- Add; a nil row; awake. -/
import Derived.Test.YtfgkdbidgbpobaaRwG
import Derived.Test.YtfgkdbidgbpobaaRwCZ
import Derived.Test.YtfgkdbidgbpobaaRwCH
import Derived.Test.YtfgkdbidgbpobaaRwCN
import Derived.Test.YtfgkdbidgbpobaaSrtA
namespace Go.Proofs.Ytfgkdbidgbpobaa
open Go.RowKit
set_option linter.unusedVariables false
set_option linter.unusedSimpArgs false

theorem add_any (F : Nat → Prop) (rb : Nat) (L : List Sl) (s : Sl) (w : World) (h : RowOk F w rb L) (hlen : L.length < 4096) :
    Calls Try.prog 8 #[.pointer (some ⟨rb, 0, none⟩), .agg #[.int .i64 s.ts.1, .int .i64 s.ts.2], .agg #[.int .i64 s.af.1, .int .i64 s.af.2]] w fun e w' => AddP F w rb L s e w' := by
  refine (callsIn_wide (n := 5)).1 ?_
  cases hO : okS s with
  | false => exact add_in_form 5 (Nat.le_refl _) F rb L s w h hlen hO
  | true =>
    cases hH : hasL L s.ts with
    | true => exact add_in_twice 5 (Nat.le_refl _) F rb L s w h hlen hO hH
    | false =>
      by_cases hZ : s.af = z0
      · exact add_in_z 5 (Nat.le_refl _) F rb L s w h hlen hO hH hZ (by rw [hZ]; exact h.good.zero)
      · cases hA : hasL L s.af with
        | true => exact add_in_h 5 (Nat.le_refl _) F rb L s w h hlen hO hH hZ hA
        | false => exact add_in_n 5 (Nat.le_refl _) F rb L s w h hlen hO hH hZ hA

set_option maxHeartbeats 1000000 in
theorem add0_any (s : Sl) (w : World) : Calls Try.prog 8 #[.pointer none, .agg #[.int .i64 s.ts.1, .int .i64 s.ts.2], .agg #[.int .i64 s.af.1, .int .i64 s.af.2]] w fun e w' => e = .returned (.int .i64 7) ∧ Below w.heap.size w w' := by
  go_enter Try.func8, Try.ntmps8
  go_wp2
  go_ret
  exact ⟨rfl, (((Below.refl _ _).alloc (Nat.le_refl _) _).alloc (by simp) _).alloc (by simp; omega) _⟩

theorem isS_of {w : World} {v : Value} {d : List St} {G : Nat → Prop} (h : LsE stCells 2 G w v d) : S.IsS w v d := by
  obtain ⟨a, cap, e, hc, hl, h⟩ := h
  exact ⟨a, cap, e, hc, hl, h.imp id fun ⟨b, o, e2, _, _, hr⟩ => ⟨b, o, e2, fun i hi => ⟨hr i hi 0 _ rfl, hr i hi 1 _ rfl⟩⟩⟩
theorem isS_two {w : World} {b : Nat} {p q r s : Int} (h : w.heap[b]? = some (.cells #[.int .i64 p, .int .i64 q, .int .i64 r, .int .i64 s] 33)) : S.IsS w (.slice (some ⟨b, 0, none⟩) 2 2) [(p, q), (r, s)] := by
  refine ⟨_, 2, rfl, by simp, by simp, .inr ⟨b, 0, rfl, fun i hi => ?_⟩⟩
  match i, hi with
  | 0, _ => exact ⟨by rw [cell_of_row w b _ _ _ _ h]; rfl, by rw [cell_of_row w b _ _ _ _ h]; rfl⟩
  | 1, _ => exact ⟨by rw [cell_of_row w b _ _ _ _ h]; rfl, by rw [cell_of_row w b _ _ _ _ h]; rfl⟩
/-- Two stamps in boxes. -/
def Bx2C (bx : Nat) (W : World) : Prop := BxC bx [.int .i64 1, .int .i64 0] 33 W ∧ BxC (bx + 1) [.int .i64 2, .int .i64 0] 33 W
theorem Bx2C.below {bx : Nat} {W W' : World} (h : Bx2C bx W) (hb : Below W.heap.size W W') : Bx2C bx W' := ⟨h.1.below hb, h.2.below hb⟩
theorem Bx2C.drew {bx : Nat} {W : World} (h : Bx2C bx W) : Bx2C bx W.drew := h.below (Below.refl _ _).drew
theorem Bx2C.touch {bx : Nat} {W W' : World} (h : Bx2C bx W) {G : Nat → Prop} (ht : Touch G W W') (hG : ∀ j, G j → j < bx ∨ bx + 1 < j) : Bx2C bx W' := ⟨h.1.touch ht (fun e => by have := hG bx e; omega), h.2.touch ht (fun e => by have := hG (bx + 1) e; omega)⟩

set_option maxRecDepth 100000 in
set_option maxHeartbeats 8000000 in
theorem awake_any (w : World) : Calls Try.prog 13 #[] w fun e w' => e = .returned (.bool true) ∧ Below w.heap.size w w' := by
  go_enter Try.func13, Try.ntmps13
  go_wp2_with fail
  refine (new_any _).mono ?_
  rintro e w1 ⟨rb, G, rfl, hR, hF, hb1⟩
  obtain ⟨W2, eW2⟩ : ∃ X, X = (w1.alloc (.cells [.int .i64 1, .int .i64 0].toArray 33)).alloc (.cells [.int .i64 2, .int .i64 0].toArray 33) := ⟨_, rfl⟩
  have hb2 : Below w1.heap.size w1 W2 := by rw [eW2]; exact ((Below.refl _ _).alloc (Nat.le_refl _) _).alloc (by simp) _
  have HX : Hid (Bx2C w1.heap.size W2) := by rw [eW2]; exact BxC.new2 w1 _ _ _ _
  have HR : Hid (RowOk G W2 rb ([] : List Sl)) := hR.below hb2
  have HTo : Hid (Touch (fun k => w.heap.size ≤ k) w W2) := Touch.of_below (hb1.trans (hb2.mono hb1.size))
  obtain ⟨bx, ebx⟩ : ∃ b, b = w1.heap.size := ⟨_, rfl⟩
  have HGb : Hid (∀ j, G j → j < bx ∨ bx + 1 < j) := fun j hj => .inl (by rw [ebx]; exact hR.lt j hj)
  have HGw : Hid (∀ j, G j → w.heap.size ≤ j) := hF
  have HBw : Hid (w.heap.size ≤ bx) := by (rw [ebx]; exact hb1.size)
  clear hR hF hb1 hb2
  go_wp2
  have eW3 := eW2
  rw [← eW3]
  rw [← ebx] at HX ⊢
  clear eW3 eW2 ebx
  refine wp_region_held_drew (S := fun W' => Bx2C bx W') (by kernel_rfl) HX.out.drew (fun hHeld => ?_)
  obtain ⟨Ua3u0, eW⟩ : ∃ X, X = W2.drew := ⟨_, rfl⟩
  have hb : Below W2.heap.size W2 Ua3u0 := by rw [eW]; exact (Below.refl _ _).drew
  replace HR : Hid (RowOk G Ua3u0 rb ([] : List Sl)) := HR.out.below hb
  replace HTo : Hid (Touch (fun k => w.heap.size ≤ k) w Ua3u0) := HTo.out.trans (Touch.of_below (F := fun _ => False) hb) (fun j h => h.elim)
  rw [← eW] at hHeld ⊢
  clear eW hb
  refine tkW 0 (some 7) (v := ?_) ?_ hHeld ?_
  rotate_left
  · (intro ww _; go_simp; try with_reducible rfl)
  refine tkW 1 (some 8) (v := ?_) ?_ hHeld ?_
  rotate_left
  · (intro ww hSw; (try dsimp only at hSw); have hS := hSw; go_simp; try with_reducible rfl)
  refine tkW 2 (some 9) (v := ?_) ?_ hHeld ?_
  rotate_left
  · (intro ww _; go_simp; try with_reducible rfl)
  refine tkW 3 (some 10) (v := ?_) ?_ hHeld ?_
  rotate_left
  · (intro ww _; go_simp; try with_reducible rfl)
  refine tkW 4 (some 11) (v := ?_) ?_ hHeld ?_
  rotate_left
  · (intro ww hSw; (try dsimp only at hSw); have hS := hSw; have a0 := hS.1.cell 0 _ rfl; have a1 := hS.1.cell 1 _ rfl; have b0 := hS.2.cell 0 _ rfl; have b1 := hS.2.cell 1 _ rfl; go_simp; try with_reducible rfl)
  refine tkW 5 (some 12) (v := ?_) ?_ hHeld ?_
  rotate_left
  · (intro ww hSw; (try dsimp only at hSw); have hS := hSw; go_simp; try with_reducible rfl)
  refine wpAnyH_ready (rs := [6]) (by kernel_rfl) (by simp) ?_
  refine AllReadyH.cons (o := ⟨some 13, _, _, _, _, _⟩) rfl (fun K hK => ?_) AllReadyH.nil
  go_simp
  refine (add_any G rb ([] : List Sl) ⟨(1, 0), z0⟩ _ HR.out (by decide)).mono ?_
  rintro e Ua3u1 ⟨rfl, G2, hR2, hi2, ho2, ht2⟩
  (try go_wp2_with fail)
  have hce : addC ([] : List Sl) ⟨(1, 0), z0⟩ = 0 := by decide
  rw [hce]
  clear hce
  have hS2 : Bx2C bx Ua3u1 := hHeld.touch ht2 (fun j hj => HGb.out j hj)
  have HRn : Hid (RowOk G2 Ua3u1 rb ([⟨(1, 0), z0⟩] : List Sl)) := by (have h9 := hR2; rw [show addL ([] : List Sl) ⟨(1, 0), z0⟩ = ([⟨(1, 0), z0⟩] : List Sl) by decide] at h9; exact h9)
  replace HTo : Hid (Touch (fun k => w.heap.size ≤ k) w Ua3u1) := HTo.out.trans ht2 (fun j hj => .inr (HGw.out j hj))
  have HGbn : Hid (∀ j, G2 j → j < bx ∨ bx + 1 < j) := fun j hj => (ho2 j hj).elim (HGb.out j) (fun h8 => .inr (by have := hHeld.2.lt; omega))
  have HGwn : Hid (∀ j, G2 j → w.heap.size ≤ j) := fun j hj => (ho2 j hj).elim (HGw.out j) (fun h8 => by have := hHeld.1.lt; have := HBw.out; omega)
  refine hK.out _ _ (hS2) (fun hHeld2 => ?_)
  clear hK K hHeld
  have hHeld := hHeld2
  clear hHeld2
  (try simp only [Act.put, List.setIfInBounds_toArray, List.set_cons_zero, List.set_cons_succ])
  clear hR2 hi2 ho2 ht2 hS2 HR HGb HGw G
  have HR := HRn
  have HGb := HGbn
  have HGw := HGwn
  clear HRn HGbn HGwn
  obtain ⟨G, eG⟩ : ∃ G, G = G2 := ⟨_, rfl⟩
  rw [← eG] at HR HGb HGw
  clear eG G2
  refine tkW 7 (some 14) (v := ?_) ?_ hHeld ?_
  rotate_left
  · (intro ww hSw; (try dsimp only at hSw); have hS := hSw; go_simp; try with_reducible rfl)
  refine tkW 8 (some 15) (v := ?_) ?_ hHeld ?_
  rotate_left
  · (intro ww _; go_simp; try with_reducible rfl)
  refine tkW 9 (some 16) (v := ?_) ?_ hHeld ?_
  rotate_left
  · (intro ww _; go_simp; try with_reducible rfl)
  refine tkW 10 (some 17) (v := ?_) ?_ hHeld ?_
  rotate_left
  · (intro ww _; go_simp; try with_reducible rfl)
  refine tkW 11 (some 18) (v := ?_) ?_ hHeld ?_
  rotate_left
  · (intro ww hSw; (try dsimp only at hSw); have hS := hSw; have a0 := hS.1.cell 0 _ rfl; have a1 := hS.1.cell 1 _ rfl; have b0 := hS.2.cell 0 _ rfl; have b1 := hS.2.cell 1 _ rfl; go_simp; try with_reducible rfl)
  refine tkW 12 (some 19) (v := ?_) ?_ hHeld ?_
  rotate_left
  · (intro ww hSw; (try dsimp only at hSw); have hS := hSw; have a0 := hS.1.cell 0 _ rfl; have a1 := hS.1.cell 1 _ rfl; have b0 := hS.2.cell 0 _ rfl; have b1 := hS.2.cell 1 _ rfl; go_simp; try with_reducible rfl)
  refine wpAnyH_ready (rs := [13]) (by kernel_rfl) (by simp) ?_
  refine AllReadyH.cons (o := ⟨some 20, _, _, _, _, _⟩) rfl (fun K hK => ?_) AllReadyH.nil
  go_simp
  refine (add_any G rb ([⟨(1, 0), z0⟩] : List Sl) ⟨(2, 0), (1, 0)⟩ _ HR.out (by decide)).mono ?_
  rintro e Ua3u2 ⟨rfl, G2, hR2, hi2, ho2, ht2⟩
  (try go_wp2_with fail)
  have hce : addC ([⟨(1, 0), z0⟩] : List Sl) ⟨(2, 0), (1, 0)⟩ = 0 := by decide
  rw [hce]
  clear hce
  have hS2 : Bx2C bx Ua3u2 := hHeld.touch ht2 (fun j hj => HGb.out j hj)
  have HRn : Hid (RowOk G2 Ua3u2 rb ([⟨(1, 0), z0⟩, ⟨(2, 0), (1, 0)⟩] : List Sl)) := by (have h9 := hR2; rw [show addL ([⟨(1, 0), z0⟩] : List Sl) ⟨(2, 0), (1, 0)⟩ = ([⟨(1, 0), z0⟩, ⟨(2, 0), (1, 0)⟩] : List Sl) by decide] at h9; exact h9)
  replace HTo : Hid (Touch (fun k => w.heap.size ≤ k) w Ua3u2) := HTo.out.trans ht2 (fun j hj => .inr (HGw.out j hj))
  have HGbn : Hid (∀ j, G2 j → j < bx ∨ bx + 1 < j) := fun j hj => (ho2 j hj).elim (HGb.out j) (fun h8 => .inr (by have := hHeld.2.lt; omega))
  have HGwn : Hid (∀ j, G2 j → w.heap.size ≤ j) := fun j hj => (ho2 j hj).elim (HGw.out j) (fun h8 => by have := hHeld.1.lt; have := HBw.out; omega)
  refine hK.out _ _ (hS2) (fun hHeld2 => ?_)
  clear hK K hHeld
  have hHeld := hHeld2
  clear hHeld2
  (try simp only [Act.put, List.setIfInBounds_toArray, List.set_cons_zero, List.set_cons_succ])
  clear hR2 hi2 ho2 ht2 hS2 HR HGb HGw G
  have HR := HRn
  have HGb := HGbn
  have HGw := HGwn
  clear HRn HGbn HGwn
  obtain ⟨G, eG⟩ : ∃ G, G = G2 := ⟨_, rfl⟩
  rw [← eG] at HR HGb HGw
  clear eG G2
  refine tkW 14 (some 21) (v := ?_) ?_ hHeld ?_
  rotate_left
  · (intro ww hSw; (try dsimp only at hSw); have hS := hSw; go_simp; try with_reducible rfl)
  refine tkW 15 (some 22) (v := ?_) ?_ hHeld ?_
  rotate_left
  · (intro ww _; go_simp; try with_reducible rfl)
  refine tkW 16 (some 23) (v := ?_) ?_ hHeld ?_
  rotate_left
  · (intro ww _; go_simp; try with_reducible rfl)
  refine tkW 17 (some 24) (v := ?_) ?_ hHeld ?_
  rotate_left
  · (intro ww _; go_simp; try with_reducible rfl)
  refine tkW 18 (some 25) (v := ?_) ?_ hHeld ?_
  rotate_left
  · (intro ww hSw; (try dsimp only at hSw); have hS := hSw; have a0 := hS.1.cell 0 _ rfl; have a1 := hS.1.cell 1 _ rfl; have b0 := hS.2.cell 0 _ rfl; have b1 := hS.2.cell 1 _ rfl; go_simp; try with_reducible rfl)
  refine tkW 19 (some 26) (v := ?_) ?_ hHeld ?_
  rotate_left
  · (intro ww hSw; (try dsimp only at hSw); have hS := hSw; have a0 := hS.1.cell 0 _ rfl; have a1 := hS.1.cell 1 _ rfl; have b0 := hS.2.cell 0 _ rfl; have b1 := hS.2.cell 1 _ rfl; go_simp; try with_reducible rfl)
  refine wpAnyH_ready (rs := [20]) (by kernel_rfl) (by simp) ?_
  refine AllReadyH.cons (o := ⟨some 27, _, _, _, _, _⟩) rfl (fun K hK => ?_) AllReadyH.nil
  go_simp
  refine (add_any G rb ([⟨(1, 0), z0⟩, ⟨(2, 0), (1, 0)⟩] : List Sl) ⟨(2, 0), (1, 0)⟩ _ HR.out (by decide)).mono ?_
  rintro e Ua3u3 ⟨rfl, G2, hR2, hi2, ho2, ht2⟩
  (try go_wp2_with fail)
  have hce : addC ([⟨(1, 0), z0⟩, ⟨(2, 0), (1, 0)⟩] : List Sl) ⟨(2, 0), (1, 0)⟩ = 5 := by decide
  rw [hce]
  clear hce
  have hS2 : Bx2C bx Ua3u3 := hHeld.touch ht2 (fun j hj => HGb.out j hj)
  have HRn : Hid (RowOk G2 Ua3u3 rb ([⟨(1, 0), z0⟩, ⟨(2, 0), (1, 0)⟩] : List Sl)) := by (have h9 := hR2; rw [show addL ([⟨(1, 0), z0⟩, ⟨(2, 0), (1, 0)⟩] : List Sl) ⟨(2, 0), (1, 0)⟩ = ([⟨(1, 0), z0⟩, ⟨(2, 0), (1, 0)⟩] : List Sl) by decide] at h9; exact h9)
  replace HTo : Hid (Touch (fun k => w.heap.size ≤ k) w Ua3u3) := HTo.out.trans ht2 (fun j hj => .inr (HGw.out j hj))
  have HGbn : Hid (∀ j, G2 j → j < bx ∨ bx + 1 < j) := fun j hj => (ho2 j hj).elim (HGb.out j) (fun h8 => .inr (by have := hHeld.2.lt; omega))
  have HGwn : Hid (∀ j, G2 j → w.heap.size ≤ j) := fun j hj => (ho2 j hj).elim (HGw.out j) (fun h8 => by have := hHeld.1.lt; have := HBw.out; omega)
  refine hK.out _ _ (hS2) (fun hHeld2 => ?_)
  clear hK K hHeld
  have hHeld := hHeld2
  clear hHeld2
  (try simp only [Act.put, List.setIfInBounds_toArray, List.set_cons_zero, List.set_cons_succ])
  clear hR2 hi2 ho2 ht2 hS2 HR HGb HGw G
  have HR := HRn
  have HGb := HGbn
  have HGw := HGwn
  clear HRn HGbn HGwn
  obtain ⟨G, eG⟩ : ∃ G, G = G2 := ⟨_, rfl⟩
  rw [← eG] at HR HGb HGw
  clear eG G2
  refine tkW 21 (some 28) (v := ?_) ?_ hHeld ?_
  rotate_left
  · (intro ww hSw; (try dsimp only at hSw); have hS := hSw; go_simp; try with_reducible rfl)
  refine tkW 22 (some 29) (v := ?_) ?_ hHeld ?_
  rotate_left
  · (intro ww _; go_simp; try with_reducible rfl)
  refine tkW 23 (some 30) (v := ?_) ?_ hHeld ?_
  rotate_left
  · (intro ww _; go_simp; try with_reducible rfl)
  refine tkW 24 (some 31) (v := ?_) ?_ hHeld ?_
  rotate_left
  · (intro ww _; go_simp; try with_reducible rfl)
  refine tkW 26 (some 33) (v := ?_) ?_ hHeld ?_
  rotate_left
  · (intro ww hSw; (try dsimp only at hSw); have hS := hSw; have a0 := hS.1.cell 0 _ rfl; have a1 := hS.1.cell 1 _ rfl; have b0 := hS.2.cell 0 _ rfl; have b1 := hS.2.cell 1 _ rfl; go_simp; try with_reducible rfl)
  refine tkW 27 (some 34) (v := ?_) ?_ hHeld ?_
  rotate_left
  · (intro ww hSw; (try dsimp only at hSw); have hS := hSw; have a0 := hS.1.cell 0 _ rfl; have a1 := hS.1.cell 1 _ rfl; have b0 := hS.2.cell 0 _ rfl; have b1 := hS.2.cell 1 _ rfl; go_simp; try with_reducible rfl)
  refine wpAnyH_ready (rs := [25, 28]) (by kernel_rfl) (by simp) ?_
  refine AllReadyH.cons (o := ⟨some 32, _, _, _, _, _⟩) rfl (fun K hK => ?_) (AllReadyH.cons (o := ⟨some 35, _, _, _, _, _⟩) rfl (fun K hK => ?_) AllReadyH.nil)
  · go_simp
    refine (order_any G _ ([⟨(1, 0), z0⟩, ⟨(2, 0), (1, 0)⟩] : List Sl) _ HR.out.rv).mono ?_
    rintro e Ua3u4 ⟨ov, rfl, ho, hb⟩
    (try go_wp2_with fail)
    obtain ⟨ao, no, co, eo⟩ : ∃ a n c, ov = .slice a n c := (by obtain ⟨a, c, e⟩ := ho.form; exact ⟨a, _, c, e⟩)
    subst eo
    have HOr : Hid (OwnSt Ua3u3.heap.size Ua3u4 (.slice ao no co) [(1, 0), (2, 0)]) := ho
    refine hK.out _ _ (hHeld.below hb) (fun hHeld2 => ?_)
    clear hK K hHeld
    have hHeld := hHeld2
    clear hHeld2
    (try simp only [Act.put, List.setIfInBounds_toArray, List.set_cons_zero, List.set_cons_succ])
    replace HR : Hid (RowOk G Ua3u4 rb ([⟨(1, 0), z0⟩, ⟨(2, 0), (1, 0)⟩] : List Sl)) := HR.out.below hb
    replace HTo : Hid (Touch (fun k => w.heap.size ≤ k) w Ua3u4) := HTo.out.trans (Touch.of_below (F := fun _ => False) hb) (fun j h => h.elim)
    clear ho
    clear hb
    refine wpAnyH_ready (rs := [28]) (by kernel_rfl) (by simp) ?_
    refine AllReadyH.cons (o := ⟨some 35, _, _, _, _, _⟩) rfl (fun K hK => ?_) AllReadyH.nil
    have hbx : Below Ua3u4.heap.size Ua3u4 (Ua3u4.alloc (.cells #[.int .i64 1, .int .i64 0, .int .i64 2, .int .i64 0] 33)) := (Below.refl _ _).alloc (Nat.le_refl _) _
    go_simp
    refine hK.out _ _ (hHeld.below hbx) (fun hHeld2 => ?_)
    clear hK K hHeld
    have hHeld := hHeld2
    clear hHeld2
    (try simp only [Act.put, List.setIfInBounds_toArray, List.set_cons_zero, List.set_cons_succ])
    obtain ⟨Ua3u5, eW⟩ : ∃ X, X = Ua3u4.alloc (.cells #[.int .i64 1, .int .i64 0, .int .i64 2, .int .i64 0] 33) := ⟨_, rfl⟩
    have hb : Below Ua3u4.heap.size Ua3u4 Ua3u5 := by rw [eW]; exact (Below.refl _ _).alloc (Nat.le_refl _) _
    replace HR : Hid (RowOk G Ua3u5 rb ([⟨(1, 0), z0⟩, ⟨(2, 0), (1, 0)⟩] : List Sl)) := HR.out.below hb
    replace HTo : Hid (Touch (fun k => w.heap.size ≤ k) w Ua3u5) := HTo.out.trans (Touch.of_below (F := fun _ => False) hb) (fun j h => h.elim)
    replace HOr : Hid (OwnSt Ua3u3.heap.size Ua3u5 (.slice ao no co) [(1, 0), (2, 0)]) := HOr.out.below hb
    have HV : Hid (Ua3u5.heap[Ua3u4.heap.size]? = some (.cells #[.int .i64 1, .int .i64 0, .int .i64 2, .int .i64 0] 33)) := by rw [eW]; exact heap_alloc_new _ _
    rw [← eW] at hHeld ⊢
    clear eW
    clear hbx
    obtain ⟨vb, enb⟩ : ∃ b, b = Ua3u4.heap.size := ⟨_, rfl⟩
    rw [← enb] at HV ⊢
    clear enb
    clear hb
    refine wpAnyH_ready (rs := [29]) (by kernel_rfl) (by simp) ?_
    refine AllReadyH.cons (o := ⟨some 36, _, _, _, _, _⟩) rfl (fun K hK => ?_) AllReadyH.nil
    go_simp
    refine (S.same_any _ _ [(1, 0), (2, 0)] [(1, 0), (2, 0)] _ (isS_of (HOr.out.lsE (G := fun _ => True) stCells_len (by simp) (fun _ _ => trivial))) (isS_two HV.out)).mono ?_
    rintro e Ua3u6 ⟨rfl, hb⟩
    (try go_wp2_with fail)
    refine hK.out _ _ (hHeld.below hb) (fun hHeld2 => ?_)
    clear hK K hHeld
    have hHeld := hHeld2
    clear hHeld2
    (try simp only [Act.put, List.setIfInBounds_toArray, List.set_cons_zero, List.set_cons_succ])
    replace HR : Hid (RowOk G Ua3u6 rb ([⟨(1, 0), z0⟩, ⟨(2, 0), (1, 0)⟩] : List Sl)) := HR.out.below hb
    replace HTo : Hid (Touch (fun k => w.heap.size ≤ k) w Ua3u6) := HTo.out.trans (Touch.of_below (F := fun _ => False) hb) (fun j h => h.elim)
    replace HOr : Hid (OwnSt Ua3u3.heap.size Ua3u6 (.slice ao no co) [(1, 0), (2, 0)]) := HOr.out.below hb
    replace HV : Hid (Ua3u6.heap[vb]? = some (.cells #[.int .i64 1, .int .i64 0, .int .i64 2, .int .i64 0] 33)) := (hb.block _ (row_lt HV.out)).trans HV.out
    clear hb
    refine tkW 30 (some 37) (v := ?_) ?_ hHeld ?_
    rotate_left
    · (intro ww _; go_simp; try with_reducible rfl)
    refine tkW 31 (some 0) (v := ?_) ?_ hHeld ?_
    rotate_left
    · (intro ww _; go_simp; try with_reducible rfl)
    refine wpAnyH_done (by kernel_rfl) ?_ _
    clear hHeld
    go_wp2
    go_ret
    exact ⟨rfl, HTo.out.below (fun _ h => h) (Nat.le_refl _)⟩
  · have hbx : Below Ua3u3.heap.size Ua3u3 (Ua3u3.alloc (.cells #[.int .i64 1, .int .i64 0, .int .i64 2, .int .i64 0] 33)) := (Below.refl _ _).alloc (Nat.le_refl _) _
    go_simp
    refine hK.out _ _ (hHeld.below hbx) (fun hHeld2 => ?_)
    clear hK K hHeld
    have hHeld := hHeld2
    clear hHeld2
    (try simp only [Act.put, List.setIfInBounds_toArray, List.set_cons_zero, List.set_cons_succ])
    obtain ⟨Ua3u7, eW⟩ : ∃ X, X = Ua3u3.alloc (.cells #[.int .i64 1, .int .i64 0, .int .i64 2, .int .i64 0] 33) := ⟨_, rfl⟩
    have hb : Below Ua3u3.heap.size Ua3u3 Ua3u7 := by rw [eW]; exact (Below.refl _ _).alloc (Nat.le_refl _) _
    replace HR : Hid (RowOk G Ua3u7 rb ([⟨(1, 0), z0⟩, ⟨(2, 0), (1, 0)⟩] : List Sl)) := HR.out.below hb
    replace HTo : Hid (Touch (fun k => w.heap.size ≤ k) w Ua3u7) := HTo.out.trans (Touch.of_below (F := fun _ => False) hb) (fun j h => h.elim)
    have HV : Hid (Ua3u7.heap[Ua3u3.heap.size]? = some (.cells #[.int .i64 1, .int .i64 0, .int .i64 2, .int .i64 0] 33)) := by rw [eW]; exact heap_alloc_new _ _
    rw [← eW] at hHeld ⊢
    clear eW
    clear hbx
    obtain ⟨vb, enb⟩ : ∃ b, b = Ua3u3.heap.size := ⟨_, rfl⟩
    rw [← enb] at HV ⊢
    clear enb
    clear hb
    refine wpAnyH_ready (rs := [25]) (by kernel_rfl) (by simp) ?_
    refine AllReadyH.cons (o := ⟨some 32, _, _, _, _, _⟩) rfl (fun K hK => ?_) AllReadyH.nil
    go_simp
    refine (order_any G _ ([⟨(1, 0), z0⟩, ⟨(2, 0), (1, 0)⟩] : List Sl) _ HR.out.rv).mono ?_
    rintro e Ua3u8 ⟨ov, rfl, ho, hb⟩
    (try go_wp2_with fail)
    obtain ⟨ao, no, co, eo⟩ : ∃ a n c, ov = .slice a n c := (by obtain ⟨a, c, e⟩ := ho.form; exact ⟨a, _, c, e⟩)
    subst eo
    have HOr : Hid (OwnSt Ua3u7.heap.size Ua3u8 (.slice ao no co) [(1, 0), (2, 0)]) := ho
    refine hK.out _ _ (hHeld.below hb) (fun hHeld2 => ?_)
    clear hK K hHeld
    have hHeld := hHeld2
    clear hHeld2
    (try simp only [Act.put, List.setIfInBounds_toArray, List.set_cons_zero, List.set_cons_succ])
    replace HR : Hid (RowOk G Ua3u8 rb ([⟨(1, 0), z0⟩, ⟨(2, 0), (1, 0)⟩] : List Sl)) := HR.out.below hb
    replace HTo : Hid (Touch (fun k => w.heap.size ≤ k) w Ua3u8) := HTo.out.trans (Touch.of_below (F := fun _ => False) hb) (fun j h => h.elim)
    replace HV : Hid (Ua3u8.heap[vb]? = some (.cells #[.int .i64 1, .int .i64 0, .int .i64 2, .int .i64 0] 33)) := (hb.block _ (row_lt HV.out)).trans HV.out
    clear ho
    clear hb
    refine wpAnyH_ready (rs := [29]) (by kernel_rfl) (by simp) ?_
    refine AllReadyH.cons (o := ⟨some 36, _, _, _, _, _⟩) rfl (fun K hK => ?_) AllReadyH.nil
    go_simp
    refine (S.same_any _ _ [(1, 0), (2, 0)] [(1, 0), (2, 0)] _ (isS_of (HOr.out.lsE (G := fun _ => True) stCells_len (by simp) (fun _ _ => trivial))) (isS_two HV.out)).mono ?_
    rintro e Ua3u9 ⟨rfl, hb⟩
    (try go_wp2_with fail)
    refine hK.out _ _ (hHeld.below hb) (fun hHeld2 => ?_)
    clear hK K hHeld
    have hHeld := hHeld2
    clear hHeld2
    (try simp only [Act.put, List.setIfInBounds_toArray, List.set_cons_zero, List.set_cons_succ])
    replace HR : Hid (RowOk G Ua3u9 rb ([⟨(1, 0), z0⟩, ⟨(2, 0), (1, 0)⟩] : List Sl)) := HR.out.below hb
    replace HTo : Hid (Touch (fun k => w.heap.size ≤ k) w Ua3u9) := HTo.out.trans (Touch.of_below (F := fun _ => False) hb) (fun j h => h.elim)
    replace HV : Hid (Ua3u9.heap[vb]? = some (.cells #[.int .i64 1, .int .i64 0, .int .i64 2, .int .i64 0] 33)) := (hb.block _ (row_lt HV.out)).trans HV.out
    replace HOr : Hid (OwnSt Ua3u7.heap.size Ua3u9 (.slice ao no co) [(1, 0), (2, 0)]) := HOr.out.below hb
    clear hb
    refine tkW 30 (some 37) (v := ?_) ?_ hHeld ?_
    rotate_left
    · (intro ww _; go_simp; try with_reducible rfl)
    refine tkW 31 (some 0) (v := ?_) ?_ hHeld ?_
    rotate_left
    · (intro ww _; go_simp; try with_reducible rfl)
    refine wpAnyH_done (by kernel_rfl) ?_ _
    clear hHeld
    go_wp2
    go_ret
    exact ⟨rfl, HTo.out.below (fun _ h => h) (Nat.le_refl _)⟩

end Go.Proofs.Ytfgkdbidgbpobaa
