/- What puts a parcel into a bag. -/
import Derived.Test.YtlcnfoljkcfplaaBgB
import Derived.Deep.AppendLies
import Derived.Deep.RegionHeld
import Derived.Deep.RegionHeld3
import Derived.Deep.Cut
namespace Go.Proofs.Ytlcnfoljkcfplaa
open Go.RowKit
set_option linter.unusedVariables false
set_option linter.unusedSimpArgs false

def TouchW (F : Nat → Prop) (w W : World) : Prop := Touch F w W
theorem TouchW.below {F : Nat → Prop} {w W W' : World} (h : TouchW F w W) (hb : Below W.heap.size W W') : TouchW F w W' := Touch.trans h (Touch.of_below (F := F) hb) (fun j h => .inl h)
theorem TouchW.size {F : Nat → Prop} {w W : World} (h : TouchW F w W) : w.heap.size ≤ W.heap.size := Touch.size h
structure RowP (b : Nat) (p : List UInt8) (sp : Bool) (W : World) : Prop where
  out : W.heap[b]? = some (.cells #[.string (txt p), .bool sp] 50)
theorem RowP.below {b : Nat} {p : List UInt8} {sp : Bool} {W W' : World} (h : RowP b p sp W) (hb : Below W.heap.size W W') : RowP b p sp W' := ⟨(hb.block _ (row_lt h.out)).trans h.out⟩
theorem pc_cells {b : Nat} {x y : Value} {ty : TypeId} {W : World} (h : W.heap[b]? = some (.cells #[x, y] ty)) : W.cell? ⟨b, 0, none⟩ = some x ∧ W.cell? ⟨b, 1, none⟩ = some y := by
  refine ⟨?_, ?_⟩ <;> (rw [cell_of_row W b _ _ _ _ h]; rfl)
theorem OwnP.below {B : Nat} {w w' : World} {v : Value} {D : List Pc} (h : OwnP B w v D) (hb : Below w.heap.size w w') : OwnP B w' v D := ownsRow_keep h fun k e => hb.block k (World.ownsRow.lt h k e).2

/-- What a call leaves of a net. -/
def NetP (F : Nat → Prop) (nb n : Nat) (w w' : World) (B' : Nat → List Pc) : Prop := ∃ F', NetOk F' w' nb n B' ∧ (∀ k, F k → F' k) ∧ (∀ k, F' k → F k ∨ w.heap.size ≤ k) ∧ Touch F w w'
theorem NetP.same {F : Nat → Prop} {nb n : Nat} {w w' : World} {B : Nat → List Pc} (h : NetOk F w nb n B) (hb : Below w.heap.size w w') : NetP F nb n w w' B := ⟨F, h.below hb, fun _ h => h, fun _ h => .inl h, Touch.of_below hb⟩
theorem NetP.back {F : Nat → Prop} {nb n : Nat} {w w1 w' : World} {B : Nat → List Pc} (h : NetP F nb n w1 w' B) (hb : Below w.heap.size w w1) (hF : ∀ k, F k → k < w.heap.size) : NetP F nb n w w' B := by
  obtain ⟨F', h1, h2, h3, h4⟩ := h
  exact ⟨F', h1, h2, fun k hk => (h3 k hk).imp id (fun h => Nat.le_trans hb.size h), Touch.trans (Touch.of_below hb) h4 (fun j h => .inl h)⟩
def putE (B : Nat → List Pc) (i : Nat) : Int := if (B i).length < 256 then 0 else 6
def putN (B : Nat → List Pc) (i : Nat) (x : Pc) : Nat → List Pc := if (B i).length < 256 then upd B i (B i ++ [x]) else B

set_option maxRecDepth 100000 in
set_option maxHeartbeats 4000000 in
theorem bagPut_any (F : Nat → Prop) (nb n : Nat) (B : Nat → List Pc) (bb : Nat) (vs : List Value) (i : Nat) (hi : i < vs.length) (p : List UInt8) (sp : Bool) (w : World) (h : NetIs F w nb n B bb vs) (hp : p.length ≤ 65545) :
    Calls Try.prog 14 #[.pointer (some ⟨bb, i, none⟩), .agg #[.string (txt p), .bool sp]] w fun e w' => e = .returned (.int .i64 (putE B i)) ∧ NetP F nb n w w' (putN B i (p, sp)) := by
  obtain ⟨i0, hin, hz0, hz1, hz2⟩ := info_parts infoPc
  obtain ⟨W0, eW⟩ : ∃ X, X = w.alloc (.cells #[.string (txt p), .bool sp] 50) := ⟨_, rfl⟩
  have hb : Below w.heap.size w W0 := by rw [eW]; exact (Below.refl _ _).alloc (Nat.le_refl _) _
  have HK : Hid (W0.heap[w.heap.size]? = some (.cells #[.string (txt p), .bool sp] 50)) := by rw [eW]; exact heap_alloc_new w _
  have HF : Hid (∀ k, F k → k < w.heap.size) := h.lt
  have HR : Hid (NetIs F W0 nb n B bb vs) := h.below hb
  have HT : Hid (TouchW F w W0) := Touch.of_below hb
  obtain ⟨D, hD⟩ : ∃ D, D = B i := ⟨_, rfl⟩
  obtain ⟨ov, eo⟩ : ∃ ov, vs[i] = ov := ⟨_, rfl⟩
  have HOV : Hid (OwnP 0 W0 ov D) := by rw [← eo, hD]; exact HR.out.hown i hi
  obtain ⟨a, c, ef⟩ := HOV.out.form
  have c0 := HR.out.celli hi
  subst ef
  rw [eo] at c0
  have hlim := h.lim i
  rw [← hD] at hlim
  by_cases hl : D.length < 256
  · have HE : Hid (putE B i = 0) := by show _ = _; unfold putE; rw [← hD, if_pos hl]
    have HB : Hid (putN B i (p, sp) = upd B i (D ++ [(p, sp)])) := by show _ = _; unfold putN; rw [← hD, if_pos hl]
    have HLo : Hid (D.length < 256) := hl
    have HPk : Hid (PcOk (D ++ [(p, sp)])) := ⟨by simp; omega, fun x hx => by
      rcases List.mem_append.1 hx with hx | hx
      · exact hlim.2 x hx
      · rw [List.mem_singleton] at hx; subst hx; exact hp⟩
    have q1 : ¬ (256 : Int) ≤ (D.length : Int) := by omega
    have c1 := c0
    rw [eW] at c1
    clear h hD hlim hb hl c0
    go_enter Try.func14, Try.ntmps14
    go_upto_region 3 with fail
    rw [← eW]
    clear eW c1
    refine wp_region_held_drew (S := fun W' => W'.heap[w.heap.size]? = some (.cells #[.string (txt p), .bool sp] 50)) (by kernel_rfl) HK.out (fun hHeld => ?_)
    obtain ⟨Up1u0, eW⟩ : ∃ X, X = W0.drew := ⟨_, rfl⟩
    have hb : Below W0.heap.size W0 Up1u0 := by rw [eW]; exact (Below.refl _ _).drew
    replace HR : Hid (NetIs F Up1u0 nb n B bb vs) := HR.out.below hb
    replace HT : Hid (TouchW F w Up1u0) := HT.out.below hb
    replace HOV : Hid (OwnP 0 Up1u0 (.slice a D.length c) D) := HOV.out.below hb
    rw [← eW] at hHeld ⊢
    clear eW hb
    refine wpAnyH_take (i := 0) (oi := ⟨some 11, _, _, _, _, _⟩) (v := ?vp1ux0) rfl (by kernel_rfl) (by kernel_rfl) (by kernel_rfl) (fun _ _ _ h => h) (Or.inl ⟨by rfl, ?hyp1ux0⟩) hHeld ?restp1ux0
    case hyp1ux0 => (intro w _; go_simp; try with_reducible rfl)
    simp only [Act.put, List.setIfInBounds_toArray, List.set_cons_zero, List.set_cons_succ]
    refine wpAnyH_take (i := 1) (oi := ⟨some 12, _, _, _, _, _⟩) (v := ?vp1ux1) rfl (by kernel_rfl) (by kernel_rfl) (by kernel_rfl) (fun _ _ _ h => h) (Or.inl ⟨by rfl, ?hyp1ux1⟩) hHeld ?restp1ux1
    case hyp1ux1 => (intro w _; go_simp; try with_reducible rfl)
    simp only [Act.put, List.setIfInBounds_toArray, List.set_cons_zero, List.set_cons_succ]
    refine wpAnyH_take (i := 2) (oi := ⟨some 13, _, _, _, _, _⟩) (v := ?vp1ux2) rfl (by kernel_rfl) (by kernel_rfl) (by kernel_rfl) (fun _ _ _ h => h) (Or.inl ⟨by rfl, ?hyp1ux2⟩) hHeld ?restp1ux2
    case hyp1ux2 => (intro w hSw; (try dsimp only at hSw); have hk := hSw; obtain ⟨k_0, k_1⟩ := pc_cells hk; go_simp; try with_reducible rfl)
    simp only [Act.put, List.setIfInBounds_toArray, List.set_cons_zero, List.set_cons_succ]
    refine wpAnyH_take (i := 3) (oi := ⟨some 14, _, _, _, _, _⟩) (v := ?vp1ux3) rfl (by kernel_rfl) (by kernel_rfl) (by kernel_rfl) (fun _ _ _ h => h) (Or.inl ⟨by rfl, ?hyp1ux3⟩) hHeld ?restp1ux3
    case hyp1ux3 => (intro w _; go_simp; try with_reducible rfl)
    simp only [Act.put, List.setIfInBounds_toArray, List.set_cons_zero, List.set_cons_succ]
    refine wpAnyH_take (i := 5) (oi := ⟨some 16, _, _, _, _, _⟩) (v := ?vp1ux5) rfl (by kernel_rfl) (by kernel_rfl) (by kernel_rfl) (fun _ _ _ h => h) (Or.inl ⟨by rfl, ?hyp1ux5⟩) hHeld ?restp1ux5
    case hyp1ux5 => (intro w hSw; (try dsimp only at hSw); have hk := hSw; obtain ⟨k_0, k_1⟩ := pc_cells hk; go_simp; try with_reducible rfl)
    simp only [Act.put, List.setIfInBounds_toArray, List.set_cons_zero, List.set_cons_succ]
    refine wpAnyH_ready (rs := [4, 6]) (by kernel_rfl) (by simp) ?_
    refine AllReadyH.cons (o := ⟨some 15, _, _, _, _, _⟩) rfl (fun K hK => ?_) (AllReadyH.cons (o := ⟨some 17, _, _, _, _, _⟩) rfl (fun K hK => ?_) AllReadyH.nil)
    · have xo := HR.out.celli hi
      rw [eo] at xo
      go_simp
      refine hK.out _ _ (hHeld) (fun hHeld2 => ?_)
      clear hK K hHeld
      have hHeld := hHeld2
      clear hHeld2
      (try simp only [Act.put, List.setIfInBounds_toArray, List.set_cons_zero, List.set_cons_succ])
      clear xo
      refine wpAnyH_ready (rs := [6]) (by kernel_rfl) (by simp) ?_
      refine AllReadyH.cons (o := ⟨some 17, _, _, _, _, _⟩) rfl (fun K hK => ?_) AllReadyH.nil
      have hW : w.heap.size < Up1u0.heap.size := row_lt hHeld
      go_simp
      refine hK.out _ _ ((Below.block ((Below.refl _ Up1u0).alloc (Nat.le_refl _) _) _ (row_lt hHeld)).trans hHeld) (fun hHeld2 => ?_)
      clear hK K hHeld
      have hHeld := hHeld2
      clear hHeld2
      (try simp only [Act.put, List.setIfInBounds_toArray, List.set_cons_zero, List.set_cons_succ])
      obtain ⟨Up1u2, eW⟩ : ∃ X, X = Up1u0.alloc (.cells #[.string (txt p), .bool sp] 50) := ⟨_, rfl⟩
      have hb : Below Up1u0.heap.size Up1u0 Up1u2 := by rw [eW]; exact (Below.refl _ _).alloc (Nat.le_refl _) _
      replace HR : Hid (NetIs F Up1u2 nb n B bb vs) := HR.out.below hb
      replace HT : Hid (TouchW F w Up1u2) := HT.out.below hb
      replace HOV : Hid (OwnP 0 Up1u2 (.slice a D.length c) D) := HOV.out.below hb
      have HV : Hid (RowP Up1u0.heap.size p sp Up1u2) := by rw [eW]; exact ⟨heap_alloc_new _ _⟩
      rw [← eW] at hHeld ⊢
      clear eW
      obtain ⟨vb, evb⟩ : ∃ vb, vb = Up1u0.heap.size := ⟨_, rfl⟩
      rw [← evb] at HV hW ⊢
      clear evb
      clear hb
      refine wpAnyH_ready (rs := [7]) (by kernel_rfl) (by simp) ?_
      refine AllReadyH.cons (o := ⟨some 18, _, _, _, _, _⟩) rfl (fun K hK => ?_) AllReadyH.nil
      refine step_append_lies _ (by rfl) _ _ 45 (by rfl) 0 50 i0 (.agg #[.string ⟨#[]⟩, .bool false]) 2 24 Try.underlying45 hin hz0 hz1 hz2 rfl (by decide) (.slice a D.length c) D.length (flatP D) (by rfl) HOV.out ⟨vb, 0, none⟩ 1 1 [.string (txt p), .bool sp] (by rfl) rfl (fun j u hj => by rw [Addr.add_lit, cell_of_row _ vb _ _ _ _ HV.out.out]; simpa using hj) (fun x hx => by simp at hx; rcases hx with rfl | rfl <;> rfl) (by decide) (by have := HLo.out; unfold maxLen; omega) (by have := HLo.out; omega) (Nat.zero_le _) Up1u2.heap.size rfl ?_
      intro g3 c3 Up1u3 hown3 hgrow3 hat3 hlt3
      have HV3 : Hid (OwnP 0 Up1u3 (Value.slice (some ⟨g3, 0, none⟩) (D.length + 1) c3) (D ++ [(p, sp)])) := OwnP.snoc (x := (p, sp)) hown3
      have HG3 : Hid (Up1u2.grownBy Up1u3 vs[i].ownBlock) := by rw [eo]; exact hgrow3
      have HA3 : Hid ((Value.slice (some ⟨g3, 0, none⟩) (D.length + 1) c3).ownBlock = vs[i].ownBlock ∨ ∃ k, (Value.slice (some ⟨g3, 0, none⟩) (D.length + 1) c3).ownBlock = some k ∧ Up1u2.heap.size ≤ k) := by rw [eo]; exact hat3.imp (fun e => e.symm) (fun e => ⟨g3, rfl, Nat.le_of_eq e.symm⟩)
      have HR2 : Hid (NetIs F Up1u2 nb n B bb vs) := HR.out
      have HT2 : Hid (TouchW F w Up1u2) := HT.out
      have hbl : w.heap.size ≠ bb := fun e => by have h1 := HF.out bb HR.out.fb; omega
      clear hown3 hgrow3 hat3 hlt3
      refine hK.out _ _ ((HG3.out.block _ (row_lt hHeld) (fun e => by have h1 := HF.out _ (HR2.out.fr i hi _ e.symm); omega)).trans hHeld) (fun hHeld2 => ?_)
      clear hK K hHeld
      have hHeld := hHeld2
      clear hHeld2
      (try simp only [Act.put, List.setIfInBounds_toArray, List.set_cons_zero, List.set_cons_succ])
      clear HV HT HR HOV
      refine wpAnyH_take (i := 8) (oi := ⟨some 19, _, _, _, _, _⟩) (v := ?vp1u_4_6_7x8) rfl (by kernel_rfl) (by kernel_rfl) (by kernel_rfl) (fun _ _ _ h => h) (Or.inl ⟨by rfl, ?hyp1u_4_6_7x8⟩) hHeld ?restp1u_4_6_7x8
      case hyp1u_4_6_7x8 => (intro w hSw; (try dsimp only at hSw); have hk := hSw; obtain ⟨k_0, k_1⟩ := pc_cells hk; go_simp; try with_reducible rfl)
      simp only [Act.put, List.setIfInBounds_toArray, List.set_cons_zero, List.set_cons_succ]
      refine wpAnyH_take (i := 9) (oi := ⟨some 20, _, _, _, _, _⟩) (v := ?vp1u_4_6_7x9) rfl (by kernel_rfl) (by kernel_rfl) (by kernel_rfl) (fun _ _ _ h => h) (Or.inl ⟨by rfl, ?hyp1u_4_6_7x9⟩) hHeld ?restp1u_4_6_7x9
      case hyp1u_4_6_7x9 => (intro w _; go_simp; try with_reducible rfl)
      simp only [Act.put, List.setIfInBounds_toArray, List.set_cons_zero, List.set_cons_succ]
      refine wpAnyH_ready (rs := [10]) (by kernel_rfl) (by simp) ?_
      refine AllReadyH.cons (o := ⟨none, _, _, _, _, _⟩) rfl (fun K hK => ?_) AllReadyH.nil
      have hcl := (HG3.out.cell_far ⟨bb, i, none⟩ (HR2.out.lt _ HR2.out.fb) (fun e => HR2.out.ne.2.1 i hi e.symm)).trans (HR2.out.celli hi)
      rw [eo] at hcl
      have hfz : Up1u3.frozen? ⟨bb, i, none⟩ = false := by rw [World.frozen?_of_block (HG3.out.block bb (HR2.out.lt _ HR2.out.fb) (fun e => HR2.out.ne.2.1 i hi e.symm))]; exact HR2.out.free _
      go_simp
      refine hK.out _ _ ((RowKit.Below.heap_setCell _ _ _ _ hbl).trans hHeld) (fun hHeld2 => ?_)
      clear hK K hHeld
      have hHeld := hHeld2
      clear hHeld2
      (try simp only [Act.put, List.setIfInBounds_toArray, List.set_cons_zero, List.set_cons_succ])
      have HS := HR2.out.store hi HG3.out HV3.out HA3.out HPk.out
      have HS1 : Hid _ := HS.1
      have HS2 : Hid _ := HS.2
      clear HS hcl hfz HG3 HV3
      refine wpAnyH_done (by kernel_rfl) ?_ _
      clear hHeld
      go_wp2
      go_ret
      refine ⟨by rw [HE.out]; rfl, ?_⟩
      rw [HB.out]
      refine ⟨_, ⟨bb, _, HS1.out⟩, fun k h => .inl h, fun k h => ?_, ?_⟩
      · rcases h with h | h
        · exact .inl h
        · rcases HA3.out with h3 | ⟨k2, h3, h4⟩
          · exact .inl (HR2.out.fr i hi k (by rw [← h3]; exact h))
          · rw [h] at h3; cases h3; exact .inr (Nat.le_trans HT2.out.size h4)
      · exact Touch.trans HT2.out HS2.out (fun j h => .inl h)
    · have hW : w.heap.size < Up1u0.heap.size := row_lt hHeld
      go_simp
      refine hK.out _ _ ((Below.block ((Below.refl _ Up1u0).alloc (Nat.le_refl _) _) _ (row_lt hHeld)).trans hHeld) (fun hHeld2 => ?_)
      clear hK K hHeld
      have hHeld := hHeld2
      clear hHeld2
      (try simp only [Act.put, List.setIfInBounds_toArray, List.set_cons_zero, List.set_cons_succ])
      obtain ⟨Up1u5, eW⟩ : ∃ X, X = Up1u0.alloc (.cells #[.string (txt p), .bool sp] 50) := ⟨_, rfl⟩
      have hb : Below Up1u0.heap.size Up1u0 Up1u5 := by rw [eW]; exact (Below.refl _ _).alloc (Nat.le_refl _) _
      replace HR : Hid (NetIs F Up1u5 nb n B bb vs) := HR.out.below hb
      replace HT : Hid (TouchW F w Up1u5) := HT.out.below hb
      replace HOV : Hid (OwnP 0 Up1u5 (.slice a D.length c) D) := HOV.out.below hb
      have HV : Hid (RowP Up1u0.heap.size p sp Up1u5) := by rw [eW]; exact ⟨heap_alloc_new _ _⟩
      rw [← eW] at hHeld ⊢
      clear eW
      obtain ⟨vb, evb⟩ : ∃ vb, vb = Up1u0.heap.size := ⟨_, rfl⟩
      rw [← evb] at HV hW ⊢
      clear evb
      clear hb
      refine wpAnyH_ready (rs := [4]) (by kernel_rfl) (by simp) ?_
      refine AllReadyH.cons (o := ⟨some 15, _, _, _, _, _⟩) rfl (fun K hK => ?_) AllReadyH.nil
      have xo := HR.out.celli hi
      rw [eo] at xo
      go_simp
      refine hK.out _ _ (hHeld) (fun hHeld2 => ?_)
      clear hK K hHeld
      have hHeld := hHeld2
      clear hHeld2
      (try simp only [Act.put, List.setIfInBounds_toArray, List.set_cons_zero, List.set_cons_succ])
      clear xo
      refine wpAnyH_ready (rs := [7]) (by kernel_rfl) (by simp) ?_
      refine AllReadyH.cons (o := ⟨some 18, _, _, _, _, _⟩) rfl (fun K hK => ?_) AllReadyH.nil
      refine step_append_lies _ (by rfl) _ _ 45 (by rfl) 0 50 i0 (.agg #[.string ⟨#[]⟩, .bool false]) 2 24 Try.underlying45 hin hz0 hz1 hz2 rfl (by decide) (.slice a D.length c) D.length (flatP D) (by rfl) HOV.out ⟨vb, 0, none⟩ 1 1 [.string (txt p), .bool sp] (by rfl) rfl (fun j u hj => by rw [Addr.add_lit, cell_of_row _ vb _ _ _ _ HV.out.out]; simpa using hj) (fun x hx => by simp at hx; rcases hx with rfl | rfl <;> rfl) (by decide) (by have := HLo.out; unfold maxLen; omega) (by have := HLo.out; omega) (Nat.zero_le _) Up1u5.heap.size rfl ?_
      intro g3 c3 Up1u7 hown3 hgrow3 hat3 hlt3
      have HV3 : Hid (OwnP 0 Up1u7 (Value.slice (some ⟨g3, 0, none⟩) (D.length + 1) c3) (D ++ [(p, sp)])) := OwnP.snoc (x := (p, sp)) hown3
      have HG3 : Hid (Up1u5.grownBy Up1u7 vs[i].ownBlock) := by rw [eo]; exact hgrow3
      have HA3 : Hid ((Value.slice (some ⟨g3, 0, none⟩) (D.length + 1) c3).ownBlock = vs[i].ownBlock ∨ ∃ k, (Value.slice (some ⟨g3, 0, none⟩) (D.length + 1) c3).ownBlock = some k ∧ Up1u5.heap.size ≤ k) := by rw [eo]; exact hat3.imp (fun e => e.symm) (fun e => ⟨g3, rfl, Nat.le_of_eq e.symm⟩)
      have HR2 : Hid (NetIs F Up1u5 nb n B bb vs) := HR.out
      have HT2 : Hid (TouchW F w Up1u5) := HT.out
      have hbl : w.heap.size ≠ bb := fun e => by have h1 := HF.out bb HR.out.fb; omega
      clear hown3 hgrow3 hat3 hlt3
      refine hK.out _ _ ((HG3.out.block _ (row_lt hHeld) (fun e => by have h1 := HF.out _ (HR2.out.fr i hi _ e.symm); omega)).trans hHeld) (fun hHeld2 => ?_)
      clear hK K hHeld
      have hHeld := hHeld2
      clear hHeld2
      (try simp only [Act.put, List.setIfInBounds_toArray, List.set_cons_zero, List.set_cons_succ])
      clear HV HT HR HOV
      refine wpAnyH_take (i := 8) (oi := ⟨some 19, _, _, _, _, _⟩) (v := ?vp1u_6_4_7x8) rfl (by kernel_rfl) (by kernel_rfl) (by kernel_rfl) (fun _ _ _ h => h) (Or.inl ⟨by rfl, ?hyp1u_6_4_7x8⟩) hHeld ?restp1u_6_4_7x8
      case hyp1u_6_4_7x8 => (intro w hSw; (try dsimp only at hSw); have hk := hSw; obtain ⟨k_0, k_1⟩ := pc_cells hk; go_simp; try with_reducible rfl)
      simp only [Act.put, List.setIfInBounds_toArray, List.set_cons_zero, List.set_cons_succ]
      refine wpAnyH_take (i := 9) (oi := ⟨some 20, _, _, _, _, _⟩) (v := ?vp1u_6_4_7x9) rfl (by kernel_rfl) (by kernel_rfl) (by kernel_rfl) (fun _ _ _ h => h) (Or.inl ⟨by rfl, ?hyp1u_6_4_7x9⟩) hHeld ?restp1u_6_4_7x9
      case hyp1u_6_4_7x9 => (intro w _; go_simp; try with_reducible rfl)
      simp only [Act.put, List.setIfInBounds_toArray, List.set_cons_zero, List.set_cons_succ]
      refine wpAnyH_ready (rs := [10]) (by kernel_rfl) (by simp) ?_
      refine AllReadyH.cons (o := ⟨none, _, _, _, _, _⟩) rfl (fun K hK => ?_) AllReadyH.nil
      have hcl := (HG3.out.cell_far ⟨bb, i, none⟩ (HR2.out.lt _ HR2.out.fb) (fun e => HR2.out.ne.2.1 i hi e.symm)).trans (HR2.out.celli hi)
      rw [eo] at hcl
      have hfz : Up1u7.frozen? ⟨bb, i, none⟩ = false := by rw [World.frozen?_of_block (HG3.out.block bb (HR2.out.lt _ HR2.out.fb) (fun e => HR2.out.ne.2.1 i hi e.symm))]; exact HR2.out.free _
      go_simp
      refine hK.out _ _ ((RowKit.Below.heap_setCell _ _ _ _ hbl).trans hHeld) (fun hHeld2 => ?_)
      clear hK K hHeld
      have hHeld := hHeld2
      clear hHeld2
      (try simp only [Act.put, List.setIfInBounds_toArray, List.set_cons_zero, List.set_cons_succ])
      have HS := HR2.out.store hi HG3.out HV3.out HA3.out HPk.out
      have HS1 : Hid _ := HS.1
      have HS2 : Hid _ := HS.2
      clear HS hcl hfz HG3 HV3
      refine wpAnyH_done (by kernel_rfl) ?_ _
      clear hHeld
      go_wp2
      go_ret
      refine ⟨by rw [HE.out]; rfl, ?_⟩
      rw [HB.out]
      refine ⟨_, ⟨bb, _, HS1.out⟩, fun k h => .inl h, fun k h => ?_, ?_⟩
      · rcases h with h | h
        · exact .inl h
        · rcases HA3.out with h3 | ⟨k2, h3, h4⟩
          · exact .inl (HR2.out.fr i hi k (by rw [← h3]; exact h))
          · rw [h] at h3; cases h3; exact .inr (Nat.le_trans HT2.out.size h4)
      · exact Touch.trans HT2.out HS2.out (fun j h => .inl h)
  · have HE : Hid (putE B i = 6) := by show _ = _; unfold putE; rw [← hD, if_neg hl]
    have HB : Hid (putN B i (p, sp) = B) := by show _ = _; unfold putN; rw [← hD, if_neg hl]
    have HN : Hid (NetP F nb n w W0 B) := NetP.same ⟨bb, vs, h⟩ hb
    have q1 : (256 : Int) ≤ (D.length : Int) := by omega
    rw [eW] at c0 HN
    clear h hD hlim hb HR HT HOV HK
    go_enter Try.func14, Try.ntmps14
    go_wp2
    go_ret
    exact ⟨by rw [HE.out]; rfl, by rw [HB.out]; exact HN.out⟩

end Go.Proofs.Ytlcnfoljkcfplaa
