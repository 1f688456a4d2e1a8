/- The document's put. -/
import Derived.Test.YthndgmnckpimmaaCaJ
import Derived.Maps.AppendAt
import Derived.Test.YthndgmnckpimmaaCaN
import Derived.Deep.MidRow
import Derived.Test.YthndgmnckpimmaaCaG
namespace Go.Proofs.Ythndgmnckpimmaa
open Go.RowKit
set_option linter.unusedVariables false
set_option linter.unusedSimpArgs false

theorem PutB.push2 {G : Nat → Prop} {w : World} {v ov dv : Value} {E : List (Ch × Value)} {U U' : World} {c : Ch} (h : PutB G w ov E U) (hown : OwnH (w.heap.size + 1) U' v (E ++ [(c, dv)])) (hg : U.grownBy U' ov.ownBlock) (hd : IsG G U dv c.deps ∨ OwnI (w.heap.size + 1) U dv c.deps) (hs : Sized c ∧ c.deps.length ≤ 17592186044416) : PutB G w v (E ++ [(c, dv)]) U' := by
  refine h.push ?_ hg hd hs
  have := hown
  unfold OwnH at this
  rw [flatH_snoc, List.length_append] at this
  exact this
theorem insC_cons (d : Ch) (t : List Ch) (c : Ch) : insC (d :: t) c = if ltC c d then c :: d :: t else d :: insC t c := rfl
theorem insC_length (L : List Ch) (c : Ch) : (insC L c).length = L.length + 1 := by have := (insC_perm c L).length_eq; simpa using this
theorem drop_at {L : List Ch} {k : Nat} (h : k < L.length) : L.drop k = L[k] :: L.drop (k + 1) := by rw [List.drop_eq_getElem_cons h]
theorem ltC_bef (c d : Ch) : (lessS c.ac c.ar d.ac d.ar || (decide (c.ac = d.ac ∧ c.ar = d.ar) && decide (c.seq < d.seq))) = decide (ltC c d) := by
  have h1 : (lessS c.ac c.ar d.ac d.ar || (decide (c.ac = d.ac ∧ c.ar = d.ar) && decide (c.seq < d.seq))) = true ↔ ltC c d := by
    unfold ltC lessS
    simp only [Bool.or_eq_true, Bool.and_eq_true, decide_eq_true_eq]
    constructor
    · rintro ((h | h) | h)
      · exact .inl h
      · exact .inr ⟨h.1, .inl h.2⟩
      · exact .inr ⟨h.1.1, .inr ⟨h.1.2, h.2⟩⟩
    · rintro (h | ⟨h, h2 | h2⟩)
      · exact .inl (.inl h)
      · exact .inl (.inr ⟨h, h2⟩)
      · exact .inr ⟨⟨h, h2.1⟩, h2.2⟩
  rw [Bool.eq_iff_iff, h1, decide_eq_true_iff]

set_option maxRecDepth 100000 in
set_option maxHeartbeats 8000000 in
theorem refPut_any (G : Nat → Prop) (v : Value) (L : List Ch) (ac ar sq : Int) (dv : Value) (kd nc nr pc pr fc fr : Int) (nm vl : ByteArray) (ds : List Int) (w : World) (h1 : HFirm G w v L) (hd : IsG G w dv ds) (hsz : Sized (⟨ac, ar, sq, ds, kd, nc, nr, pc, pr, fc, fr, nm, vl⟩ : Ch)) (hll : L.length ≤ 4000) :
    Calls Try.prog 30 #[v, .agg #[.int .i64 ac, .int .i64 ar, .int .i64 sq, dv, .int .i64 kd, .int .i64 nc, .int .i64 nr, .int .i64 pc, .int .i64 pr, .int .i64 fc, .int .i64 fr, .string nm, .string vl]] w fun e w' => ∃ v', e = .returned v' ∧ HFirm (fun k => G k ∨ (w.heap.size ≤ k ∧ k < w'.heap.size)) w' v' (insC L (⟨ac, ar, sq, ds, kd, nc, nr, pc, pr, fc, fr, nm, vl⟩ : Ch)) ∧ Below w.heap.size w w' := by
  have HGl : Hid (∀ k, G k → k < w.heap.size) := h1.1
  obtain ⟨a1, c1, rfl, hc1, h1⟩ := h1.one
  have H1 : Hid (∀ i (hi : i < L.length), ∃ b o a2 e2, a1 = some ⟨b, o, none⟩ ∧ IsG G w (.slice a2 L[i].deps.length e2) L[i].deps ∧ Sized L[i] ∧ ∀ W', KeepsS G w W' → ∀ j u, (chCells L[i] (.slice a2 L[i].deps.length e2))[j]? = some u → W'.cell? ⟨b, o + i * 13 + j, none⟩ = some u) := h1
  have HGc : Hid (IsG G w dv ds) := hd
  obtain ⟨a0, c0, rfl, _, hdl, _⟩ := hd
  have HZ : Hid (Sized (⟨ac, ar, sq, ds, kd, nc, nr, pc, pr, fc, fr, nm, vl⟩ : Ch) ∧ ds.length ≤ 17592186044416) := ⟨hsz, hdl⟩
  have K0 := KeptC.start w [.int .i64 ac, .int .i64 ar, .int .i64 sq, .slice a0 ds.length c0, .int .i64 kd, .int .i64 nc, .int .i64 nr, .int .i64 pc, .int .i64 pr, .int .i64 fc, .int .i64 fr, .string nm, .string vl] 35
  obtain ⟨W0, eW⟩ : ∃ X, X = (w.alloc (.cells #[.int .i64 ac, .int .i64 ar, .int .i64 sq, .slice a0 ds.length c0, .int .i64 kd, .int .i64 nc, .int .i64 nr, .int .i64 pc, .int .i64 pr, .int .i64 fc, .int .i64 fr, .string nm, .string vl] 35)).alloc (.cells #[] 35) := ⟨_, rfl⟩
  have HK : Hid (KeptC w w.heap.size [.int .i64 ac, .int .i64 ar, .int .i64 sq, .slice a0 ds.length c0, .int .i64 kd, .int .i64 nc, .int .i64 nr, .int .i64 pc, .int .i64 pr, .int .i64 fc, .int .i64 fr, .string nm, .string vl] W0) := by rw [eW]; exact K0.step ((Below.refl _ _).alloc (Nat.le_refl _) _)
  have HP0 : Hid (PutB G w (.slice (some ⟨w.heap.size + 1, 0, none⟩) 0 0) [] W0) := by
    refine ⟨?_, fun x hx => by simp at hx, HK.out.2.2, HGl.out⟩
    rw [eW]
    have := World.ownsRow_made (w.alloc (.cells #[.int .i64 ac, .int .i64 ar, .int .i64 sq, .slice a0 ds.length c0, .int .i64 kd, .int .i64 nc, .int .i64 nr, .int .i64 pc, .int .i64 pr, .int .i64 fc, .int .i64 fr, .string nm, .string vl] 35)) (e := 35) (size := 13) (base := w.heap.size + 1) #[] 0 (by simp) (by unfold maxLen; omega) (by simp)
    rw [show (w.alloc (.cells #[.int .i64 ac, .int .i64 ar, .int .i64 sq, .slice a0 ds.length c0, .int .i64 kd, .int .i64 nc, .int .i64 nr, .int .i64 pc, .int .i64 pr, .int .i64 fc, .int .i64 fr, .string nm, .string vl] 35)).heap.size = w.heap.size + 1 by simp] at this
    exact this
  clear K0 h1 hsz hdl
  go_enter Try.func30, Try.ntmps30
  go_wp2
  rw [← eW]
  clear eW
  go_loopw [5, 6, 7] (fun ov dv iv wr => ∃ (k : Nat) (E : List (Ch × Value)) (dn : Bool), k ≤ L.length ∧ iv = .int .i64 (k : Int) ∧ dv = .bool dn ∧ Hid (KeptC w w.heap.size [.int .i64 ac, .int .i64 ar, .int .i64 sq, .slice a0 ds.length c0, .int .i64 kd, .int .i64 nc, .int .i64 nr, .int .i64 pc, .int .i64 pr, .int .i64 fc, .int .i64 fr, .string nm, .string vl] wr) ∧ Hid (PutB G w ov E wr) ∧ Hid (insC L (⟨ac, ar, sq, ds, kd, nc, nr, pc, pr, fc, fr, nm, vl⟩ : Ch) = E.map Prod.fst ++ (if dn = true then L.drop k else insC (L.drop k) (⟨ac, ar, sq, ds, kd, nc, nr, pc, pr, fc, fr, nm, vl⟩ : Ch)))) (fun _ _ iv _ => L.length - (intOf iv).toNat)
  case atStart => exact ⟨0, [], false, Nat.zero_le _, rfl, rfl, HK, HP0, (rfl : insC L (⟨ac, ar, sq, ds, kd, nc, nr, pc, pr, fc, fr, nm, vl⟩ : Ch) = _)⟩
  case round =>
    obtain ⟨k, E, dn, hk, rfl, rfl, HK2, HP, HS⟩ := hrel
    obtain ⟨aw, cw, eo⟩ := HP.out.own.form
    subst eo
    have hEl : E.length ≤ 4001 := by
      have h2 := congrArg List.length HS.out
      rw [insC_length, List.length_append, List.length_map] at h2
      omega
    by_cases hlt : k < L.length
    · have hdr := drop_at hlt
      obtain ⟨b1, o1, a2, c2, rfl, hg2, hz2', hcl⟩ := H1.out k hlt
      have k1 : (k : Int) < (L.length : Int) := by omega
      have k0 : (0 : Int) ≤ (k : Int) := by omega
      obtain ⟨⟨ac2, ar2, sq2, ds2, kd2, nc2, nr2, pc2, pr2, fc2, fr2, nm2, vl2⟩, ec2⟩ : ∃ c, c = L[k] := ⟨_, rfl⟩
      rw [← ec2] at hg2 hz2' hcl hdr
      have HG2 : Hid (IsG G w (Value.slice a2 ds2.length c2) ds2) := hg2
      have HZ2 : Hid (Sized (⟨ac2, ar2, sq2, ds2, kd2, nc2, nr2, pc2, pr2, fc2, fr2, nm2, vl2⟩ : Ch) ∧ ds2.length ≤ 17592186044416) := ⟨hz2', by obtain ⟨_, _, _, _, h, _⟩ := hg2; exact h⟩
      have HC : Hid (∀ W', Below w.heap.size w W' → W'.cell? ⟨b1, o1 + k * 13, none⟩ = some (.int .i64 ac2) ∧ W'.cell? ⟨b1, o1 + k * 13 + 1, none⟩ = some (.int .i64 ar2) ∧ W'.cell? ⟨b1, o1 + k * 13 + 2, none⟩ = some (.int .i64 sq2) ∧ W'.cell? ⟨b1, o1 + k * 13 + 3, none⟩ = some (.slice a2 ds2.length c2) ∧ W'.cell? ⟨b1, o1 + k * 13 + 4, none⟩ = some (.int .i64 kd2) ∧ W'.cell? ⟨b1, o1 + k * 13 + 5, none⟩ = some (.int .i64 nc2) ∧ W'.cell? ⟨b1, o1 + k * 13 + 6, none⟩ = some (.int .i64 nr2) ∧ W'.cell? ⟨b1, o1 + k * 13 + 7, none⟩ = some (.int .i64 pc2) ∧ W'.cell? ⟨b1, o1 + k * 13 + 8, none⟩ = some (.int .i64 pr2) ∧ W'.cell? ⟨b1, o1 + k * 13 + 9, none⟩ = some (.int .i64 fc2) ∧ W'.cell? ⟨b1, o1 + k * 13 + 10, none⟩ = some (.int .i64 fr2) ∧ W'.cell? ⟨b1, o1 + k * 13 + 11, none⟩ = some (.string nm2) ∧ W'.cell? ⟨b1, o1 + k * 13 + 12, none⟩ = some (.string vl2)) := fun W' hb => chAll (hcl W' (KeepsS.of_below hb HGl.out))
      obtain ⟨lt, hlt2⟩ : ∃ b, b = (lessS ac ar ac2 ar2 || (decide (ac = ac2 ∧ ar = ar2) && decide (sq < sq2))) := ⟨_, rfl⟩
      have HLq : Hid (lt = (lessS ac ar ac2 ar2 || (decide (ac = ac2 ∧ ar = ar2) && decide (sq < sq2)))) := hlt2
      have HSp : Hid (insC L (⟨ac, ar, sq, ds, kd, nc, nr, pc, pr, fc, fr, nm, vl⟩ : Ch) = E.map Prod.fst ++ (if dn = true then (⟨ac2, ar2, sq2, ds2, kd2, nc2, nr2, pc2, pr2, fc2, fr2, nm2, vl2⟩ : Ch) :: L.drop (k + 1) else if lt = true then (⟨ac, ar, sq, ds, kd, nc, nr, pc, pr, fc, fr, nm, vl⟩ : Ch) :: (⟨ac2, ar2, sq2, ds2, kd2, nc2, nr2, pc2, pr2, fc2, fr2, nm2, vl2⟩ : Ch) :: L.drop (k + 1) else (⟨ac2, ar2, sq2, ds2, kd2, nc2, nr2, pc2, pr2, fc2, fr2, nm2, vl2⟩ : Ch) :: insC (L.drop (k + 1)) (⟨ac, ar, sq, ds, kd, nc, nr, pc, pr, fc, fr, nm, vl⟩ : Ch))) := by
        have h2 := HS.out
        rw [hdr, insC_cons] at h2
        have h3 := ltC_bef (⟨ac, ar, sq, ds, kd, nc, nr, pc, pr, fc, fr, nm, vl⟩ : Ch) (⟨ac2, ar2, sq2, ds2, kd2, nc2, nr2, pc2, pr2, fc2, fr2, nm2, vl2⟩ : Ch)
        simp only at h3
        rw [hlt2, h3]
        simp only [decide_eq_true_eq]
        exact h2
      clear ec2 hg2 hz2' hcl hdr hlt2 HS
      cases dn
      · go_upto_region 6 with fail
        refine wp_region_held_drew (S := fun W' => KeptC w w.heap.size [.int .i64 ac, .int .i64 ar, .int .i64 sq, .slice a0 ds.length c0, .int .i64 kd, .int .i64 nc, .int .i64 nr, .int .i64 pc, .int .i64 pr, .int .i64 fc, .int .i64 fr, .string nm, .string vl] W') (by kernel_rfl) HK2.out.drew (fun hHeld => ?_)
        obtain ⟨Ub4u0, eW⟩ : ∃ X, X = wr.drew := ⟨_, rfl⟩
        have hb : Below wr.heap.size wr Ub4u0 := by rw [eW]; exact (Below.refl _ _).drew
        replace HP : Hid (PutB G w (.slice aw E.length cw) E Ub4u0) := HP.out.below hb
        rw [← eW] at hHeld ⊢
        clear eW hb
        refine wpAnyH_take (i := 0) (oi := ⟨some 15, _, _, _, _, _⟩) (v := ?vb4ux0) rfl (by kernel_rfl) (by kernel_rfl) (by kernel_rfl) (fun _ _ _ h => h) (Or.inl ⟨by rfl, ?hyb4ux0⟩) hHeld ?restb4ux0
        case hyb4ux0 => (intro w _; go_simp; try with_reducible rfl)
        simp only [Act.put, List.setIfInBounds_toArray, List.set_cons_zero, List.set_cons_succ]
        refine wpAnyH_take (i := 1) (oi := ⟨some 16, _, _, _, _, _⟩) (v := ?vb4ux1) rfl (by kernel_rfl) (by kernel_rfl) (by kernel_rfl) (fun _ _ _ h => h) (Or.inl ⟨by rfl, ?hyb4ux1⟩) hHeld ?restb4ux1
        case hyb4ux1 => (intro w _; go_simp; try with_reducible rfl)
        simp only [Act.put, List.setIfInBounds_toArray, List.set_cons_zero, List.set_cons_succ]
        refine wpAnyH_take (i := 2) (oi := ⟨some 17, _, _, _, _, _⟩) (v := ?vb4ux2) rfl (by kernel_rfl) (by kernel_rfl) (by kernel_rfl) (fun _ _ _ h => h) (Or.inl ⟨by rfl, ?hyb4ux2⟩) hHeld ?restb4ux2
        case hyb4ux2 => (intro w _; go_simp; try with_reducible rfl)
        simp only [Act.put, List.setIfInBounds_toArray, List.set_cons_zero, List.set_cons_succ]
        refine wpAnyH_take (i := 3) (oi := ⟨some 18, _, _, _, _, _⟩) (v := ?vb4ux3) rfl (by kernel_rfl) (by kernel_rfl) (by kernel_rfl) (fun _ _ _ h => h) (Or.inl ⟨by rfl, ?hyb4ux3⟩) hHeld ?restb4ux3
        case hyb4ux3 => (intro w hSw; (try dsimp only at hSw); have hk := hSw; obtain ⟨k_0, k_1, k_2, k_3, k_4, k_5, k_6, k_7, k_8, k_9, k_10, k_11, k_12⟩ := hk.all; obtain ⟨p_0, p_1, p_2, p_3, p_4, p_5, p_6, p_7, p_8, p_9, p_10, p_11, p_12⟩ := HC.out _ hk.2.2; go_simp; try with_reducible rfl)
        simp only [Act.put, List.setIfInBounds_toArray, List.set_cons_zero, List.set_cons_succ]
        refine wpAnyH_take (i := 4) (oi := ⟨some 19, _, _, _, _, _⟩) (v := ?vb4ux4) rfl (by kernel_rfl) (by kernel_rfl) (by kernel_rfl) (fun _ _ _ h => h) (Or.inl ⟨by rfl, ?hyb4ux4⟩) hHeld ?restb4ux4
        case hyb4ux4 => (intro w _; go_simp; try with_reducible rfl)
        simp only [Act.put, List.setIfInBounds_toArray, List.set_cons_zero, List.set_cons_succ]
        refine wpAnyH_take (i := 5) (oi := ⟨some 20, _, _, _, _, _⟩) (v := ?vb4ux5) rfl (by kernel_rfl) (by kernel_rfl) (by kernel_rfl) (fun _ _ _ h => h) (Or.inl ⟨by rfl, ?hyb4ux5⟩) hHeld ?restb4ux5
        case hyb4ux5 => (intro w _; go_simp; try with_reducible rfl)
        simp only [Act.put, List.setIfInBounds_toArray, List.set_cons_zero, List.set_cons_succ]
        refine wpAnyH_take (i := 6) (oi := ⟨some 21, _, _, _, _, _⟩) (v := ?vb4ux6) rfl (by kernel_rfl) (by kernel_rfl) (by kernel_rfl) (fun _ _ _ h => h) (Or.inl ⟨by rfl, ?hyb4ux6⟩) hHeld ?restb4ux6
        case hyb4ux6 => (intro w hSw; (try dsimp only at hSw); have hk := hSw; obtain ⟨k_0, k_1, k_2, k_3, k_4, k_5, k_6, k_7, k_8, k_9, k_10, k_11, k_12⟩ := hk.all; obtain ⟨p_0, p_1, p_2, p_3, p_4, p_5, p_6, p_7, p_8, p_9, p_10, p_11, p_12⟩ := HC.out _ hk.2.2; go_simp; try with_reducible rfl)
        simp only [Act.put, List.setIfInBounds_toArray, List.set_cons_zero, List.set_cons_succ]
        refine wpAnyH_take (i := 7) (oi := ⟨some 22, _, _, _, _, _⟩) (v := ?vb4ux7) rfl (by kernel_rfl) (by kernel_rfl) (by kernel_rfl) (fun _ _ _ h => h) (Or.inl ⟨by rfl, ?hyb4ux7⟩) hHeld ?restb4ux7
        case hyb4ux7 => (intro w hSw; (try dsimp only at hSw); have hk := hSw; obtain ⟨k_0, k_1, k_2, k_3, k_4, k_5, k_6, k_7, k_8, k_9, k_10, k_11, k_12⟩ := hk.all; obtain ⟨p_0, p_1, p_2, p_3, p_4, p_5, p_6, p_7, p_8, p_9, p_10, p_11, p_12⟩ := HC.out _ hk.2.2; go_simp; try with_reducible rfl)
        simp only [Act.put, List.setIfInBounds_toArray, List.set_cons_zero, List.set_cons_succ]
        refine wpAnyH_ready (rs := [8]) (by kernel_rfl) (by simp) ?_
        refine AllReadyH.cons (o := ⟨some 23, _, _, _, _, _⟩) rfl (fun K hK => ?_) AllReadyH.nil
        go_simp
        refine (before_any ac ar sq (.slice a0 ds.length c0) kd nc nr pc pr fc fr nm vl ac2 ar2 sq2 (.slice a2 ds2.length c2) kd2 nc2 nr2 pc2 pr2 fc2 fr2 nm2 vl2 _).mono ?_
        rintro e Ub4u1 ⟨ele, hb⟩
        rw [← HLq.out] at ele
        subst ele
        (try go_wp2_with fail)
        refine hK.out _ _ (hHeld.step hb) (fun hHeld2 => ?_)
        clear hK K hHeld
        have hHeld := hHeld2
        clear hHeld2
        (try simp only [Act.put, List.setIfInBounds_toArray, List.set_cons_zero, List.set_cons_succ])
        replace HP : Hid (PutB G w (.slice aw E.length cw) E Ub4u1) := HP.out.below hb
        clear hb
        refine wpAnyH_take (i := 9) (oi := ⟨some 24, _, _, _, _, _⟩) (v := ?vb4u_8x9) rfl (by kernel_rfl) (by kernel_rfl) (by kernel_rfl) (fun _ _ _ h => h) (Or.inl ⟨by rfl, ?hyb4u_8x9⟩) hHeld ?restb4u_8x9
        case hyb4u_8x9 => (intro w _; go_simp; try with_reducible rfl)
        simp only [Act.put, List.setIfInBounds_toArray, List.set_cons_zero, List.set_cons_succ]
        refine wpAnyH_done (by kernel_rfl) ?_ _
        have HK3 : Hid (KeptC w w.heap.size [.int .i64 ac, .int .i64 ar, .int .i64 sq, .slice a0 ds.length c0, .int .i64 kd, .int .i64 nc, .int .i64 nr, .int .i64 pc, .int .i64 pr, .int .i64 fc, .int .i64 fr, .string nm, .string vl] Ub4u1) := hHeld
        clear hHeld
        cases lt
        · have HS3 : Hid (insC L (⟨ac, ar, sq, ds, kd, nc, nr, pc, pr, fc, fr, nm, vl⟩ : Ch) = (E ++ [((⟨ac2, ar2, sq2, ds2, kd2, nc2, nr2, pc2, pr2, fc2, fr2, nm2, vl2⟩ : Ch), (Value.slice a2 ds2.length c2))]).map Prod.fst ++ (if false = true then L.drop (k + 1) else insC (L.drop (k + 1)) (⟨ac, ar, sq, ds, kd, nc, nr, pc, pr, fc, fr, nm, vl⟩ : Ch))) := by
            show _ = _
            rw [HSp.out]
            simp
          obtain ⟨p_0, p_1, p_2, p_3, p_4, p_5, p_6, p_7, p_8, p_9, p_10, p_11, p_12⟩ := HC.out _ HK3.out.2.2
          obtain ⟨X9, eX9⟩ : ∃ Y, Y = Ub4u1.alloc (.cells #[.int .i64 ac2, .int .i64 ar2, .int .i64 sq2, .slice a2 ds2.length c2, .int .i64 kd2, .int .i64 nc2, .int .i64 nr2, .int .i64 pc2, .int .i64 pr2, .int .i64 fc2, .int .i64 fr2, .string nm2, .string vl2] 35) := ⟨_, rfl⟩
          have hbx : Below Ub4u1.heap.size Ub4u1 X9 := by rw [eX9]; exact (Below.refl _ _).alloc (Nat.le_refl _) _
          have HLX : Hid (HasB X9 Ub4u1.heap.size #[.int .i64 ac2, .int .i64 ar2, .int .i64 sq2, .slice a2 ds2.length c2, .int .i64 kd2, .int .i64 nc2, .int .i64 nr2, .int .i64 pc2, .int .i64 pr2, .int .i64 fc2, .int .i64 fr2, .string nm2, .string vl2]) := by rw [eX9]; exact heap_alloc_new _ _
          have HPX : Hid (PutB G w (.slice aw E.length cw) E X9) := HP.out.below hbx
          have HKX : Hid (KeptC w w.heap.size [.int .i64 ac, .int .i64 ar, .int .i64 sq, .slice a0 ds.length c0, .int .i64 kd, .int .i64 nc, .int .i64 nr, .int .i64 pc, .int .i64 pr, .int .i64 fc, .int .i64 fr, .string nm, .string vl] X9) := HK3.out.step hbx
          clear hbx
          go_wp2_with (at_builtin; rw [← eX9]; refine wpList_appH rfl _ _ rfl (w.heap.size + 1) (.slice aw E.length cw) E rfl HPX.out.own Ub4u1.heap.size (⟨ac2, ar2, sq2, ds2, kd2, nc2, nr2, pc2, pr2, fc2, fr2, nm2, vl2⟩ : Ch) a2 ds2.length c2 rfl HLX.out (by omega) (by have := HKX.out.2.1; omega) ?_; clear eX9; intro g9 c9 W9 hown hgrow hat hlt; have HP9 : Hid (PutB G w (.slice (some ⟨g9, 0, none⟩) (E.length + 1) c9) (E ++ [((⟨ac2, ar2, sq2, ds2, kd2, nc2, nr2, pc2, pr2, fc2, fr2, nm2, vl2⟩ : Ch), Value.slice a2 ds2.length c2)]) W9) := HPX.out.push2 hown hgrow (.inl (HG2.out.keep (KeepsS.of_below HKX.out.2.2 HGl.out))) HZ2.out; have HK4 : Hid (KeptC w w.heap.size [.int .i64 ac, .int .i64 ar, .int .i64 sq, .slice a0 ds.length c0, .int .i64 kd, .int .i64 nc, .int .i64 nr, .int .i64 pc, .int .i64 pr, .int .i64 fc, .int .i64 fr, .string nm, .string vl] W9) := HKX.out.grownP hgrow (fun k e => (World.ownsRow.lt HPX.out.own k e).1); clear hown hgrow hat hlt HPX HKX HLX)
          go_roundw
          case rel => exact ⟨k + 1, _, false, by omega, by go_num, by simp, HK4, HP9, HS3⟩
          case measure => simp [intOf]; omega
        · have HS3 : Hid (insC L (⟨ac, ar, sq, ds, kd, nc, nr, pc, pr, fc, fr, nm, vl⟩ : Ch) = ((E ++ [((⟨ac, ar, sq, ds, kd, nc, nr, pc, pr, fc, fr, nm, vl⟩ : Ch), Value.slice a0 ds.length c0)]) ++ [((⟨ac2, ar2, sq2, ds2, kd2, nc2, nr2, pc2, pr2, fc2, fr2, nm2, vl2⟩ : Ch), (Value.slice a2 ds2.length c2))]).map Prod.fst ++ (if true = true then L.drop (k + 1) else insC (L.drop (k + 1)) (⟨ac, ar, sq, ds, kd, nc, nr, pc, pr, fc, fr, nm, vl⟩ : Ch))) := by
            show _ = _
            rw [HSp.out]
            simp
          obtain ⟨k_0, k_1, k_2, k_3, k_4, k_5, k_6, k_7, k_8, k_9, k_10, k_11, k_12⟩ := HK3.out.all
          obtain ⟨X8, eX8⟩ : ∃ Y, Y = Ub4u1.alloc (.cells #[.int .i64 ac, .int .i64 ar, .int .i64 sq, .slice a0 ds.length c0, .int .i64 kd, .int .i64 nc, .int .i64 nr, .int .i64 pc, .int .i64 pr, .int .i64 fc, .int .i64 fr, .string nm, .string vl] 35) := ⟨_, rfl⟩
          have hbx : Below Ub4u1.heap.size Ub4u1 X8 := by rw [eX8]; exact (Below.refl _ _).alloc (Nat.le_refl _) _
          have HLX : Hid (HasB X8 Ub4u1.heap.size #[.int .i64 ac, .int .i64 ar, .int .i64 sq, .slice a0 ds.length c0, .int .i64 kd, .int .i64 nc, .int .i64 nr, .int .i64 pc, .int .i64 pr, .int .i64 fc, .int .i64 fr, .string nm, .string vl]) := by rw [eX8]; exact heap_alloc_new _ _
          have HPX : Hid (PutB G w (.slice aw E.length cw) E X8) := HP.out.below hbx
          have HKX : Hid (KeptC w w.heap.size [.int .i64 ac, .int .i64 ar, .int .i64 sq, .slice a0 ds.length c0, .int .i64 kd, .int .i64 nc, .int .i64 nr, .int .i64 pc, .int .i64 pr, .int .i64 fc, .int .i64 fr, .string nm, .string vl] X8) := HK3.out.step hbx
          clear hbx
          go_wp2_with (first | (at_builtin; rw [← eX8]; refine wpList_appH rfl _ _ rfl (w.heap.size + 1) (.slice aw E.length cw) E rfl HPX.out.own Ub4u1.heap.size (⟨ac, ar, sq, ds, kd, nc, nr, pc, pr, fc, fr, nm, vl⟩ : Ch) a0 ds.length c0 rfl HLX.out (by omega) (by have := HKX.out.2.1; omega) ?_; clear eX8; intro g8 c8 W8 hown hgrow hat hlt; have HP8 : Hid (PutB G w (.slice (some ⟨g8, 0, none⟩) (E.length + 1) c8) (E ++ [((⟨ac, ar, sq, ds, kd, nc, nr, pc, pr, fc, fr, nm, vl⟩ : Ch), Value.slice a0 ds.length c0)]) W8) := HPX.out.push2 hown hgrow (.inl (HGc.out.keep (KeepsS.of_below HKX.out.2.2 HGl.out))) HZ.out; have HK4 : Hid (KeptC w w.heap.size [.int .i64 ac, .int .i64 ar, .int .i64 sq, .slice a0 ds.length c0, .int .i64 kd, .int .i64 nc, .int .i64 nr, .int .i64 pc, .int .i64 pr, .int .i64 fc, .int .i64 fr, .string nm, .string vl] W8) := HKX.out.grownP hgrow (fun k e => (World.ownsRow.lt HPX.out.own k e).1); clear hown hgrow hat hlt HPX HKX HLX; have HP : Hid (PutB G w (.slice (some ⟨g8, 0, none⟩) (E.length + 1) c8) (E ++ [((⟨ac, ar, sq, ds, kd, nc, nr, pc, pr, fc, fr, nm, vl⟩ : Ch), Value.slice a0 ds.length c0)]) W8) := HP8; have HK3 : Hid (KeptC w w.heap.size [.int .i64 ac, .int .i64 ar, .int .i64 sq, .slice a0 ds.length c0, .int .i64 kd, .int .i64 nc, .int .i64 nr, .int .i64 pc, .int .i64 pr, .int .i64 fc, .int .i64 fr, .string nm, .string vl] W8) := HK4; have hE8 : (E ++ [((⟨ac, ar, sq, ds, kd, nc, nr, pc, pr, fc, fr, nm, vl⟩ : Ch), Value.slice a0 ds.length c0)]).length = E.length + 1 := (by simp); clear HP8 HK4; obtain ⟨p_0, p_1, p_2, p_3, p_4, p_5, p_6, p_7, p_8, p_9, p_10, p_11, p_12⟩ := HC.out _ HK3.out.2.2; obtain ⟨X9, eX9⟩ : ∃ Y, Y = W8.alloc (.cells #[.int .i64 ac2, .int .i64 ar2, .int .i64 sq2, .slice a2 ds2.length c2, .int .i64 kd2, .int .i64 nc2, .int .i64 nr2, .int .i64 pc2, .int .i64 pr2, .int .i64 fc2, .int .i64 fr2, .string nm2, .string vl2] 35) := ⟨_, rfl⟩; have hbx : Below W8.heap.size W8 X9 := (by rw [eX9]; exact (Below.refl _ _).alloc (Nat.le_refl _) _); have HLX : Hid (HasB X9 W8.heap.size #[.int .i64 ac2, .int .i64 ar2, .int .i64 sq2, .slice a2 ds2.length c2, .int .i64 kd2, .int .i64 nc2, .int .i64 nr2, .int .i64 pc2, .int .i64 pr2, .int .i64 fc2, .int .i64 fr2, .string nm2, .string vl2]) := (by rw [eX9]; exact heap_alloc_new _ _); have HPX : Hid (PutB G w (.slice (some ⟨g8, 0, none⟩) (E.length + 1) c8) (E ++ [((⟨ac, ar, sq, ds, kd, nc, nr, pc, pr, fc, fr, nm, vl⟩ : Ch), Value.slice a0 ds.length c0)]) X9) := HP.out.below hbx; have HKX : Hid (KeptC w w.heap.size [.int .i64 ac, .int .i64 ar, .int .i64 sq, .slice a0 ds.length c0, .int .i64 kd, .int .i64 nc, .int .i64 nr, .int .i64 pc, .int .i64 pr, .int .i64 fc, .int .i64 fr, .string nm, .string vl] X9) := HK3.out.step hbx; clear hbx) | (at_builtin; rw [← eX9]; refine wpList_appH rfl _ _ rfl (w.heap.size + 1) (.slice (some ⟨g8, 0, none⟩) (E.length + 1) c8) (E ++ [((⟨ac, ar, sq, ds, kd, nc, nr, pc, pr, fc, fr, nm, vl⟩ : Ch), Value.slice a0 ds.length c0)]) rfl HPX.out.own W8.heap.size (⟨ac2, ar2, sq2, ds2, kd2, nc2, nr2, pc2, pr2, fc2, fr2, nm2, vl2⟩ : Ch) a2 ds2.length c2 rfl HLX.out (by omega) (by have := HKX.out.2.1; omega) ?_; clear eX9; intro g9 c9 W9 hown hgrow hat hlt; have HP9 : Hid (PutB G w (.slice (some ⟨g9, 0, none⟩) ((E ++ [((⟨ac, ar, sq, ds, kd, nc, nr, pc, pr, fc, fr, nm, vl⟩ : Ch), Value.slice a0 ds.length c0)]).length + 1) c9) ((E ++ [((⟨ac, ar, sq, ds, kd, nc, nr, pc, pr, fc, fr, nm, vl⟩ : Ch), Value.slice a0 ds.length c0)]) ++ [((⟨ac2, ar2, sq2, ds2, kd2, nc2, nr2, pc2, pr2, fc2, fr2, nm2, vl2⟩ : Ch), Value.slice a2 ds2.length c2)]) W9) := HPX.out.push2 hown hgrow (.inl (HG2.out.keep (KeepsS.of_below HKX.out.2.2 HGl.out))) HZ2.out; have HK4 : Hid (KeptC w w.heap.size [.int .i64 ac, .int .i64 ar, .int .i64 sq, .slice a0 ds.length c0, .int .i64 kd, .int .i64 nc, .int .i64 nr, .int .i64 pc, .int .i64 pr, .int .i64 fc, .int .i64 fr, .string nm, .string vl] W9) := HKX.out.grownP hgrow (fun k e => (World.ownsRow.lt HPX.out.own k e).1); clear hown hgrow hat hlt HPX HKX HLX))
          go_roundw
          case rel => exact ⟨k + 1, _, true, by omega, by go_num, by simp, HK4, (by have h := HP9; rw [hE8] at h; exact h), HS3⟩
          case measure => simp [intOf]; omega
      · go_upto_region 6 with fail
        refine wp_region_held_drew (S := fun W' => KeptC w w.heap.size [.int .i64 ac, .int .i64 ar, .int .i64 sq, .slice a0 ds.length c0, .int .i64 kd, .int .i64 nc, .int .i64 nr, .int .i64 pc, .int .i64 pr, .int .i64 fc, .int .i64 fr, .string nm, .string vl] W') (by kernel_rfl) HK2.out.drew (fun hHeld => ?_)
        obtain ⟨Ua3u0, eW⟩ : ∃ X, X = wr.drew := ⟨_, rfl⟩
        have hb : Below wr.heap.size wr Ua3u0 := by rw [eW]; exact (Below.refl _ _).drew
        replace HP : Hid (PutB G w (.slice aw E.length cw) E Ua3u0) := HP.out.below hb
        rw [← eW] at hHeld ⊢
        clear eW hb
        refine wpAnyH_take (i := 0) (oi := ⟨some 15, _, _, _, _, _⟩) (v := ?va3ux0) rfl (by kernel_rfl) (by kernel_rfl) (by kernel_rfl) (fun _ _ _ h => h) (Or.inl ⟨by rfl, ?hya3ux0⟩) hHeld ?resta3ux0
        case hya3ux0 => (intro w _; go_simp; try with_reducible rfl)
        simp only [Act.put, List.setIfInBounds_toArray, List.set_cons_zero, List.set_cons_succ]
        refine wpAnyH_take (i := 1) (oi := ⟨some 16, _, _, _, _, _⟩) (v := ?va3ux1) rfl (by kernel_rfl) (by kernel_rfl) (by kernel_rfl) (fun _ _ _ h => h) (Or.inl ⟨by rfl, ?hya3ux1⟩) hHeld ?resta3ux1
        case hya3ux1 => (intro w _; go_simp; try with_reducible rfl)
        simp only [Act.put, List.setIfInBounds_toArray, List.set_cons_zero, List.set_cons_succ]
        refine wpAnyH_take (i := 2) (oi := ⟨some 17, _, _, _, _, _⟩) (v := ?va3ux2) rfl (by kernel_rfl) (by kernel_rfl) (by kernel_rfl) (fun _ _ _ h => h) (Or.inl ⟨by rfl, ?hya3ux2⟩) hHeld ?resta3ux2
        case hya3ux2 => (intro w _; go_simp; try with_reducible rfl)
        simp only [Act.put, List.setIfInBounds_toArray, List.set_cons_zero, List.set_cons_succ]
        refine wpAnyH_take (i := 3) (oi := ⟨some 18, _, _, _, _, _⟩) (v := undef) rfl (by kernel_rfl) (by kernel_rfl) (by kernel_rfl) (fun _ _ _ h => h) (Or.inr ⟨by rfl, rfl⟩) hHeld ?_
        simp only [Act.put, List.setIfInBounds_toArray, List.set_cons_zero, List.set_cons_succ]
        refine wpAnyH_take (i := 4) (oi := ⟨some 19, _, _, _, _, _⟩) (v := undef) rfl (by kernel_rfl) (by kernel_rfl) (by kernel_rfl) (fun _ _ _ h => h) (Or.inr ⟨by rfl, rfl⟩) hHeld ?_
        simp only [Act.put, List.setIfInBounds_toArray, List.set_cons_zero, List.set_cons_succ]
        refine wpAnyH_take (i := 5) (oi := ⟨some 20, _, _, _, _, _⟩) (v := undef) rfl (by kernel_rfl) (by kernel_rfl) (by kernel_rfl) (fun _ _ _ h => h) (Or.inr ⟨by rfl, rfl⟩) hHeld ?_
        simp only [Act.put, List.setIfInBounds_toArray, List.set_cons_zero, List.set_cons_succ]
        refine wpAnyH_take (i := 6) (oi := ⟨some 21, _, _, _, _, _⟩) (v := undef) rfl (by kernel_rfl) (by kernel_rfl) (by kernel_rfl) (fun _ _ _ h => h) (Or.inr ⟨by rfl, rfl⟩) hHeld ?_
        simp only [Act.put, List.setIfInBounds_toArray, List.set_cons_zero, List.set_cons_succ]
        refine wpAnyH_take (i := 7) (oi := ⟨some 22, _, _, _, _, _⟩) (v := undef) rfl (by kernel_rfl) (by kernel_rfl) (by kernel_rfl) (fun _ _ _ h => h) (Or.inr ⟨by rfl, rfl⟩) hHeld ?_
        simp only [Act.put, List.setIfInBounds_toArray, List.set_cons_zero, List.set_cons_succ]
        refine wpAnyH_take (i := 8) (oi := ⟨some 23, _, _, _, _, _⟩) (v := undef) rfl (by kernel_rfl) (by kernel_rfl) (by kernel_rfl) (fun _ _ _ h => h) (Or.inr ⟨by rfl, rfl⟩) hHeld ?_
        simp only [Act.put, List.setIfInBounds_toArray, List.set_cons_zero, List.set_cons_succ]
        refine wpAnyH_take (i := 9) (oi := ⟨some 24, _, _, _, _, _⟩) (v := ?va3ux9) rfl (by kernel_rfl) (by kernel_rfl) (by kernel_rfl) (fun _ _ _ h => h) (Or.inl ⟨by rfl, ?hya3ux9⟩) hHeld ?resta3ux9
        case hya3ux9 => (intro w _; go_simp; try with_reducible rfl)
        simp only [Act.put, List.setIfInBounds_toArray, List.set_cons_zero, List.set_cons_succ]
        refine wpAnyH_done (by kernel_rfl) ?_ _
        have HK3 : Hid (KeptC w w.heap.size [.int .i64 ac, .int .i64 ar, .int .i64 sq, .slice a0 ds.length c0, .int .i64 kd, .int .i64 nc, .int .i64 nr, .int .i64 pc, .int .i64 pr, .int .i64 fc, .int .i64 fr, .string nm, .string vl] Ua3u0) := hHeld
        clear hHeld
        have HS3 : Hid (insC L (⟨ac, ar, sq, ds, kd, nc, nr, pc, pr, fc, fr, nm, vl⟩ : Ch) = (E ++ [((⟨ac2, ar2, sq2, ds2, kd2, nc2, nr2, pc2, pr2, fc2, fr2, nm2, vl2⟩ : Ch), (Value.slice a2 ds2.length c2))]).map Prod.fst ++ (if true = true then L.drop (k + 1) else insC (L.drop (k + 1)) (⟨ac, ar, sq, ds, kd, nc, nr, pc, pr, fc, fr, nm, vl⟩ : Ch))) := by
          show _ = _
          rw [HSp.out]
          simp
        obtain ⟨p_0, p_1, p_2, p_3, p_4, p_5, p_6, p_7, p_8, p_9, p_10, p_11, p_12⟩ := HC.out _ HK3.out.2.2
        obtain ⟨X9, eX9⟩ : ∃ Y, Y = Ua3u0.alloc (.cells #[.int .i64 ac2, .int .i64 ar2, .int .i64 sq2, .slice a2 ds2.length c2, .int .i64 kd2, .int .i64 nc2, .int .i64 nr2, .int .i64 pc2, .int .i64 pr2, .int .i64 fc2, .int .i64 fr2, .string nm2, .string vl2] 35) := ⟨_, rfl⟩
        have hbx : Below Ua3u0.heap.size Ua3u0 X9 := by rw [eX9]; exact (Below.refl _ _).alloc (Nat.le_refl _) _
        have HLX : Hid (HasB X9 Ua3u0.heap.size #[.int .i64 ac2, .int .i64 ar2, .int .i64 sq2, .slice a2 ds2.length c2, .int .i64 kd2, .int .i64 nc2, .int .i64 nr2, .int .i64 pc2, .int .i64 pr2, .int .i64 fc2, .int .i64 fr2, .string nm2, .string vl2]) := by rw [eX9]; exact heap_alloc_new _ _
        have HPX : Hid (PutB G w (.slice aw E.length cw) E X9) := HP.out.below hbx
        have HKX : Hid (KeptC w w.heap.size [.int .i64 ac, .int .i64 ar, .int .i64 sq, .slice a0 ds.length c0, .int .i64 kd, .int .i64 nc, .int .i64 nr, .int .i64 pc, .int .i64 pr, .int .i64 fc, .int .i64 fr, .string nm, .string vl] X9) := HK3.out.step hbx
        clear hbx
        go_wp2_with (at_builtin; rw [← eX9]; refine wpList_appH rfl _ _ rfl (w.heap.size + 1) (.slice aw E.length cw) E rfl HPX.out.own Ua3u0.heap.size (⟨ac2, ar2, sq2, ds2, kd2, nc2, nr2, pc2, pr2, fc2, fr2, nm2, vl2⟩ : Ch) a2 ds2.length c2 rfl HLX.out (by omega) (by have := HKX.out.2.1; omega) ?_; clear eX9; intro g9 c9 W9 hown hgrow hat hlt; have HP9 : Hid (PutB G w (.slice (some ⟨g9, 0, none⟩) (E.length + 1) c9) (E ++ [((⟨ac2, ar2, sq2, ds2, kd2, nc2, nr2, pc2, pr2, fc2, fr2, nm2, vl2⟩ : Ch), Value.slice a2 ds2.length c2)]) W9) := HPX.out.push2 hown hgrow (.inl (HG2.out.keep (KeepsS.of_below HKX.out.2.2 HGl.out))) HZ2.out; have HK4 : Hid (KeptC w w.heap.size [.int .i64 ac, .int .i64 ar, .int .i64 sq, .slice a0 ds.length c0, .int .i64 kd, .int .i64 nc, .int .i64 nr, .int .i64 pc, .int .i64 pr, .int .i64 fc, .int .i64 fr, .string nm, .string vl] W9) := HKX.out.grownP hgrow (fun k e => (World.ownsRow.lt HPX.out.own k e).1); clear hown hgrow hat hlt HPX HKX HLX)
        go_roundw
        case rel => exact ⟨k + 1, _, true, by omega, by go_num, by simp, HK4, HP9, HS3⟩
        case measure => simp [intOf]; omega
    · have hkl : k = L.length := by omega
      have HK3 : Hid (KeptC w w.heap.size [.int .i64 ac, .int .i64 ar, .int .i64 sq, .slice a0 ds.length c0, .int .i64 kd, .int .i64 nc, .int .i64 nr, .int .i64 pc, .int .i64 pr, .int .i64 fc, .int .i64 fr, .string nm, .string vl] wr) := HK2
      clear HK2
      cases dn
      · have HS3 : Hid ((E ++ [((⟨ac, ar, sq, ds, kd, nc, nr, pc, pr, fc, fr, nm, vl⟩ : Ch), Value.slice a0 ds.length c0)]).map Prod.fst = insC L (⟨ac, ar, sq, ds, kd, nc, nr, pc, pr, fc, fr, nm, vl⟩ : Ch)) := by
          show _ = _
          rw [HS.out, hkl]
          simp [insC]
        obtain ⟨k_0, k_1, k_2, k_3, k_4, k_5, k_6, k_7, k_8, k_9, k_10, k_11, k_12⟩ := HK3.out.all
        obtain ⟨X8, eX8⟩ : ∃ Y, Y = wr.alloc (.cells #[.int .i64 ac, .int .i64 ar, .int .i64 sq, .slice a0 ds.length c0, .int .i64 kd, .int .i64 nc, .int .i64 nr, .int .i64 pc, .int .i64 pr, .int .i64 fc, .int .i64 fr, .string nm, .string vl] 35) := ⟨_, rfl⟩
        have hbx : Below wr.heap.size wr X8 := by rw [eX8]; exact (Below.refl _ _).alloc (Nat.le_refl _) _
        have HLX : Hid (HasB X8 wr.heap.size #[.int .i64 ac, .int .i64 ar, .int .i64 sq, .slice a0 ds.length c0, .int .i64 kd, .int .i64 nc, .int .i64 nr, .int .i64 pc, .int .i64 pr, .int .i64 fc, .int .i64 fr, .string nm, .string vl]) := by rw [eX8]; exact heap_alloc_new _ _
        have HPX : Hid (PutB G w (.slice aw E.length cw) E X8) := HP.out.below hbx
        have HKX : Hid (KeptC w w.heap.size [.int .i64 ac, .int .i64 ar, .int .i64 sq, .slice a0 ds.length c0, .int .i64 kd, .int .i64 nc, .int .i64 nr, .int .i64 pc, .int .i64 pr, .int .i64 fc, .int .i64 fr, .string nm, .string vl] X8) := HK3.out.step hbx
        clear hbx
        go_wp2_with (at_builtin; rw [← eX8]; refine wpList_appH rfl _ _ rfl (w.heap.size + 1) (.slice aw E.length cw) E rfl HPX.out.own wr.heap.size (⟨ac, ar, sq, ds, kd, nc, nr, pc, pr, fc, fr, nm, vl⟩ : Ch) a0 ds.length c0 rfl HLX.out (by omega) (by have := HKX.out.2.1; omega) ?_; clear eX8; intro g8 c8 W8 hown hgrow hat hlt; have HP8 : Hid (PutB G w (.slice (some ⟨g8, 0, none⟩) (E.length + 1) c8) (E ++ [((⟨ac, ar, sq, ds, kd, nc, nr, pc, pr, fc, fr, nm, vl⟩ : Ch), Value.slice a0 ds.length c0)]) W8) := HPX.out.push2 hown hgrow (.inl (HGc.out.keep (KeepsS.of_below HKX.out.2.2 HGl.out))) HZ.out; have HK4 : Hid (KeptC w w.heap.size [.int .i64 ac, .int .i64 ar, .int .i64 sq, .slice a0 ds.length c0, .int .i64 kd, .int .i64 nc, .int .i64 nr, .int .i64 pc, .int .i64 pr, .int .i64 fc, .int .i64 fr, .string nm, .string vl] W8) := HKX.out.grownP hgrow (fun k e => (World.ownsRow.lt HPX.out.own k e).1); clear hown hgrow hat hlt HPX HKX HLX)
        go_ret
        have hl8 : (E ++ [((⟨ac, ar, sq, ds, kd, nc, nr, pc, pr, fc, fr, nm, vl⟩ : Ch), Value.slice a0 ds.length c0)]).length ≤ 281474976710656 := by simp; omega
        have hf := HP8.out.firm hl8
        rw [HS3.out] at hf
        exact ⟨_, rfl, hf, HP8.out.bel⟩
      · have HS3 : Hid (E.map Prod.fst = insC L (⟨ac, ar, sq, ds, kd, nc, nr, pc, pr, fc, fr, nm, vl⟩ : Ch)) := by
          show _ = _
          rw [HS.out, hkl]
          simp
        go_wp2
        go_ret
        have hf := HP.out.firm (by omega)
        rw [HS3.out] at hf
        exact ⟨_, rfl, hf, HP.out.bel⟩

end Go.Proofs.Ythndgmnckpimmaa

namespace Go.Proofs.Ythndgmnckpimmaa
open Go.RowKit
set_option linter.unusedVariables false
set_option linter.unusedSimpArgs false

/-- The place of a replica's change by its number. -/
def ownP (L : List Ch) (r s : Int) : Int := match L.findIdx? (isOwn r s) with | some k => (k : Int) | none => -1
theorem ownP_none {L : List Ch} {a r : Int} (h : ownC L a r = none) : ownP L a r = -1 := by
  have : L.findIdx? (isOwn a r) = none := by rw [List.findIdx?_eq_none_iff]; intro x hx; have := (List.find?_eq_none.1 h) x hx; simpa using this
  simp [ownP, this]
theorem ownP_at {L : List Ch} {a r : Int} {k : Nat} (hk : k < L.length) (h : ownC (L.take k) a r = none) (he : isOwn a r L[k] = true) : ownP L a r = k ∧ ownC L a r = some L[k] := by
  have h1 : ∀ x ∈ L.take k, ¬ isOwn a r x = true := List.find?_eq_none.1 h
  have h2 : L.findIdx? (isOwn a r) = some k := by
    rw [List.findIdx?_eq_some_iff_getElem]
    refine ⟨hk, he, fun j hj => ?_⟩
    exact h1 _ (by rw [List.mem_take_iff_getElem]; exact ⟨j, by omega, rfl⟩)
  refine ⟨by simp [ownP, h2], ?_⟩
  unfold ownC
  rw [List.find?_eq_some_iff_getElem]
  refine ⟨he, k, hk, rfl, fun j hj => ?_⟩
  have := h1 (L[j]) (by rw [List.mem_take_iff_getElem]; exact ⟨j, by omega, rfl⟩)
  simpa using this
theorem ownC_next {L : List Ch} {a r : Int} {k : Nat} (hk : k < L.length) (h : ownC (L.take k) a r = none) (he : isOwn a r L[k] = false) : ownC (L.take (k + 1)) a r = none := by
  unfold ownC at h ⊢
  rw [List.take_succ_eq_append_getElem hk, List.find?_append, h]
  simp [he]
theorem ownP_or (L : List Ch) (a r : Int) : (ownP L a r = -1 ∧ ownC L a r = none) ∨ ∃ (k : Nat) (h : k < L.length), ownP L a r = k ∧ ownC L a r = some L[k] := by
  cases hf : ownC L a r with
  | none => exact .inl ⟨ownP_none hf, rfl⟩
  | some c =>
    refine .inr ?_
    obtain ⟨h1, k, hk, h2, h3⟩ := List.find?_eq_some_iff_getElem.1 hf
    subst h2
    have h4 : ownC (L.take k) a r = none := by
      unfold ownC
      rw [List.find?_eq_none]
      intro x hx
      rw [List.mem_take_iff_getElem] at hx
      obtain ⟨j, hj, rfl⟩ := hx
      have := h3 j (by omega)
      simpa using this
    exact ⟨k, hk, (ownP_at hk h4 h1).1, rfl⟩

set_option maxHeartbeats 2000000 in
/-- The document's Own. -/
theorem refOwn_any (v : Value) (L : List Ch) (r s : Int) (w : World) (h1 : IsH w v L) :
    Calls Try.prog 28 #[v, .int .i64 r, .int .i64 s] w fun e w' => e = .returned (.int .i64 (ownP L r s)) ∧ Below w.heap.size w w' := by
  obtain ⟨a1, c1, rfl, hc1, hl1, r1⟩ := h1
  have HR : Hid (L = [] ∨ ∃ b o, a1 = some ⟨b, o, none⟩ ∧ ChsAt w b o L) := r1
  clear r1
  go_enter Try.func28, Try.ntmps28
  go_wp2
  go_loopw [7] (fun i wr => ∃ k : Nat, k ≤ L.length ∧ i = .int .i64 (k : Int) ∧ Hid (ownC (L.take k) r s = none) ∧ Below w.heap.size w wr) (fun i _ => L.length - (intOf i).toNat)
  case atStart => exact ⟨0, Nat.zero_le _, rfl, (rfl : ownC (L.take 0) r s = none), Below.refl _ _⟩
  case round =>
    obtain ⟨k, hk, rfl, HT, hb⟩ := hrel
    by_cases hlt : k < L.length
    · obtain ⟨b1, o1, rfl, g1⟩ := HR.out.resolve_left (by intro e; subst e; simp at hlt)
      obtain ⟨_, _, _, _, _, x12, x13, _⟩ := ((g1.below hb) k hlt).all
      have k1 : (k : Int) < (L.length : Int) := by omega
      have k0 : (0 : Int) ≤ (k : Int) := by omega
      cases hm : isOwn r s L[k] with
      | true =>
        have HM : Hid (ownP L r s = (k : Int)) := (ownP_at hlt HT.out hm).1
        have hm2 : L[k].ar = r ∧ L[k].seq = s := of_decide_eq_true hm
        rw [hm2.1] at x12
        rw [hm2.2] at x13
        clear hm hm2 g1
        go_wp2
        go_ret
        exact ⟨ret_i HM.out.symm, hb⟩
      | false =>
        have HM : Hid (ownC (L.take (k + 1)) r s = none) := ownC_next hlt HT.out hm
        have hm2 : ¬ (L[k].ar = r ∧ L[k].seq = s) := of_decide_eq_false hm
        by_cases hf : L[k].ar = r
        · have q2 : (L[k].seq == s) = false := by
            rw [beq_eq_false_iff_ne]; intro e; exact hm2 ⟨hf, e⟩
          rw [hf] at x12
          clear hm hm2 hf g1
          go_wp2
          go_roundw
          case rel => exact ⟨k + 1, by omega, by go_num, HM, hb⟩
          case measure => simp [intOf]; omega
        · have q1 : (L[k].ar == r) = false := by rw [beq_eq_false_iff_ne]; exact hf
          clear hm hm2 hf g1
          go_wp2
          go_roundw
          case rel => exact ⟨k + 1, by omega, by go_num, HM, hb⟩
          case measure => simp [intOf]; omega
    · have hkl : k = L.length := by omega
      have HM : Hid (ownP L r s = -1) := by
        have := HT.out
        rw [hkl, List.take_length] at this
        exact ownP_none this
      go_wp2
      go_ret
      exact ⟨ret_i HM.out.symm, hb⟩

theorem flatH_app (A B : List (Ch × Value)) : flatH (A ++ B) = flatH A ++ flatH B := by simp [flatH]
/-- What lies at a list of G, as one row. -/
theorem HFirm.row {G : Nat → Prop} {w : World} {v : Value} {L : List Ch} (h : HFirm G w v L) (hL : L ≠ []) : ∃ (b o cap : Nat) (E : List (Ch × Value)), v = .slice (some ⟨b, o, none⟩) L.length cap ∧ L.length ≤ cap ∧ G b ∧ E.map Prod.fst = L ∧ (∀ x ∈ E, (∃ a n c, x.2 = .slice a n c) ∧ IsG G w x.2 x.1.deps ∧ Sized x.1) ∧ ∀ i u, (flatH E)[i]? = some u → w.cell? ⟨b, o + i, none⟩ = some u := by
  obtain ⟨h0, a, cap, e, h1, h2, h3⟩ := h
  obtain ⟨b, o, rfl, hb, hr⟩ := h3.resolve_left hL
  refine ⟨b, o, cap, ?_⟩
  have key : ∀ n, n ≤ L.length → ∃ E : List (Ch × Value), E.map Prod.fst = L.take n ∧ (∀ x ∈ E, (∃ a n c, x.2 = .slice a n c) ∧ IsG G w x.2 x.1.deps ∧ Sized x.1) ∧ ∀ i u, (flatH E)[i]? = some u → w.cell? ⟨b, o + i, none⟩ = some u := by
    intro n
    induction n with
    | zero => exact fun _ => ⟨[], by simp, fun x hx => by simp at hx, fun i u hu => by simp [flatH] at hu⟩
    | succ n ih =>
      intro hn
      obtain ⟨E, q1, q2, q3⟩ := ih (by omega)
      obtain ⟨dv, h4, h5, h6⟩ := hr n (by omega)
      have hEl : E.length = n := by have := congrArg List.length q1; simp at this; omega
      refine ⟨E ++ [(L[n], dv)], ?_, fun x hx => ?_, fun i u hu => ?_⟩
      · rw [List.map_append, q1, List.take_succ_eq_append_getElem (by omega)]; rfl
      · rcases List.mem_append.1 hx with hx | hx
        · exact q2 x hx
        · rw [List.mem_singleton] at hx
          subst hx
          have h5' := h5
          obtain ⟨a3, c3, e3, _⟩ := h5
          exact ⟨⟨a3, _, c3, e3⟩, h5', h6⟩
      · rw [flatH_snoc] at hu
        by_cases hi : i < n * 13
        · rw [List.getElem?_append_left (by rw [flatH_length, hEl]; exact hi)] at hu
          exact q3 i u hu
        · rw [List.getElem?_append_right (by rw [flatH_length, hEl]; omega), flatH_length, hEl] at hu
          have := h4 (i - n * 13) u hu
          rwa [show o + n * 13 + (i - n * 13) = o + i by omega] at this
  obtain ⟨E, q1, q2, q3⟩ := key L.length (Nat.le_refl _)
  rw [List.take_length] at q1
  exact ⟨E, e, h1, hb, q1, q2, q3⟩
theorem PutA.pushs {G : Nat → Prop} {w : World} {v ov : Value} {E E2 : List (Ch × Value)} {U U' : World} (h : PutA G w ov E U) (hown : OwnH w.heap.size U' v (E ++ E2)) (hg : U.grownBy U' ov.ownBlock) (hd : ∀ x ∈ E2, (IsG G U x.2 x.1.deps ∨ OwnI w.heap.size U x.2 x.1.deps) ∧ Sized x.1 ∧ x.1.deps.length ≤ 17592186044416) : PutA G w v (E ++ E2) U' := by
  have hrow : ∀ j, ov.ownBlock = some j → w.heap.size ≤ j := fun j e => (World.ownsRow.lt h.own j e).1
  have dkeep : ∀ (d : Value) (l : List Int), (IsG G U d l ∨ OwnI w.heap.size U d l) → (IsG G U' d l ∨ OwnI w.heap.size U' d l) := fun d l hq => hq.imp
    (fun q => q.keep (KeepsS.of_grown hg (fun k hk => Nat.lt_of_lt_of_le (h.gl k hk) h.bel.size) (fun r e hS => by have := hrow r e; have := h.gl r hS; omega)))
    (fun q => OwnI.keepF q fun k e => hg.block k (World.ownsRow.lt q k e).2 (fun e2 => ownsRow_apart q h.own (by decide) k e e2.symm))
  refine ⟨hown, fun x hx => ?_, h.bel.grown hg h.bel.size (fun j e => by have := hrow j e; omega), h.gl⟩
  rcases List.mem_append.1 hx with hx | hx
  · exact ⟨dkeep _ _ (h.dep x hx).1, (h.dep x hx).2⟩
  · exact ⟨dkeep _ _ (hd x hx).1, (hd x hx).2⟩

theorem wpList_appHs {w : World} {ops : Array Oper} {rest : List Oper} {o : Oper} {a : Act} {Q : Exit → Act → World → Prop} (hgd : o.guard = none) (s x : Operand)
    (ho : o.op = .call { callee := .builtin .append, args := #[s, x], argTypes := #[28, 28] })
    (B : Nat) (ov : Value) (E : List (Ch × Value)) (hs : a.eval s = ov) (hown : OwnH B w ov E) (b o0 : Nat) (m c : Nat) (E2 : List (Ch × Value)) (hx : a.eval x = .slice (some ⟨b, o0, none⟩) m c) (hm : E2.length = m)
    (hc : ∀ j u, (flatH E2)[j]? = some u → w.cell? ⟨b, o0 + j, none⟩ = some u) (hv : ∀ x ∈ E2, ∃ a n c, x.2 = .slice a n c) (hl : E.length + E2.length ≤ 8192) (hB : B ≤ w.heap.size)
    (h : ∀ v' w', OwnH B w' v' (E ++ E2) → w.grownBy w' ov.ownBlock → wpList Try.prog ops Q rest (a.put o.dst v') w') :
    wpList Try.prog ops Q (o :: rest) a w := by
  obtain ⟨i0, hi, hz0, hz1, hz2⟩ := info_parts infoChange
  subst hm
  refine wpList_append_own_at _ hgd s x 28 ho B 35 i0 (.agg #[.int .i64 0, .int .i64 0, .int .i64 0, .slice none 0 0, .int .i64 0, .int .i64 0, .int .i64 0, .int .i64 0, .int .i64 0, .int .i64 0, .int .i64 0, .string ⟨#[]⟩, .string ⟨#[]⟩]) 13 136 Try.underlying28 hi hz0 hz1 hz2 rfl (by decide) ov E.length (flatH E) hs hown ⟨b, o0, none⟩ E2.length c (flatH E2) hx (flatH_length E2) ?_ ?_ (by unfold maxLen; omega) (by omega) hB ?_
  · intro j u hj
    rw [Addr.add_lit]
    exact hc j u hj
  · intro u hu
    obtain ⟨y, hy, hu⟩ := List.mem_flatMap.1 hu
    obtain ⟨a1, n1, c1, e1⟩ := hv y hy
    rw [e1] at hu
    simp [chCells] at hu
    rcases hu with rfl | rfl | rfl | rfl | rfl | rfl | rfl | rfl | rfl | rfl | rfl | rfl | rfl <;> rfl
  · intro v' w' h1 h2 _ _
    refine h v' w' ?_ h2
    unfold OwnH
    rw [flatH_app, List.length_append]
    exact h1

set_option maxRecDepth 100000 in
set_option maxHeartbeats 4000000 in
theorem refWithout_any (G : Nat → Prop) (v : Value) (L : List Ch) (i : Nat) (w : World) (h1 : HFirm G w v L) (hi : i < L.length) (hll : L.length ≤ 4096) :
    Calls Try.prog 33 #[v, .int .i64 (i : Int)] w fun e w' => ∃ v', e = .returned v' ∧ HFirm (fun k => G k ∨ (w.heap.size ≤ k ∧ k < w'.heap.size)) w' v' (L.eraseIdx i) ∧ Below w.heap.size w w' := by
  have HGl : Hid (∀ k, G k → k < w.heap.size) := h1.1
  obtain ⟨b, o, cap, E, rfl, hcap, hb, hE, hE2, hE3⟩ := h1.row (by intro e; subst e; simp at hi)
  have hEl : E.length = L.length := by rw [← hE]; simp
  have HE : Hid (E.map Prod.fst = L ∧ E.length = L.length ∧ (∀ x ∈ E, (∃ a n c, x.2 = .slice a n c) ∧ IsG G w x.2 x.1.deps ∧ Sized x.1) ∧ (∀ i u, (flatH E)[i]? = some u → w.cell? ⟨b, o + i, none⟩ = some u) ∧ G b) := ⟨hE, hEl, hE2, hE3, hb⟩
  have i1 : (i : Int) < (L.length : Int) := by omega
  have i0 : (0 : Int) ≤ (i : Int) := by omega
  have i2 : (i : Int) ≤ (cap : Int) := by omega
  obtain ⟨W0, eW⟩ : ∃ X, X = w.alloc (.cells #[] 35) := ⟨_, rfl⟩
  have HP0 : Hid (PutA G w (.slice (some ⟨w.heap.size, 0, none⟩) 0 0) [] W0) := by
    refine ⟨?_, fun x hx => by simp at hx, by rw [eW]; exact (Below.refl _ _).alloc (Nat.le_refl _) _, HGl.out⟩
    rw [eW]
    exact World.ownsRow_made w (e := 35) (size := 13) (base := w.heap.size) #[] 0 (by simp) (by unfold maxLen; omega) (by simp)
  have HC1 : Hid (∀ j u, (flatH (E.take i))[j]? = some u → W0.cell? ⟨b, o + j, none⟩ = some u) := by
    intro j u hj
    have hlt := HE.out.2.2.2.1 j u (by
      rw [← List.take_append_drop i E, flatH_app]
      rw [List.getElem?_append_left (by by_cases h : j < (flatH (E.take i)).length; exact h; rw [List.getElem?_eq_none (by omega)] at hj; cases hj)]
      exact hj)
    exact (HP0.out.bel.cell (p := ⟨b, o + j, none⟩) (HGl.out b HE.out.2.2.2.2)).trans hlt
  have HD1 : Hid (∀ x ∈ E.take i, (IsG G W0 x.2 x.1.deps ∨ OwnI w.heap.size W0 x.2 x.1.deps) ∧ Sized x.1 ∧ x.1.deps.length ≤ 17592186044416) := fun x hx => by
    obtain ⟨_, q1, q2⟩ := HE.out.2.2.1 x (List.mem_of_mem_take hx)
    exact ⟨.inl (q1.keep (KeepsS.of_below HP0.out.bel HGl.out)), q2, by obtain ⟨_, _, _, _, h, _⟩ := q1; exact h⟩
  have HL1 : Hid ((E.take i).length = i) := by show _ = _; rw [List.length_take, HE.out.2.1]; omega
  have HC2 : Hid (∀ W, Below w.heap.size w W → ∀ j u, (flatH (E.drop (i + 1)))[j]? = some u → W.cell? ⟨b, o + (i + 1) * 13 + j, none⟩ = some u) := by
    intro W hb j u hj
    have hlt := HE.out.2.2.2.1 ((i + 1) * 13 + j) u (by
      rw [← List.take_append_drop (i + 1) E, flatH_app]
      rw [List.getElem?_append_right (by rw [flatH_length, List.length_take, HE.out.2.1]; omega)]
      rw [flatH_length, List.length_take, HE.out.2.1, Nat.min_eq_left (by omega), Nat.add_sub_cancel_left]
      exact hj)
    rw [show o + (i + 1) * 13 + j = o + ((i + 1) * 13 + j) by omega]
    exact (hb.cell (p := ⟨b, o + ((i + 1) * 13 + j), none⟩) (HGl.out b HE.out.2.2.2.2)).trans hlt
  have HD2 : Hid (∀ W, Below w.heap.size w W → ∀ x ∈ E.drop (i + 1), (IsG G W x.2 x.1.deps ∨ OwnI w.heap.size W x.2 x.1.deps) ∧ Sized x.1 ∧ x.1.deps.length ≤ 17592186044416) := fun W hb x hx => by
    obtain ⟨_, q1, q2⟩ := HE.out.2.2.1 x (List.mem_of_mem_drop hx)
    exact ⟨.inl (q1.keep (KeepsS.of_below hb HGl.out)), q2, by obtain ⟨_, _, _, _, h, _⟩ := q1; exact h⟩
  have HL2 : Hid ((E.drop (i + 1)).length = L.length - (i + 1)) := by show _ = _; rw [List.length_drop, HE.out.2.1]
  have HX : Hid ((([] ++ E.take i) ++ E.drop (i + 1)).map Prod.fst = L.eraseIdx i ∧ (([] ++ E.take i) ++ E.drop (i + 1)).length ≤ 281474976710656) := by
    refine ⟨?_, by simp [HE.out.2.1]; omega⟩
    rw [List.eraseIdx_eq_take_drop_succ, List.nil_append, List.map_append, List.map_take, List.map_drop, HE.out.1]
  have HV : Hid (∀ x ∈ E.drop (i + 1), ∃ a n c, x.2 = .slice a n c) := fun x hx => (HE.out.2.2.1 x (List.mem_of_mem_drop hx)).1
  have i3 : (i : Int) + 1 ≤ (cap : Int) := by omega
  have i4 : (i : Int) + 1 ≤ (L.length : Int) := by omega
  clear h1 hE hE2 hE3 hEl hb
  go_enter Try.func33, Try.ntmps33
  by_cases hcc : cap = i + 1
  · subst hcc
    have hLi : L.length - (i + 1) = 0 := by omega
    have HN : Hid (flatH (E.drop (i + 1)) = []) := by show _ = _; rw [List.eq_nil_of_length_eq_zero (HL2.out.trans hLi)]; rfl
    clear hLi
    go_wp2_with (first | (at_builtin; rw [← eW]; refine wpList_appHs rfl _ _ rfl w.heap.size _ [] rfl HP0.out.own b o i (i + 1) (E.take i) rfl HL1.out HC1.out (fun x hx => (HE.out.2.2.1 x (List.mem_of_mem_take hx)).1) (by have := HL1.out; simp; omega) HP0.out.bel.size ?_; intro v1 w1 hown hgrow; have HP1 : Hid (PutA G w v1 ([] ++ E.take i) w1) := HP0.out.pushs hown hgrow HD1.out; clear hown hgrow HP0 HC1 HD1 eW) | (at_builtin; refine wpList_appHs rfl _ _ rfl w.heap.size _ ([] ++ E.take i) rfl HP1.out.own b o 0 0 (E.drop (i + 1)) rfl (HL2.out.trans (by omega)) (fun j u hj => by rw [HN.out] at hj; simp at hj) HV.out (by have := HL1.out; have := HL2.out; simp only [List.nil_append]; omega) HP1.out.bel.size ?_; intro v2 w2 hown hgrow; have HP2 : Hid (PutA G w v2 (([] ++ E.take i) ++ E.drop (i + 1)) w2) := HP1.out.pushs hown hgrow (HD2.out _ HP1.out.bel); clear hown hgrow HP1 HD2))
    go_ret
    exact ⟨_, rfl, HX.out.1 ▸ HP2.out.firm HX.out.2, HP2.out.bel⟩
  · have hcc2 : i + 1 < cap := by omega
    clear hcc
    go_wp2_with (first | (at_builtin; rw [← eW]; refine wpList_appHs rfl _ _ rfl w.heap.size _ [] rfl HP0.out.own b o i cap (E.take i) rfl HL1.out HC1.out (fun x hx => (HE.out.2.2.1 x (List.mem_of_mem_take hx)).1) (by have := HL1.out; simp; omega) HP0.out.bel.size ?_; intro v1 w1 hown hgrow; have HP1 : Hid (PutA G w v1 ([] ++ E.take i) w1) := HP0.out.pushs hown hgrow HD1.out; clear hown hgrow HP0 HC1 HD1 eW) | (at_builtin; refine wpList_appHs rfl _ _ rfl w.heap.size _ ([] ++ E.take i) rfl HP1.out.own b (o + (i + 1) * 13) (L.length - (i + 1)) (cap - (i + 1)) (E.drop (i + 1)) rfl HL2.out (HC2.out _ HP1.out.bel) HV.out (by have := HL1.out; have := HL2.out; simp only [List.nil_append]; omega) HP1.out.bel.size ?_; intro v2 w2 hown hgrow; have HP2 : Hid (PutA G w v2 (([] ++ E.take i) ++ E.drop (i + 1)) w2) := HP1.out.pushs hown hgrow (HD2.out _ HP1.out.bel); clear hown hgrow HP1 HD2))
    go_ret
    exact ⟨_, rfl, HX.out.1 ▸ HP2.out.firm HX.out.2, HP2.out.bel⟩

end Go.Proofs.Ythndgmnckpimmaa

namespace Go.Proofs.Ythndgmnckpimmaa
open Go.RowKit
set_option linter.unusedVariables false
set_option linter.unusedSimpArgs false

theorem sizeBuf : (Try.prog.info? 30).map (·.size) = some 2 := by kernel_rfl
/-- The boxes of the buffer, of the change, of the result. -/
structure TkB (w : World) (cs : Array Value) (W : World) : Prop where
  r0 : W.heap[w.heap.size]? = some (.cells #[.int .i64 0, .slice none 0 0] 30)
  r1 : W.heap[w.heap.size + 1]? = some (.cells cs 35)
  r2 : W.heap[w.heap.size + 2]? = some (.cells #[.int .i64 0, .slice none 0 0] 30)
  bel : Below w.heap.size w W
theorem TkB.below {w : World} {cs : Array Value} {W W' : World} (h : TkB w cs W) (hb : Below W.heap.size W W') : TkB w cs W' := ⟨(hb.block _ (Array.getElem?_eq_some_iff.1 h.r0).1).trans h.r0, (hb.block _ (Array.getElem?_eq_some_iff.1 h.r1).1).trans h.r1, (hb.block _ (Array.getElem?_eq_some_iff.1 h.r2).1).trans h.r2, h.bel.trans (hb.mono h.bel.size)⟩
theorem TkB.setRow {w : World} {cs : Array Value} {W : World} (h : TkB w cs W) : TkB w cs (W.setRow (w.heap.size + 2) #[.int .i64 0, .slice none 0 0]) := by
  have ht := touch_setRow W (w.heap.size + 2) #[.int .i64 0, .slice none 0 0]
  exact ⟨(ht.block _ (Array.getElem?_eq_some_iff.1 h.r0).1 (by omega)).trans h.r0, (ht.block _ (Array.getElem?_eq_some_iff.1 h.r1).1 (by omega)).trans h.r1, setRow_same h.r2, h.bel.trans (ht.below (fun k e => by omega) h.bel.size)⟩
theorem row2c {W : World} {b : Nat} {v0 v1 : Value} {t : TypeId} (h : W.heap[b]? = some (.cells #[v0, v1] t)) : W.cell? ⟨b, 0, none⟩ = some v0 ∧ W.cell? ⟨b, 1, none⟩ = some v1 := ⟨by rw [cell_of_row W b 0 _ _ _ h]; rfl, by rw [cell_of_row W b 1 _ _ _ h]; rfl⟩
theorem row_set2 {W : World} {b : Nat} {z0 z1 v0 v1 : Value} {t : TypeId} (h : W.heap[b]? = some (.cells #[z0, z1] t)) : ((W.setCell ⟨b, 0, none⟩ v0).setCell ⟨b, 1, none⟩ v1).heap[b]? = some (.cells #[v0, v1] t) := by
  have hlt : b < W.heap.size := (Array.getElem?_eq_some_iff.1 h).1
  have h1 : (W.setCell ⟨b, 0, none⟩ v0).heap[b]? = some (.cells #[v0, z1] t) := by
    simp [World.setCell, Array.getElem?_modify, h]
  simp [World.setCell, Array.getElem?_modify, h]

theorem isH_one {W : World} {g b : Nat} {c : Ch} {a : Option Addr} {n : Nat} {z0 z1 v0 v1 : Value} {t : TypeId} (h : HasB W g (chCells c (.slice a c.deps.length n)).toArray) (hr : W.heap[b]? = some (.cells #[z0, z1] t)) (hi : IsI ((W.setCell ⟨b, 0, none⟩ v0).setCell ⟨b, 1, none⟩ v1) (.slice a c.deps.length n) c.deps) (hs : Sized c) : IsH ((W.setCell ⟨b, 0, none⟩ v0).setCell ⟨b, 1, none⟩ v1) (.slice (some ⟨g, 0, none⟩) 1 1) [c] := by
  have hne : g ≠ b := fun e => by
    have h1 : W.heap[g]? = some (.cells (chCells c (.slice a c.deps.length n)).toArray 35) := h
    rw [e, hr] at h1
    have := congrArg (fun o => match o with | some (Obj.cells cs _ _) => cs.size | _ => 0) h1
    simp [chCells] at this
  have h2 : ((W.setCell ⟨b, 0, none⟩ v0).setCell ⟨b, 1, none⟩ v1).heap[g]? = some (.cells (chCells c (.slice a c.deps.length n)).toArray 35) := (RowKit.Below.heap_setCell _ _ _ _ (by show g ≠ b; exact hne)).trans ((RowKit.Below.heap_setCell _ _ _ _ (by show g ≠ b; exact hne)).trans h)
  refine ⟨some ⟨g, 0, none⟩, 1, rfl, Nat.le_refl _, by simp, .inr ⟨g, 0, rfl, fun i hi2 => ?_⟩⟩
  obtain rfl : i = 0 := by simpa using hi2
  refine ⟨_, fun j u hj => ?_, hi, hs⟩
  rw [show 0 + 0 * 13 + j = j by omega, cell_of_row _ g j _ _ _ h2]
  simpa using hj

set_option maxRecDepth 100000 in
set_option maxHeartbeats 8000000 in
theorem refTake0 (ac ar sq : Int) (dv : Value) (kd nc nr pc pr fc fr : Int) (nm vl : ByteArray) (ds : List Int) (kv : Value) (kn : List Int) (w : World) (hk : IsI w kv kn) (hd : IsI w dv ds) (hs : Sized (⟨ac, ar, sq, ds, kd, nc, nr, pc, pr, fc, fr, nm, vl⟩ : Ch)) :
    Calls Try.prog 8 #[.agg #[.int .i64 0, .slice none 0 0], kv, .agg #[.int .i64 ac, .int .i64 ar, .int .i64 sq, dv, .int .i64 kd, .int .i64 nc, .int .i64 nr, .int .i64 pc, .int .i64 pr, .int .i64 fc, .int .i64 fr, .string nm, .string vl]] w fun e w' => ∃ a n c, e = .returned (.tuple #[.agg #[.int .i64 0, .slice none 0 0], .slice a n c, .int .i64 (takeR 0 [] kn (⟨ac, ar, sq, ds, kd, nc, nr, pc, pr, fc, fr, nm, vl⟩ : Ch)).2.2]) ∧ IsH w' (.slice a n c) (takeR 0 [] kn (⟨ac, ar, sq, ds, kd, nc, nr, pc, pr, fc, fr, nm, vl⟩ : Ch)).2.1 ∧ Below w.heap.size w w' := by
  obtain ⟨a0, c0, e0⟩ := hk.form
  subst e0
  obtain ⟨a1, c1, e1⟩ := hd.form
  subst e1
  have HIk : Hid (IsI w (.slice a0 kn.length c0) kn) := hk
  have HId : Hid (IsI w (.slice a1 ds.length c1) ds) := hd
  obtain ⟨W0, eW⟩ : ∃ X, X = ((w.alloc (.cells #[.int .i64 0, .slice none 0 0] 30)).alloc (.cells #[.int .i64 ac, .int .i64 ar, .int .i64 sq, .slice a1 ds.length c1, .int .i64 kd, .int .i64 nc, .int .i64 nr, .int .i64 pc, .int .i64 pr, .int .i64 fc, .int .i64 fr, .string nm, .string vl] 35)).alloc (.cells #[.int .i64 0, .slice none 0 0] 30) := ⟨_, rfl⟩
  have HT : Hid (TkB w #[.int .i64 ac, .int .i64 ar, .int .i64 sq, .slice a1 ds.length c1, .int .i64 kd, .int .i64 nc, .int .i64 nr, .int .i64 pc, .int .i64 pr, .int .i64 fc, .int .i64 fr, .string nm, .string vl] W0) := by
    have h1 := heap_alloc_new (w.alloc (.cells #[.int .i64 0, .slice none 0 0] 30)) (.cells #[.int .i64 ac, .int .i64 ar, .int .i64 sq, .slice a1 ds.length c1, .int .i64 kd, .int .i64 nc, .int .i64 nr, .int .i64 pc, .int .i64 pr, .int .i64 fc, .int .i64 fr, .string nm, .string vl] 35)
    rw [show (w.alloc (.cells #[.int .i64 0, .slice none 0 0] 30)).heap.size = w.heap.size + 1 by simp] at h1
    have h2 := heap_alloc_new ((w.alloc (.cells #[.int .i64 0, .slice none 0 0] 30)).alloc (.cells #[.int .i64 ac, .int .i64 ar, .int .i64 sq, .slice a1 ds.length c1, .int .i64 kd, .int .i64 nc, .int .i64 nr, .int .i64 pc, .int .i64 pr, .int .i64 fc, .int .i64 fr, .string nm, .string vl] 35)) (.cells #[.int .i64 0, .slice none 0 0] 30)
    rw [show ((w.alloc (.cells #[.int .i64 0, .slice none 0 0] 30)).alloc (.cells #[.int .i64 ac, .int .i64 ar, .int .i64 sq, .slice a1 ds.length c1, .int .i64 kd, .int .i64 nc, .int .i64 nr, .int .i64 pc, .int .i64 pr, .int .i64 fc, .int .i64 fr, .string nm, .string vl] 35)).heap.size = w.heap.size + 2 by simp] at h2
    rw [eW]
    exact ⟨(Below.heap_alloc _ _ _ (by simp; omega)).trans ((Below.heap_alloc _ _ _ (by simp)).trans (heap_alloc_new w _)), (Below.heap_alloc _ _ _ (by simp)).trans h1, h2, (((Below.refl _ _).alloc (Nat.le_refl _) _).alloc (by simp) _).alloc (by simp; omega) _⟩
  have HN : Hid (newH [] kn (⟨ac, ar, sq, ds, kd, nc, nr, pc, pr, fc, fr, nm, vl⟩ : Ch) = if checkL kn ≠ 0 then checkL kn else if checkCh (⟨ac, ar, sq, ds, kd, nc, nr, pc, pr, fc, fr, nm, vl⟩ : Ch) ≠ 0 then checkCh (⟨ac, ar, sq, ds, kd, nc, nr, pc, pr, fc, fr, nm, vl⟩ : Ch) else if withinB (⟨ac, ar, sq, ds, kd, nc, nr, pc, pr, fc, fr, nm, vl⟩ : Ch) kn = true then 5 else 0) := by
    show _ = _
    unfold newH
    simp [ownC]
  have HT0 : Hid (takeR 0 [] kn (⟨ac, ar, sq, ds, kd, nc, nr, pc, pr, fc, fr, nm, vl⟩ : Ch) = if newH [] kn (⟨ac, ar, sq, ds, kd, nc, nr, pc, pr, fc, fr, nm, vl⟩ : Ch) ≠ 0 then ([], [], newH [] kn (⟨ac, ar, sq, ds, kd, nc, nr, pc, pr, fc, fr, nm, vl⟩ : Ch)) else if readyB kn (⟨ac, ar, sq, ds, kd, nc, nr, pc, pr, fc, fr, nm, vl⟩ : Ch) = true then ([], [(⟨ac, ar, sq, ds, kd, nc, nr, pc, pr, fc, fr, nm, vl⟩ : Ch)], 0) else ([], [], 6)) := by
    show _ = _
    unfold takeR
    split
    · rfl
    · split
      · rfl
      · rw [if_pos (by simp)]
  clear hk hd
  go_enter Try.func8, Try.ntmps8
  go_wp2_with fail
  rw [← eW]
  clear eW
  refine (refCheck_any _ kn _ (HIk.out.below HT.out.bel)).mono ?_
  rintro e w1 ⟨rfl, hw1⟩
  replace hw1 := hw1.symm
  subst hw1
  obtain ⟨ck, eck⟩ : ∃ x, x = checkL kn := ⟨_, rfl⟩
  rw [← eck]
  have HCk : Hid (checkL kn = ck) := eck.symm
  clear eck
  by_cases hck : ck = 0
  · subst hck
    have HOk : Hid (OkC kn) := (checkL_ok kn).1 HCk.out
    obtain ⟨k_0, k_1, k_2, k_3, k_4, k_5, k_6, k_7, k_8, k_9, k_10, k_11, k_12⟩ := row_cells HT.out.r1
    obtain ⟨b_0, b_1⟩ := row2c HT.out.r0
    obtain ⟨d_0, d_1⟩ := row2c HT.out.r2
    have g_0 := row_free HT.out.r2 0
    have g_1 := row_free HT.out.r2 1
    go_wp2_with fail
    refine (refCheckCh_any ac ar sq (.slice a1 ds.length c1) kd nc nr pc pr fc fr nm vl ds hs.1 _ (HId.out.below HT.out.bel)).mono ?_
    rintro e w1 ⟨rfl, hb1⟩
    replace HT : Hid (TkB w #[.int .i64 ac, .int .i64 ar, .int .i64 sq, .slice a1 ds.length c1, .int .i64 kd, .int .i64 nc, .int .i64 nr, .int .i64 pc, .int .i64 pr, .int .i64 fc, .int .i64 fr, .string nm, .string vl] w1) := HT.out.below hb1
    clear hb1
    clear k_0 k_1 k_2 k_3 k_4 k_5 k_6 k_7 k_8 k_9 k_10 k_11 k_12 b_0 b_1 d_0 d_1 g_0 g_1
    obtain ⟨ck, eck⟩ : ∃ x, x = checkCh (⟨ac, ar, sq, ds, kd, nc, nr, pc, pr, fc, fr, nm, vl⟩ : Ch) := ⟨_, rfl⟩
    rw [← eck]
    have HCc : Hid (checkCh (⟨ac, ar, sq, ds, kd, nc, nr, pc, pr, fc, fr, nm, vl⟩ : Ch) = ck) := eck.symm
    clear eck
    by_cases hcc : ck = 0
    · subst hcc
      obtain ⟨k_0, k_1, k_2, k_3, k_4, k_5, k_6, k_7, k_8, k_9, k_10, k_11, k_12⟩ := row_cells HT.out.r1
      obtain ⟨b_0, b_1⟩ := row2c HT.out.r0
      obtain ⟨d_0, d_1⟩ := row2c HT.out.r2
      have g_0 := row_free HT.out.r2 0
      have g_1 := row_free HT.out.r2 1
      go_wp2_with fail
      refine (refWithin_any ac ar sq (.slice a1 ds.length c1) kd nc nr pc pr fc fr nm vl ds _ kn _ (HIk.out.below HT.out.bel)).mono ?_
      rintro e w2 ⟨rfl, hb2⟩
      replace HT : Hid (TkB w #[.int .i64 ac, .int .i64 ar, .int .i64 sq, .slice a1 ds.length c1, .int .i64 kd, .int .i64 nc, .int .i64 nr, .int .i64 pc, .int .i64 pr, .int .i64 fc, .int .i64 fr, .string nm, .string vl] w2) := HT.out.below hb2
      clear hb2
      clear k_0 k_1 k_2 k_3 k_4 k_5 k_6 k_7 k_8 k_9 k_10 k_11 k_12 b_0 b_1 d_0 d_1 g_0 g_1
      obtain ⟨wb, ewb⟩ : ∃ b, b = withinB (⟨ac, ar, sq, ds, kd, nc, nr, pc, pr, fc, fr, nm, vl⟩ : Ch) kn := ⟨_, rfl⟩
      rw [← ewb]
      have HWb : Hid (withinB (⟨ac, ar, sq, ds, kd, nc, nr, pc, pr, fc, fr, nm, vl⟩ : Ch) kn = wb) := ewb.symm
      clear ewb
      cases wb
      · have HN0 : Hid (newH [] kn (⟨ac, ar, sq, ds, kd, nc, nr, pc, pr, fc, fr, nm, vl⟩ : Ch) = 0) := by
          show _ = _
          rw [HN.out, HCk.out, HCc.out, HWb.out]
          rfl
        obtain ⟨k_0, k_1, k_2, k_3, k_4, k_5, k_6, k_7, k_8, k_9, k_10, k_11, k_12⟩ := row_cells HT.out.r1
        obtain ⟨b_0, b_1⟩ := row2c HT.out.r0
        obtain ⟨d_0, d_1⟩ := row2c HT.out.r2
        have g_0 := row_free HT.out.r2 0
        have g_1 := row_free HT.out.r2 1
        go_wp2_with fail
        refine (refOwn0 none 0 ar sq _).mono ?_
        rintro e w3 ⟨rfl, hw3⟩
        replace hw3 := hw3.symm
        subst hw3
        go_wp2_with fail
        refine (ripe_any ac ar sq (.slice a1 ds.length c1) kd nc nr pc pr fc fr nm vl ds _ kn _ (HIk.out.below HT.out.bel) (HId.out.below HT.out.bel) HOk.out (by have h1 := right_of HCc.out; simp only at h1; omega)).mono ?_
        rintro e w4 ⟨rfl, hb4⟩
        replace HT : Hid (TkB w #[.int .i64 ac, .int .i64 ar, .int .i64 sq, .slice a1 ds.length c1, .int .i64 kd, .int .i64 nc, .int .i64 nr, .int .i64 pc, .int .i64 pr, .int .i64 fc, .int .i64 fr, .string nm, .string vl] w4) := HT.out.below hb4
        clear hb4
        clear k_0 k_1 k_2 k_3 k_4 k_5 k_6 k_7 k_8 k_9 k_10 k_11 k_12 b_0 b_1 d_0 d_1 g_0 g_1
        obtain ⟨rb, erb⟩ : ∃ b, b = readyB kn (⟨ac, ar, sq, ds, kd, nc, nr, pc, pr, fc, fr, nm, vl⟩ : Ch) := ⟨_, rfl⟩
        rw [← erb]
        have HRb : Hid (readyB kn (⟨ac, ar, sq, ds, kd, nc, nr, pc, pr, fc, fr, nm, vl⟩ : Ch) = rb) := erb.symm
        clear erb
        cases rb
        · have HR : Hid (takeR 0 [] kn (⟨ac, ar, sq, ds, kd, nc, nr, pc, pr, fc, fr, nm, vl⟩ : Ch) = ([], [], 6)) := by
            show _ = _
            rw [HT0.out, HN0.out, HRb.out]
            rfl
          obtain ⟨k_0, k_1, k_2, k_3, k_4, k_5, k_6, k_7, k_8, k_9, k_10, k_11, k_12⟩ := row_cells HT.out.r1
          obtain ⟨b_0, b_1⟩ := row2c HT.out.r0
          obtain ⟨d_0, d_1⟩ := row2c HT.out.r2
          have g_0 := row_free HT.out.r2 0
          have g_1 := row_free HT.out.r2 1
          go_wp2
          refine bodyPost_ret (v := .tuple #[.agg #[.int .i64 0, .slice none 0 0], .slice none 0 0, .int .i64 6]) ?res1 rfl ?post1
          case res1 => exact results_cell_row3 rfl _ _ (w.heap.size + 2) _ _ _ _ rfl (row_set2 HT.out.r2) Try.underlying30 rfl (by kernel_rfl) rfl rfl
          exact ⟨none, 0, 0, by rw [HR.out], by rw [HR.out]; exact IsH.non 0, ((HT.out.bel.setCell (p := ⟨w.heap.size + 2, 0, none⟩) (by show w.heap.size ≤ w.heap.size + 2; omega) _).setCell (p := ⟨w.heap.size + 2, 1, none⟩) (by show w.heap.size ≤ w.heap.size + 2; omega) _)⟩
        · have HR : Hid (takeR 0 [] kn (⟨ac, ar, sq, ds, kd, nc, nr, pc, pr, fc, fr, nm, vl⟩ : Ch) = ([], [(⟨ac, ar, sq, ds, kd, nc, nr, pc, pr, fc, fr, nm, vl⟩ : Ch)], 0)) := by
            show _ = _
            rw [HT0.out, HN0.out, HRb.out]
            rfl
          obtain ⟨k_0, k_1, k_2, k_3, k_4, k_5, k_6, k_7, k_8, k_9, k_10, k_11, k_12⟩ := row_cells HT.out.r1
          obtain ⟨b_0, b_1⟩ := row2c HT.out.r0
          obtain ⟨d_0, d_1⟩ := row2c HT.out.r2
          have g_0 := row_free HT.out.r2 0
          have g_1 := row_free HT.out.r2 1
          obtain ⟨W5, eW5⟩ : ∃ X, X = w4.alloc (.cells #[.int .i64 ac, .int .i64 ar, .int .i64 sq, .slice a1 ds.length c1, .int .i64 kd, .int .i64 nc, .int .i64 nr, .int .i64 pc, .int .i64 pr, .int .i64 fc, .int .i64 fr, .string nm, .string vl] 35) := ⟨_, rfl⟩
          have hb5 : Below w4.heap.size w4 W5 := by rw [eW5]; exact (Below.refl _ _).alloc (Nat.le_refl _) _
          have HT5 : Hid (TkB w #[.int .i64 ac, .int .i64 ar, .int .i64 sq, .slice a1 ds.length c1, .int .i64 kd, .int .i64 nc, .int .i64 nr, .int .i64 pc, .int .i64 pr, .int .i64 fc, .int .i64 fr, .string nm, .string vl] W5) := HT.out.below hb5
          have HO5 : Hid (HasB W5 w4.heap.size #[.int .i64 ac, .int .i64 ar, .int .i64 sq, .slice a1 ds.length c1, .int .i64 kd, .int .i64 nc, .int .i64 nr, .int .i64 pc, .int .i64 pr, .int .i64 fc, .int .i64 fr, .string nm, .string vl]) := by rw [eW5]; exact heap_alloc_new _ _
          have hT5 : TkB w #[.int .i64 ac, .int .i64 ar, .int .i64 sq, .slice a1 ds.length c1, .int .i64 kd, .int .i64 nc, .int .i64 nr, .int .i64 pc, .int .i64 pr, .int .i64 fc, .int .i64 fr, .string nm, .string vl] (w4.alloc (.cells #[.int .i64 ac, .int .i64 ar, .int .i64 sq, .slice a1 ds.length c1, .int .i64 kd, .int .i64 nc, .int .i64 nr, .int .i64 pc, .int .i64 pr, .int .i64 fc, .int .i64 fr, .string nm, .string vl] 35)) := by rw [← eW5]; exact HT5.out
          clear hb5
          obtain ⟨l_0, l_1, l_2, l_3, l_4, l_5, l_6, l_7, l_8, l_9, l_10, l_11, l_12⟩ := row_cells hT5.r1
          obtain ⟨h_0, h_1⟩ := row2c hT5.r0
          clear hT5
          go_wp2_with fail
          rw [← eW5]
          clear eW5 l_0 l_1 l_2 l_3 l_4 l_5 l_6 l_7 l_8 l_9 l_10 l_11 l_12 h_0 h_1
          clear k_0 k_1 k_2 k_3 k_4 k_5 k_6 k_7 k_8 k_9 k_10 k_11 k_12 b_0 b_1 d_0 d_1 g_0 g_1
          refine (refTickC_any ac ar sq (.slice a1 ds.length c1) kd nc nr pc pr fc fr nm vl _ kn _ (HIk.out.below HT5.out.bel)).mono ?_
          rintro e w6 ⟨v6, rfl, ho6, hb6⟩
          obtain ⟨a6, c6, e6⟩ := ho6.form
          subst e6
          have HT6 : Hid (TkB w #[.int .i64 ac, .int .i64 ar, .int .i64 sq, .slice a1 ds.length c1, .int .i64 kd, .int .i64 nc, .int .i64 nr, .int .i64 pc, .int .i64 pr, .int .i64 fc, .int .i64 fr, .string nm, .string vl] w6) := HT5.out.below hb6
          have HO6 : Hid (HasB w6 w4.heap.size #[.int .i64 ac, .int .i64 ar, .int .i64 sq, .slice a1 ds.length c1, .int .i64 kd, .int .i64 nc, .int .i64 nr, .int .i64 pc, .int .i64 pr, .int .i64 fc, .int .i64 fr, .string nm, .string vl]) := HO5.out.below hb6
          clear ho6 hb6 HT5 HO5 HT
          go_wp2
          refine wp_loop_rounds 1 ?_
          rw [rounds_succ]
          go_wp2_with fail
          refine (refNext0 _ none 0 _).mono ?_
          rintro e w7 ⟨rfl, hw7⟩
          replace hw7 := hw7.symm
          subst hw7
          have HH : Hid (IsH ((w6.setCell ⟨w.heap.size + 2, 0, none⟩ (.int .i64 0)).setCell ⟨w.heap.size + 2, 1, none⟩ (.slice none 0 0)) (.slice (some ⟨w4.heap.size, 0, none⟩) 1 1) [(⟨ac, ar, sq, ds, kd, nc, nr, pc, pr, fc, fr, nm, vl⟩ : Ch)]) := isH_one HO6.out HT6.out.r2 (HId.out.below ((HT6.out.bel.setCell (p := ⟨w.heap.size + 2, 0, none⟩) (by show w.heap.size ≤ w.heap.size + 2; omega) _).setCell (p := ⟨w.heap.size + 2, 1, none⟩) (by show w.heap.size ≤ w.heap.size + 2; omega) _)) hs
          obtain ⟨k_0, k_1, k_2, k_3, k_4, k_5, k_6, k_7, k_8, k_9, k_10, k_11, k_12⟩ := row_cells HT6.out.r1
          obtain ⟨b_0, b_1⟩ := row2c HT6.out.r0
          obtain ⟨d_0, d_1⟩ := row2c HT6.out.r2
          have g_0 := row_free HT6.out.r2 0
          have g_1 := row_free HT6.out.r2 1
          go_wp2
          refine bodyPost_ret (v := .tuple #[.agg #[.int .i64 0, .slice none 0 0], .slice (some ⟨w4.heap.size, 0, none⟩) 1 1, .int .i64 0]) ?res2 rfl ?post2
          case res2 => exact results_cell_row3 rfl _ _ (w.heap.size + 2) _ _ _ _ rfl (row_set2 HT6.out.r2) Try.underlying30 rfl (by kernel_rfl) rfl rfl
          exact ⟨_, 1, 1, by rw [HR.out], by rw [HR.out]; exact HH.out, ((HT6.out.bel.setCell (p := ⟨w.heap.size + 2, 0, none⟩) (by show w.heap.size ≤ w.heap.size + 2; omega) _).setCell (p := ⟨w.heap.size + 2, 1, none⟩) (by show w.heap.size ≤ w.heap.size + 2; omega) _)⟩
      · have HR : Hid (takeR 0 [] kn (⟨ac, ar, sq, ds, kd, nc, nr, pc, pr, fc, fr, nm, vl⟩ : Ch) = ([], [], 5)) := by
          show _ = _
          have hn : newH [] kn (⟨ac, ar, sq, ds, kd, nc, nr, pc, pr, fc, fr, nm, vl⟩ : Ch) = 5 := by
            rw [HN.out, HCk.out, HCc.out, HWb.out]
            rfl
          rw [HT0.out, hn]
          rfl
        obtain ⟨k_0, k_1, k_2, k_3, k_4, k_5, k_6, k_7, k_8, k_9, k_10, k_11, k_12⟩ := row_cells HT.out.r1
        obtain ⟨b_0, b_1⟩ := row2c HT.out.r0
        obtain ⟨d_0, d_1⟩ := row2c HT.out.r2
        have g_0 := row_free HT.out.r2 0
        have g_1 := row_free HT.out.r2 1
        go_wp2
        refine bodyPost_ret (v := .tuple #[.agg #[.int .i64 0, .slice none 0 0], .slice none 0 0, .int .i64 5]) ?res3 rfl ?post3
        case res3 => exact results_cell_row3 rfl _ _ (w.heap.size + 2) _ _ _ _ rfl (row_set2 HT.out.r2) Try.underlying30 rfl (by kernel_rfl) rfl rfl
        exact ⟨none, 0, 0, by rw [HR.out], by rw [HR.out]; exact IsH.non 0, ((HT.out.bel.setCell (p := ⟨w.heap.size + 2, 0, none⟩) (by show w.heap.size ≤ w.heap.size + 2; omega) _).setCell (p := ⟨w.heap.size + 2, 1, none⟩) (by show w.heap.size ≤ w.heap.size + 2; omega) _)⟩
    · have hc3 : (ck == 0) = false := by simp [hcc]
      have HR : Hid (takeR 0 [] kn (⟨ac, ar, sq, ds, kd, nc, nr, pc, pr, fc, fr, nm, vl⟩ : Ch) = ([], [], ck)) := by
        show _ = _
        have hn : newH [] kn (⟨ac, ar, sq, ds, kd, nc, nr, pc, pr, fc, fr, nm, vl⟩ : Ch) = ck := by
          rw [HN.out, HCk.out, if_neg (by simp), HCc.out, if_pos hcc]
        rw [HT0.out, hn, if_pos hcc]
      go_wp2_with fail
      refine wp_region_held_drew (S := fun W' => TkB w #[.int .i64 ac, .int .i64 ar, .int .i64 sq, .slice a1 ds.length c1, .int .i64 kd, .int .i64 nc, .int .i64 nr, .int .i64 pc, .int .i64 pr, .int .i64 fc, .int .i64 fr, .string nm, .string vl] W') (by kernel_rfl) (HT.out.below (Below.refl _ _).drew) (fun hHeld => ?_)
      obtain ⟨Uq3u0, eW⟩ : ∃ X, X = w1.drew := ⟨_, rfl⟩
      have hb : Below w1.heap.size w1 Uq3u0 := by rw [eW]; exact (Below.refl _ _).drew
      rw [← eW] at hHeld ⊢
      clear eW hb
      refine wpAnyH_take (i := 0) (oi := ⟨some 22, _, _, _, _, _⟩) (v := ?vq3ux0) rfl (by kernel_rfl) (by kernel_rfl) (by kernel_rfl) (fun _ _ _ h => h) (Or.inl ⟨by rfl, ?hyq3ux0⟩) hHeld ?restq3ux0
      case hyq3ux0 => (intro w hSw; (try dsimp only at hSw); have hk := hSw; obtain ⟨k_0, k_1, k_2, k_3, k_4, k_5, k_6, k_7, k_8, k_9, k_10, k_11, k_12⟩ := row_cells hk.r1; obtain ⟨b_0, b_1⟩ := row2c hk.r0; go_simp; try with_reducible rfl)
      simp only [Act.put, List.setIfInBounds_toArray, List.set_cons_zero, List.set_cons_succ]
      refine wpAnyH_take (i := 1) (oi := ⟨some 23, _, _, _, _, _⟩) (v := ?vq3ux1) rfl (by kernel_rfl) (by kernel_rfl) (by kernel_rfl) (fun _ _ _ h => h) (Or.inl ⟨by rfl, ?hyq3ux1⟩) hHeld ?restq3ux1
      case hyq3ux1 => (intro w hSw; (try dsimp only at hSw); have hk := hSw; obtain ⟨k_0, k_1, k_2, k_3, k_4, k_5, k_6, k_7, k_8, k_9, k_10, k_11, k_12⟩ := row_cells hk.r1; obtain ⟨b_0, b_1⟩ := row2c hk.r0; go_simp; try with_reducible rfl)
      simp only [Act.put, List.setIfInBounds_toArray, List.set_cons_zero, List.set_cons_succ]
      refine wpAnyH_ready (rs := [2]) (by kernel_rfl) (by simp) ?_
      refine AllReadyH.cons (o := ⟨some 24, _, _, _, _, _⟩) rfl (fun K hK => ?_) AllReadyH.nil
      go_simp
      refine (refCheckCh_any ac ar sq (.slice a1 ds.length c1) kd nc nr pc pr fc fr nm vl ds hs.1 _ (HId.out.below hHeld.bel)).mono ?_
      rintro e Uq3u1 ⟨rfl, hb⟩
      rw [HCc.out]
      (try go_wp2_with fail)
      refine hK.out _ _ (hHeld.below hb) (fun hHeld2 => ?_)
      clear hK K hHeld
      have hHeld := hHeld2
      clear hHeld2
      (try simp only [Act.put, List.setIfInBounds_toArray, List.set_cons_zero, List.set_cons_succ])
      clear hb
      refine wpAnyH_ready (rs := [3]) (by kernel_rfl) (by simp) ?_
      refine AllReadyH.cons (o := ⟨none, _, _, _, _, _⟩) rfl (fun K hK => ?_) AllReadyH.nil
      refine step_store_row rfl 30 (.tmp 6) (.tmp 22) rfl (w.heap.size + 2) 30 #[.int .i64 0, .slice none 0 0] #[.int .i64 0, .slice none 0 0] rfl rfl hHeld.r2 sizeBuf rfl (by simp [Value.oneCell']) ?_
      obtain ⟨Uq3u2, eW⟩ : ∃ Y, Y = Uq3u1.setRow (w.heap.size + 2) #[.int .i64 0, .slice none 0 0] := ⟨_, rfl⟩
      rw [← eW]
      have hS2 : TkB w #[.int .i64 ac, .int .i64 ar, .int .i64 sq, .slice a1 ds.length c1, .int .i64 kd, .int .i64 nc, .int .i64 nr, .int .i64 pc, .int .i64 pr, .int .i64 fc, .int .i64 fr, .string nm, .string vl] Uq3u2 := by rw [eW]; exact hHeld.setRow
      refine hK.out _ _ (hS2) (fun hHeld2 => ?_)
      clear hK K hHeld
      have hHeld := hHeld2
      clear hHeld2
      (try simp only [Act.put, List.setIfInBounds_toArray, List.set_cons_zero, List.set_cons_succ])
      clear eW hS2
      refine wpAnyH_take (i := 4) (oi := ⟨some 7, _, _, _, _, _⟩) (v := ?vq3u_2_3x4) rfl (by kernel_rfl) (by kernel_rfl) (by kernel_rfl) (fun _ _ _ h => h) (Or.inl ⟨by rfl, ?hyq3u_2_3x4⟩) hHeld ?restq3u_2_3x4
      case hyq3u_2_3x4 => (intro w _; go_simp; try with_reducible rfl)
      simp only [Act.put, List.setIfInBounds_toArray, List.set_cons_zero, List.set_cons_succ]
      refine wpAnyH_take (i := 5) (oi := ⟨some 8, _, _, _, _, _⟩) (v := ?vq3u_2_3x5) rfl (by kernel_rfl) (by kernel_rfl) (by kernel_rfl) (fun _ _ _ h => h) (Or.inl ⟨by rfl, ?hyq3u_2_3x5⟩) hHeld ?restq3u_2_3x5
      case hyq3u_2_3x5 => (intro w _; go_simp; try with_reducible rfl)
      simp only [Act.put, List.setIfInBounds_toArray, List.set_cons_zero, List.set_cons_succ]
      refine wpAnyH_done (by kernel_rfl) ?_ _
      have HT2 : Hid (TkB w #[.int .i64 ac, .int .i64 ar, .int .i64 sq, .slice a1 ds.length c1, .int .i64 kd, .int .i64 nc, .int .i64 nr, .int .i64 pc, .int .i64 pr, .int .i64 fc, .int .i64 fr, .string nm, .string vl] Uq3u2) := hHeld
      clear hHeld
      go_wp2
      refine bodyPost_ret (v := .tuple #[.agg #[.int .i64 0, .slice none 0 0], .slice none 0 0, .int .i64 ck]) ?resq rfl ?postq
      case resq => exact results_cell_row3 rfl _ _ (w.heap.size + 2) _ _ _ _ rfl HT2.out.r2 Try.underlying30 rfl (by kernel_rfl) rfl rfl
      exact ⟨none, 0, 0, by rw [HR.out], by rw [HR.out]; exact IsH.non 0, HT2.out.bel⟩
  · have hc3 : (ck == 0) = false := by simp [hck]
    have HR : Hid (takeR 0 [] kn (⟨ac, ar, sq, ds, kd, nc, nr, pc, pr, fc, fr, nm, vl⟩ : Ch) = ([], [], ck)) := by
      show _ = _
      have hn : newH [] kn (⟨ac, ar, sq, ds, kd, nc, nr, pc, pr, fc, fr, nm, vl⟩ : Ch) = ck := by
        rw [HN.out, HCk.out, if_pos hck]
      rw [HT0.out, hn, if_pos hck]
    go_wp2_with fail
    refine wp_region_held_drew (S := fun W' => TkB w #[.int .i64 ac, .int .i64 ar, .int .i64 sq, .slice a1 ds.length c1, .int .i64 kd, .int .i64 nc, .int .i64 nr, .int .i64 pc, .int .i64 pr, .int .i64 fc, .int .i64 fr, .string nm, .string vl] W') (by kernel_rfl) (HT.out.below (Below.refl _ _).drew) (fun hHeld => ?_)
    obtain ⟨Up4u0, eW⟩ : ∃ X, X = W0.drew := ⟨_, rfl⟩
    have hb : Below W0.heap.size W0 Up4u0 := by rw [eW]; exact (Below.refl _ _).drew
    rw [← eW] at hHeld ⊢
    clear eW hb
    refine wpAnyH_take (i := 0) (oi := ⟨some 16, _, _, _, _, _⟩) (v := ?vp4ux0) rfl (by kernel_rfl) (by kernel_rfl) (by kernel_rfl) (fun _ _ _ h => h) (Or.inl ⟨by rfl, ?hyp4ux0⟩) hHeld ?restp4ux0
    case hyp4ux0 => (intro w hSw; (try dsimp only at hSw); have hk := hSw; obtain ⟨k_0, k_1, k_2, k_3, k_4, k_5, k_6, k_7, k_8, k_9, k_10, k_11, k_12⟩ := row_cells hk.r1; obtain ⟨b_0, b_1⟩ := row2c hk.r0; go_simp; try with_reducible rfl)
    simp only [Act.put, List.setIfInBounds_toArray, List.set_cons_zero, List.set_cons_succ]
    refine wpAnyH_take (i := 1) (oi := ⟨some 17, _, _, _, _, _⟩) (v := ?vp4ux1) rfl (by kernel_rfl) (by kernel_rfl) (by kernel_rfl) (fun _ _ _ h => h) (Or.inl ⟨by rfl, ?hyp4ux1⟩) hHeld ?restp4ux1
    case hyp4ux1 => (intro w _; go_simp; try with_reducible rfl)
    simp only [Act.put, List.setIfInBounds_toArray, List.set_cons_zero, List.set_cons_succ]
    refine wpAnyH_ready (rs := [2]) (by kernel_rfl) (by simp) ?_
    refine AllReadyH.cons (o := ⟨some 18, _, _, _, _, _⟩) rfl (fun K hK => ?_) AllReadyH.nil
    go_simp
    refine (refCheck_any _ kn _ (HIk.out.below hHeld.bel)).mono ?_
    rintro e Up4u1 ⟨rfl, hw⟩
    replace hw := hw.symm
    subst hw
    rw [HCk.out]
    (try go_wp2_with fail)
    refine hK.out _ _ (hHeld) (fun hHeld2 => ?_)
    clear hK K hHeld
    have hHeld := hHeld2
    clear hHeld2
    (try simp only [Act.put, List.setIfInBounds_toArray, List.set_cons_zero, List.set_cons_succ])
    refine wpAnyH_ready (rs := [3]) (by kernel_rfl) (by simp) ?_
    refine AllReadyH.cons (o := ⟨none, _, _, _, _, _⟩) rfl (fun K hK => ?_) AllReadyH.nil
    refine step_store_row rfl 30 (.tmp 6) (.tmp 16) rfl (w.heap.size + 2) 30 #[.int .i64 0, .slice none 0 0] #[.int .i64 0, .slice none 0 0] rfl rfl hHeld.r2 sizeBuf rfl (by simp [Value.oneCell']) ?_
    obtain ⟨Up4u2, eW⟩ : ∃ Y, Y = Up4u0.setRow (w.heap.size + 2) #[.int .i64 0, .slice none 0 0] := ⟨_, rfl⟩
    rw [← eW]
    have hS2 : TkB w #[.int .i64 ac, .int .i64 ar, .int .i64 sq, .slice a1 ds.length c1, .int .i64 kd, .int .i64 nc, .int .i64 nr, .int .i64 pc, .int .i64 pr, .int .i64 fc, .int .i64 fr, .string nm, .string vl] Up4u2 := by rw [eW]; exact hHeld.setRow
    refine hK.out _ _ (hS2) (fun hHeld2 => ?_)
    clear hK K hHeld
    have hHeld := hHeld2
    clear hHeld2
    (try simp only [Act.put, List.setIfInBounds_toArray, List.set_cons_zero, List.set_cons_succ])
    clear eW hS2
    refine wpAnyH_take (i := 4) (oi := ⟨some 7, _, _, _, _, _⟩) (v := ?vp4u_2_3x4) rfl (by kernel_rfl) (by kernel_rfl) (by kernel_rfl) (fun _ _ _ h => h) (Or.inl ⟨by rfl, ?hyp4u_2_3x4⟩) hHeld ?restp4u_2_3x4
    case hyp4u_2_3x4 => (intro w _; go_simp; try with_reducible rfl)
    simp only [Act.put, List.setIfInBounds_toArray, List.set_cons_zero, List.set_cons_succ]
    refine wpAnyH_take (i := 5) (oi := ⟨some 8, _, _, _, _, _⟩) (v := ?vp4u_2_3x5) rfl (by kernel_rfl) (by kernel_rfl) (by kernel_rfl) (fun _ _ _ h => h) (Or.inl ⟨by rfl, ?hyp4u_2_3x5⟩) hHeld ?restp4u_2_3x5
    case hyp4u_2_3x5 => (intro w _; go_simp; try with_reducible rfl)
    simp only [Act.put, List.setIfInBounds_toArray, List.set_cons_zero, List.set_cons_succ]
    refine wpAnyH_done (by kernel_rfl) ?_ _
    have HT2 : Hid (TkB w #[.int .i64 ac, .int .i64 ar, .int .i64 sq, .slice a1 ds.length c1, .int .i64 kd, .int .i64 nc, .int .i64 nr, .int .i64 pc, .int .i64 pr, .int .i64 fc, .int .i64 fr, .string nm, .string vl] Up4u2) := hHeld
    clear hHeld
    go_wp2
    refine bodyPost_ret (v := .tuple #[.agg #[.int .i64 0, .slice none 0 0], .slice none 0 0, .int .i64 ck]) ?resp rfl ?postp
    case resp => exact results_cell_row3 rfl _ _ (w.heap.size + 2) _ _ _ _ rfl HT2.out.r2 Try.underlying30 rfl (by kernel_rfl) rfl rfl
    exact ⟨none, 0, 0, by rw [HR.out], by rw [HR.out]; exact IsH.non 0, HT2.out.bel⟩

end Go.Proofs.Ythndgmnckpimmaa

namespace Go.Proofs.Ythndgmnckpimmaa
open Go.RowKit
set_option linter.unusedVariables false
set_option linter.unusedSimpArgs false

def HasBu (W : World) (b : Nat) (cs : Array Value) : Prop := W.heap[b]? = some (.cells cs 30)
/-- The boxes of the buffer, of the change, of the result. -/
structure TkG (w : World) (bs cs : Array Value) (W : World) : Prop where
  r0 : W.heap[w.heap.size]? = some (.cells bs 30)
  r1 : W.heap[w.heap.size + 1]? = some (.cells cs 35)
  r2 : ∃ z0 z1, W.heap[w.heap.size + 2]? = some (.cells #[z0, z1] 30)
  bel : Below w.heap.size w W
theorem TkG.lt {w : World} {bs cs : Array Value} {W : World} (h : TkG w bs cs W) : w.heap.size + 3 ≤ W.heap.size := by
  obtain ⟨_, _, hz⟩ := h.r2
  exact (Array.getElem?_eq_some_iff.1 hz).1
theorem TkG.keep {w : World} {bs cs : Array Value} {W W' : World} (h : TkG w bs cs W) (hk : ∀ k, w.heap.size ≤ k → k < w.heap.size + 3 → W'.heap[k]? = W.heap[k]?) (hb : Below w.heap.size w W') : TkG w bs cs W' :=
  ⟨(hk _ (Nat.le_refl _) (by omega)).trans h.r0, (hk _ (by omega) (by omega)).trans h.r1, h.r2.imp fun z0 => fun ⟨z1, hz⟩ => ⟨z1, (hk _ (by omega) (by omega)).trans hz⟩, hb⟩
theorem TkG.below {w : World} {bs cs : Array Value} {W W' : World} (h : TkG w bs cs W) (hb : Below W.heap.size W W') : TkG w bs cs W' := h.keep (fun k _ h2 => hb.block k (by have := h.lt; omega)) (h.bel.trans (hb.mono h.bel.size))
theorem TkG.setRow {w : World} {bs cs : Array Value} {W : World} {z0 z1 : Value} (h : TkG w bs cs W) : TkG w bs cs (W.setRow (w.heap.size + 2) #[z0, z1]) := by
  have ht := touch_setRow W (w.heap.size + 2) #[z0, z1]
  obtain ⟨_, _, hz⟩ := h.r2
  exact ⟨(ht.block _ (Array.getElem?_eq_some_iff.1 h.r0).1 (by omega)).trans h.r0, (ht.block _ (Array.getElem?_eq_some_iff.1 h.r1).1 (by omega)).trans h.r1, ⟨z0, z1, setRow_same hz⟩, h.bel.trans (ht.below (fun k e => by omega) h.bel.size)⟩
theorem TkG.grown {w : World} {bs cs : Array Value} {W W' : World} {row : Option Nat} (h : TkG w bs cs W) (hg : W.grownBy W' row) (hr : ∀ r, row = some r → w.heap.size + 3 ≤ r) : TkG w bs cs W' := h.keep (fun k _ h2 => hg.block k (by have := h.lt; omega) (fun e => by have := hr k e.symm; omega)) (h.bel.grown hg h.bel.size (fun j e => by have := hr j e; omega))
theorem HFirm.up {G : Nat → Prop} {w w' : World} {v : Value} {L : List Ch} (h : HFirm G w v L) (hb : Below w.heap.size w w') : HFirm (fun k => G k ∨ (w.heap.size ≤ k ∧ k < w'.heap.size)) w' v L :=
  (h.below hb).mono (fun _ h => .inl h) (fun k hk => hk.elim (fun q => Nat.lt_of_lt_of_le (h.1 k q) hb.size) (fun q => q.2))
theorem keepsS_setRow {S : Nat → Prop} {W : World} {b : Nat} {c : Array Value} (h : ¬ S b) : KeepsS S W (W.setRow b c) := ⟨by simp, fun k hk => setRow_other W b k c (fun e => h (e ▸ hk))⟩
theorem below_set2 {w W : World} (h : Below w.heap.size w W) (v0 v1 : Value) : Below w.heap.size w ((W.setCell ⟨w.heap.size + 2, 0, none⟩ v0).setCell ⟨w.heap.size + 2, 1, none⟩ v1) :=
  (h.setCell (p := ⟨w.heap.size + 2, 0, none⟩) (by show w.heap.size ≤ w.heap.size + 2; omega) _).setCell (p := ⟨w.heap.size + 2, 1, none⟩) (by show w.heap.size ≤ w.heap.size + 2; omega) _
/-- Where the document's Take stands while changes come. -/
structure TkL (G : Nat → Prop) (w : World) (E : List (Ch × Value)) (kn2 : List Int) (L2 : List Ch) (ov lv nv : Value) (G2 : Nat → Prop) (W : World) : Prop where
  own : OwnH (w.heap.size + 3) W ov E
  dep : ∀ x ∈ E, IsG G2 W x.2 x.1.deps ∧ Sized x.1
  apart : ∀ g, ov.ownBlock = some g → ¬ G2 g
  left : HFirm G2 W lv L2
  now : OwnI (w.heap.size + 3) W nv kn2
  g2 : ∀ k, G2 k → G k ∨ w.heap.size + 3 ≤ k
  le : w.heap.size + 3 ≤ W.heap.size
section
variable {G G2 : Nat → Prop} {w W W' : World} {E : List (Ch × Value)} {kn2 kn3 : List Int} {L2 L3 : List Ch} {ov lv nv v : Value}
theorem TkL.below (h : TkL G w E kn2 L2 ov lv nv G2 W) (hb : Below W.heap.size W W') : TkL G w E kn2 L2 ov lv nv G2 W' :=
  ⟨h.own.below hb, fun x hx => ⟨(h.dep x hx).1.keep (KeepsS.of_below hb h.left.1), (h.dep x hx).2⟩, h.apart, h.left.below hb, h.now.below hb, h.g2, Nat.le_trans h.le hb.size⟩
theorem TkL.push (h : TkL G w E kn2 L2 ov lv nv G2 W) {c : Ch} {dv : Value} {g n cap : Nat} (hown : OwnH (w.heap.size + 3) W' (.slice (some ⟨g, 0, none⟩) n cap) (E ++ [(c, dv)])) (hg : W.grownBy W' ov.ownBlock) (hat : ov.ownBlock = some g ∨ g = W.heap.size) (hd : IsG G2 W dv c.deps) (hs : Sized c) : TkL G w (E ++ [(c, dv)]) kn2 L2 (.slice (some ⟨g, 0, none⟩) n cap) lv nv G2 W' := by
  have hk : KeepsS G2 W W' := KeepsS.of_grown hg h.left.1 fun r e => h.apart r e
  refine ⟨hown, fun x hx => ?_, fun k e hG => ?_, h.left.keep hk, OwnI.keepF h.now fun k e => hg.block k (World.ownsRow.lt h.now k e).2 (fun e2 => ownsRow_apart h.now h.own (by decide) k e e2.symm), h.g2, Nat.le_trans h.le hg.size⟩
  · rcases List.mem_append.1 hx with hx | hx
    · exact ⟨(h.dep x hx).1.keep hk, (h.dep x hx).2⟩
    · rw [List.mem_singleton] at hx
      subst hx
      exact ⟨hd.keep hk, hs⟩
  · have e2 : g = k := by simpa [Value.ownBlock] using e
    subst e2
    rcases hat with ha | ha
    · exact h.apart g ha hG
    · have := h.left.1 g hG; omega
theorem TkL.tick (h : TkL G w E kn2 L2 ov lv nv G2 W) (ho : OwnI W.heap.size W' v kn3) (hb : Below W.heap.size W W') : TkL G w E kn3 L2 ov lv v G2 W' :=
  have h2 := h.below hb
  ⟨h2.own, h2.dep, h2.apart, h2.left, OwnI.low ho h.le, h2.g2, h2.le⟩
theorem TkL.less (h : TkL G w E kn2 L2 ov lv nv G2 W) (hf : HFirm (fun k => G2 k ∨ (W.heap.size ≤ k ∧ k < W'.heap.size)) W' v L3) (hb : Below W.heap.size W W') : TkL G w E kn2 L3 ov v nv (fun k => G2 k ∨ (W.heap.size ≤ k ∧ k < W'.heap.size)) W' :=
  have h2 := h.below hb
  ⟨h2.own, fun x hx => ⟨(h2.dep x hx).1.mono fun _ q => .inl q, (h2.dep x hx).2⟩, fun g e q => q.elim (h.apart g e) (fun q => by have := (World.ownsRow.lt h.own g e).2; omega), hf, h2.now, fun k q => q.elim (h.g2 k) (fun q => .inr (by have := h.le; omega)), h2.le⟩
theorem TkL.set2 (h : TkL G w E kn2 L2 ov lv nv G2 W) (hG : ∀ k, G k → k < w.heap.size) (v0 v1 : Value) : TkL G w E kn2 L2 ov lv nv G2 ((W.setCell ⟨w.heap.size + 2, 0, none⟩ v0).setCell ⟨w.heap.size + 2, 1, none⟩ v1) := by
  have hk : ∀ k, k ≠ w.heap.size + 2 → ((W.setCell ⟨w.heap.size + 2, 0, none⟩ v0).setCell ⟨w.heap.size + 2, 1, none⟩ v1).heap[k]? = W.heap[k]? := fun k hne => (RowKit.Below.heap_setCell _ _ _ _ (by show k ≠ w.heap.size + 2; exact hne)).trans (RowKit.Below.heap_setCell _ _ _ _ (by show k ≠ w.heap.size + 2; exact hne))
  have hsz : ((W.setCell ⟨w.heap.size + 2, 0, none⟩ v0).setCell ⟨w.heap.size + 2, 1, none⟩ v1).heap.size = W.heap.size := by simp
  have hS : KeepsS G2 W ((W.setCell ⟨w.heap.size + 2, 0, none⟩ v0).setCell ⟨w.heap.size + 2, 1, none⟩ v1) := ⟨by omega, fun k q => hk k (fun e => (h.g2 k q).elim (fun q2 => by have := hG k q2; omega) (fun q2 => by omega))⟩
  exact ⟨ownsRow_keep h.own fun k e => hk k (by have := (World.ownsRow.lt h.own k e).1; omega), fun x hx => ⟨(h.dep x hx).1.keep hS, (h.dep x hx).2⟩, h.apart, h.left.keep hS, ownsRow_keep h.now fun k e => hk k (by have := (World.ownsRow.lt h.now k e).1; omega), h.g2, by rw [hsz]; exact h.le⟩
end
def lenV : Value → Nat | .slice _ n _ => n | _ => 0
/-- What comes first of those that are held, and what stays behind it. -/
theorem find_erase {p : Ch → Bool} {L : List Ch} {k : Nat} (hP : Plc L) (hk : k < L.length) (hp : ∀ j (hj : j < L.length), j < k → p L[j] = false) (hq : p L[k] = true) : L.find? p = some L[k] ∧ L.filter (notAt L[k]) = L.eraseIdx k := by
  refine ⟨List.find?_eq_some_iff_getElem.2 ⟨hq, k, hk, rfl, fun j hj => by simp [hp j (by omega) hj]⟩, ?_⟩
  clear hp hq p
  induction L generalizing k with
  | nil => simp at hk
  | cons z t ih =>
    unfold Plc at hP
    rw [List.pairwise_cons] at hP
    cases k with
    | zero =>
      have e1 : notAt z z = false := by simp [notAt, isOwn]
      have e2 : t.filter (notAt z) = t := List.filter_eq_self.2 fun y hy => (notAt_iff z y).2 fun e => hP.1 y hy ⟨e.1.symm, e.2.symm⟩
      simp only [List.getElem_cons_zero, List.eraseIdx_cons_zero, List.filter_cons, e1, e2]
      simp
    | succ k =>
      have hk2 : k < t.length := by simpa using hk
      have e1 : notAt t[k] z = true := (notAt_iff _ z).2 (hP.1 t[k] (List.getElem_mem hk2))
      simp only [List.getElem_cons_succ, List.eraseIdx_cons_succ, List.filter_cons, e1, if_true]
      rw [ih hP.2 hk2]
theorem nextP_or (kn : List Int) (L : List Ch) : (nextP kn L = -1 ∧ L.find? (readyB kn) = none) ∨ ∃ (k : Nat) (h : k < L.length), nextP kn L = k ∧ readyB kn L[k] = true ∧ ∀ j (hj : j < L.length), j < k → readyB kn L[j] = false := by
  cases hf : L.findIdx? (readyB kn) with
  | none =>
    refine .inl ⟨by simp [nextP, hf], ?_⟩
    rw [List.find?_eq_none]
    intro x hx
    have := List.findIdx?_eq_none_iff.1 hf x hx
    simp [this]
  | some k =>
    obtain ⟨hk, h1, h2⟩ := List.findIdx?_eq_some_iff_getElem.1 hf
    refine .inr ⟨k, hk, by simp [nextP, hf], h1, fun j hj hjk => by have := h2 j hjk; simpa using this⟩

theorem HFirm.emp {G : Nat → Prop} {w : World} {v : Value} {L : List Ch} (h : HFirm G w v L) : HFirm G w (.slice none 0 0) [] := ⟨h.1, none, 0, rfl, Nat.le_refl _, by simp, .inl rfl⟩
theorem HFirm.ofOwn {G G2 : Nat → Prop} {B : Nat} {U : World} {v : Value} {E : List (Ch × Value)} (h : OwnH B U v E) (hl : E.length ≤ 281474976710656) (hd : ∀ x ∈ E, IsG G2 U x.2 x.1.deps ∧ Sized x.1) (h2 : ∀ k, G2 k → G k) (hB : ∀ k, B ≤ k → k < U.heap.size → G k) (hG : ∀ k, G k → k < U.heap.size) : HFirm G U v (E.map Prod.fst) := by
  have h0 := h
  refine ⟨hG, ?_⟩
  rcases h.2 with ⟨rfl, hn⟩ | ⟨g, cap, cur, rfl, hg, hc, hcap, rest⟩
  · have e : E = [] := List.eq_nil_of_length_eq_zero hn
    subst e
    exact ⟨none, 0, rfl, Nat.le_refl _, by simp, .inl rfl⟩
  · refine ⟨_, cap, by simp, by simpa using hcap, by simpa using hl, .inr ⟨g, 0, rfl, hB g hg (Array.getElem?_eq_some_iff.1 hc).1, fun i hi => ?_⟩⟩
    have hi' : i < E.length := by simpa using hi
    rw [show (E.map Prod.fst)[i] = E[i].1 by simp]
    have hd := hd _ (List.getElem_mem hi')
    refine ⟨E[i].2, fun j u hj => ?_, hd.1.mono h2, hd.2⟩
    have hj2 : j < 13 := (List.getElem?_eq_some_iff.1 hj).1
    rw [show 0 + i * 13 + j = i * 13 + j by omega]
    exact (World.ownsRow.cellAt h0 (i * 13 + j) (by omega)).trans (flatH_get E i hi' j u hj)

set_option maxRecDepth 100000 in
set_option maxHeartbeats 8000000 in
theorem refTake_any (G : Nat → Prop) (room : Int) (lv : Value) (L : List Ch) (ac ar sq : Int) (dv : Value) (kd nc nr pc pr fc fr : Int) (nm vl : ByteArray) (ds : List Int) (kv : Value) (kn : List Int) (w : World) (hk : IsI w kv kn) (hL : HFirm G w lv L) (hd : IsG G w dv ds) (hs : Sized (⟨ac, ar, sq, ds, kd, nc, nr, pc, pr, fc, fr, nm, vl⟩ : Ch)) (hP : Plc L) (hC : ∀ x ∈ L, checkCh x = 0) (hll : L.length ≤ 4000) :
    Calls Try.prog 8 #[.agg #[.int .i64 room, lv], kv, .agg #[.int .i64 ac, .int .i64 ar, .int .i64 sq, dv, .int .i64 kd, .int .i64 nc, .int .i64 nr, .int .i64 pc, .int .i64 pr, .int .i64 fc, .int .i64 fr, .string nm, .string vl]] w fun e w' => ∃ v1 v2, e = .returned (.tuple #[.agg #[.int .i64 room, v1], v2, .int .i64 (takeR room L kn (⟨ac, ar, sq, ds, kd, nc, nr, pc, pr, fc, fr, nm, vl⟩ : Ch)).2.2]) ∧ HFirm (fun k => G k ∨ (w.heap.size ≤ k ∧ k < w'.heap.size)) w' v1 (takeR room L kn (⟨ac, ar, sq, ds, kd, nc, nr, pc, pr, fc, fr, nm, vl⟩ : Ch)).1 ∧ HFirm (fun k => G k ∨ (w.heap.size ≤ k ∧ k < w'.heap.size)) w' v2 (takeR room L kn (⟨ac, ar, sq, ds, kd, nc, nr, pc, pr, fc, fr, nm, vl⟩ : Ch)).2.1 ∧ Below w.heap.size w w' := by
  obtain ⟨a0, c0, e0⟩ := hk.form
  subst e0
  obtain ⟨a1, c1, e1⟩ := hd.isI.form
  subst e1
  obtain ⟨al, cl, el, hcl, _⟩ := hL.one
  subst el
  have HL : Hid (HFirm G w (.slice al L.length cl) L) := hL
  have HIk : Hid (IsI w (.slice a0 kn.length c0) kn) := hk
  have HGd : Hid (IsG G w (.slice a1 ds.length c1) ds) := hd
  have HId : Hid (IsI w (.slice a1 ds.length c1) ds) := hd.isI
  have HPC : Hid (Plc L ∧ ∀ x ∈ L, checkCh x = 0) := ⟨hP, hC⟩
  obtain ⟨W0, eW⟩ : ∃ X, X = ((w.alloc (.cells #[.int .i64 room, .slice al L.length cl] 30)).alloc (.cells #[.int .i64 ac, .int .i64 ar, .int .i64 sq, .slice a1 ds.length c1, .int .i64 kd, .int .i64 nc, .int .i64 nr, .int .i64 pc, .int .i64 pr, .int .i64 fc, .int .i64 fr, .string nm, .string vl] 35)).alloc (.cells #[.int .i64 0, .slice none 0 0] 30) := ⟨_, rfl⟩
  have HT : Hid (TkG w #[.int .i64 room, .slice al L.length cl] #[.int .i64 ac, .int .i64 ar, .int .i64 sq, .slice a1 ds.length c1, .int .i64 kd, .int .i64 nc, .int .i64 nr, .int .i64 pc, .int .i64 pr, .int .i64 fc, .int .i64 fr, .string nm, .string vl] W0) := by
    have h1 := heap_alloc_new (w.alloc (.cells #[.int .i64 room, .slice al L.length cl] 30)) (.cells #[.int .i64 ac, .int .i64 ar, .int .i64 sq, .slice a1 ds.length c1, .int .i64 kd, .int .i64 nc, .int .i64 nr, .int .i64 pc, .int .i64 pr, .int .i64 fc, .int .i64 fr, .string nm, .string vl] 35)
    rw [show (w.alloc (.cells #[.int .i64 room, .slice al L.length cl] 30)).heap.size = w.heap.size + 1 by simp] at h1
    have h2 := heap_alloc_new ((w.alloc (.cells #[.int .i64 room, .slice al L.length cl] 30)).alloc (.cells #[.int .i64 ac, .int .i64 ar, .int .i64 sq, .slice a1 ds.length c1, .int .i64 kd, .int .i64 nc, .int .i64 nr, .int .i64 pc, .int .i64 pr, .int .i64 fc, .int .i64 fr, .string nm, .string vl] 35)) (.cells #[.int .i64 0, .slice none 0 0] 30)
    rw [show ((w.alloc (.cells #[.int .i64 room, .slice al L.length cl] 30)).alloc (.cells #[.int .i64 ac, .int .i64 ar, .int .i64 sq, .slice a1 ds.length c1, .int .i64 kd, .int .i64 nc, .int .i64 nr, .int .i64 pc, .int .i64 pr, .int .i64 fc, .int .i64 fr, .string nm, .string vl] 35)).heap.size = w.heap.size + 2 by simp] at h2
    rw [eW]
    exact ⟨(Below.heap_alloc _ _ _ (by simp; omega)).trans ((Below.heap_alloc _ _ _ (by simp)).trans (heap_alloc_new w _)), (Below.heap_alloc _ _ _ (by simp)).trans h1, ⟨_, _, h2⟩, (((Below.refl _ _).alloc (Nat.le_refl _) _).alloc (by simp) _).alloc (by simp; omega) _⟩
  have HN : Hid (newH L kn (⟨ac, ar, sq, ds, kd, nc, nr, pc, pr, fc, fr, nm, vl⟩ : Ch) = if checkL kn ≠ 0 then checkL kn else if checkCh (⟨ac, ar, sq, ds, kd, nc, nr, pc, pr, fc, fr, nm, vl⟩ : Ch) ≠ 0 then checkCh (⟨ac, ar, sq, ds, kd, nc, nr, pc, pr, fc, fr, nm, vl⟩ : Ch) else if (ownC L ar sq).isSome = true ∨ withinB (⟨ac, ar, sq, ds, kd, nc, nr, pc, pr, fc, fr, nm, vl⟩ : Ch) kn = true then 5 else 0) := rfl
  have HT0 : Hid ((takeR room L kn (⟨ac, ar, sq, ds, kd, nc, nr, pc, pr, fc, fr, nm, vl⟩ : Ch)) = if newH L kn (⟨ac, ar, sq, ds, kd, nc, nr, pc, pr, fc, fr, nm, vl⟩ : Ch) ≠ 0 then (L, [], newH L kn (⟨ac, ar, sq, ds, kd, nc, nr, pc, pr, fc, fr, nm, vl⟩ : Ch)) else if readyB kn (⟨ac, ar, sq, ds, kd, nc, nr, pc, pr, fc, fr, nm, vl⟩ : Ch) = true then ((runL L.length (tickR kn ar) L).2, (⟨ac, ar, sq, ds, kd, nc, nr, pc, pr, fc, fr, nm, vl⟩ : Ch) :: (runL L.length (tickR kn ar) L).1, 0) else if room ≤ (L.length : Int) then (L, [], 6) else (insC L (⟨ac, ar, sq, ds, kd, nc, nr, pc, pr, fc, fr, nm, vl⟩ : Ch), [], 0)) := rfl
  clear hk hd hL hP hC
  go_enter Try.func8, Try.ntmps8
  go_wp2_with fail
  rw [← eW]
  clear eW
  refine (refCheck_any _ kn _ (HIk.out.below HT.out.bel)).mono ?_
  rintro e w1 ⟨rfl, hw1⟩
  replace hw1 := hw1.symm
  subst hw1
  obtain ⟨ck, eck⟩ : ∃ x, x = checkL kn := ⟨_, rfl⟩
  rw [← eck]
  have HCk : Hid (checkL kn = ck) := eck.symm
  clear eck
  by_cases hck : ck = 0
  · subst hck
    have HOk : Hid (OkC kn) := (checkL_ok kn).1 HCk.out
    obtain ⟨k_0, k_1, k_2, k_3, k_4, k_5, k_6, k_7, k_8, k_9, k_10, k_11, k_12⟩ := row_cells HT.out.r1
    obtain ⟨b_0, b_1⟩ := row2c HT.out.r0
    obtain ⟨z0, z1, hz⟩ := HT.out.r2
    obtain ⟨d_0, d_1⟩ := row2c hz
    have g_0 := row_free hz 0
    have g_1 := row_free hz 1
    have HZ : Hid (HasBu _ _ _) := hz
    clear hz
    go_wp2_with fail
    refine (refCheckCh_any ac ar sq (.slice a1 ds.length c1) kd nc nr pc pr fc fr nm vl ds hs.1 _ (HId.out.below HT.out.bel)).mono ?_
    rintro e w1 ⟨rfl, hb1⟩
    replace HT : Hid (TkG w #[.int .i64 room, .slice al L.length cl] #[.int .i64 ac, .int .i64 ar, .int .i64 sq, .slice a1 ds.length c1, .int .i64 kd, .int .i64 nc, .int .i64 nr, .int .i64 pc, .int .i64 pr, .int .i64 fc, .int .i64 fr, .string nm, .string vl] w1) := HT.out.below hb1
    clear hb1
    clear k_0 k_1 k_2 k_3 k_4 k_5 k_6 k_7 k_8 k_9 k_10 k_11 k_12 b_0 b_1 d_0 d_1 g_0 g_1 HZ
    obtain ⟨ck, eck⟩ : ∃ x, x = checkCh (⟨ac, ar, sq, ds, kd, nc, nr, pc, pr, fc, fr, nm, vl⟩ : Ch) := ⟨_, rfl⟩
    rw [← eck]
    have HCc : Hid (checkCh (⟨ac, ar, sq, ds, kd, nc, nr, pc, pr, fc, fr, nm, vl⟩ : Ch) = ck) := eck.symm
    clear eck
    by_cases hcc : ck = 0
    · subst hcc
      obtain ⟨k_0, k_1, k_2, k_3, k_4, k_5, k_6, k_7, k_8, k_9, k_10, k_11, k_12⟩ := row_cells HT.out.r1
      obtain ⟨b_0, b_1⟩ := row2c HT.out.r0
      obtain ⟨z0, z1, hz⟩ := HT.out.r2
      obtain ⟨d_0, d_1⟩ := row2c hz
      have g_0 := row_free hz 0
      have g_1 := row_free hz 1
      have HZ : Hid (HasBu _ _ _) := hz
      clear hz
      go_wp2_with fail
      refine (refWithin_any ac ar sq (.slice a1 ds.length c1) kd nc nr pc pr fc fr nm vl ds _ kn _ (HIk.out.below HT.out.bel)).mono ?_
      rintro e w2 ⟨rfl, hb2⟩
      replace HT : Hid (TkG w #[.int .i64 room, .slice al L.length cl] #[.int .i64 ac, .int .i64 ar, .int .i64 sq, .slice a1 ds.length c1, .int .i64 kd, .int .i64 nc, .int .i64 nr, .int .i64 pc, .int .i64 pr, .int .i64 fc, .int .i64 fr, .string nm, .string vl] w2) := HT.out.below hb2
      clear hb2
      clear k_0 k_1 k_2 k_3 k_4 k_5 k_6 k_7 k_8 k_9 k_10 k_11 k_12 b_0 b_1 d_0 d_1 g_0 g_1 HZ
      obtain ⟨wb, ewb⟩ : ∃ b, b = withinB (⟨ac, ar, sq, ds, kd, nc, nr, pc, pr, fc, fr, nm, vl⟩ : Ch) kn := ⟨_, rfl⟩
      rw [← ewb]
      have HWb : Hid (withinB (⟨ac, ar, sq, ds, kd, nc, nr, pc, pr, fc, fr, nm, vl⟩ : Ch) kn = wb) := ewb.symm
      clear ewb
      have HF5 : (ownC L ar sq).isSome = true ∨ wb = true → Hid ((takeR room L kn (⟨ac, ar, sq, ds, kd, nc, nr, pc, pr, fc, fr, nm, vl⟩ : Ch)) = (L, [], 5)) := fun h => by
        show _ = _
        have hn : newH L kn (⟨ac, ar, sq, ds, kd, nc, nr, pc, pr, fc, fr, nm, vl⟩ : Ch) = 5 := by
          rw [HN.out, HCk.out, HCc.out, HWb.out, if_neg (by simp), if_neg (by simp), if_pos h]
        rw [HT0.out, hn, if_pos (by decide)]
      cases wb
      · obtain ⟨k_0, k_1, k_2, k_3, k_4, k_5, k_6, k_7, k_8, k_9, k_10, k_11, k_12⟩ := row_cells HT.out.r1
        obtain ⟨b_0, b_1⟩ := row2c HT.out.r0
        obtain ⟨z0, z1, hz⟩ := HT.out.r2
        obtain ⟨d_0, d_1⟩ := row2c hz
        have g_0 := row_free hz 0
        have g_1 := row_free hz 1
        have HZ : Hid (HasBu _ _ _) := hz
        clear hz
        go_wp2_with fail
        refine (refOwn_any _ L ar sq _ (HL.out.below HT.out.bel).isH).mono ?_
        rintro e w3 ⟨rfl, hb3⟩
        replace HT : Hid (TkG w #[.int .i64 room, .slice al L.length cl] #[.int .i64 ac, .int .i64 ar, .int .i64 sq, .slice a1 ds.length c1, .int .i64 kd, .int .i64 nc, .int .i64 nr, .int .i64 pc, .int .i64 pr, .int .i64 fc, .int .i64 fr, .string nm, .string vl] w3) := HT.out.below hb3
        clear hb3
        clear k_0 k_1 k_2 k_3 k_4 k_5 k_6 k_7 k_8 k_9 k_10 k_11 k_12 b_0 b_1 d_0 d_1 g_0 g_1 HZ
        rcases ownP_or L ar sq with ⟨ho1, ho2⟩ | ⟨ko, hko, ho1, ho2⟩
        · rw [ho1]
          have HN0 : Hid (newH L kn (⟨ac, ar, sq, ds, kd, nc, nr, pc, pr, fc, fr, nm, vl⟩ : Ch) = 0) := by
            show _ = _
            rw [HN.out, HCk.out, HCc.out, HWb.out, ho2]
            rfl
          clear ho1 ho2 HF5
          obtain ⟨k_0, k_1, k_2, k_3, k_4, k_5, k_6, k_7, k_8, k_9, k_10, k_11, k_12⟩ := row_cells HT.out.r1
          obtain ⟨b_0, b_1⟩ := row2c HT.out.r0
          obtain ⟨z0, z1, hz⟩ := HT.out.r2
          obtain ⟨d_0, d_1⟩ := row2c hz
          have g_0 := row_free hz 0
          have g_1 := row_free hz 1
          have HZ : Hid (HasBu _ _ _) := hz
          clear hz
          go_wp2_with fail
          refine (ripe_any ac ar sq (.slice a1 ds.length c1) kd nc nr pc pr fc fr nm vl ds _ kn _ (HIk.out.below HT.out.bel) (HId.out.below HT.out.bel) HOk.out (by have h1 := right_of HCc.out; simp only at h1; omega)).mono ?_
          rintro e w4 ⟨rfl, hb4⟩
          replace HT : Hid (TkG w #[.int .i64 room, .slice al L.length cl] #[.int .i64 ac, .int .i64 ar, .int .i64 sq, .slice a1 ds.length c1, .int .i64 kd, .int .i64 nc, .int .i64 nr, .int .i64 pc, .int .i64 pr, .int .i64 fc, .int .i64 fr, .string nm, .string vl] w4) := HT.out.below hb4
          clear hb4
          clear k_0 k_1 k_2 k_3 k_4 k_5 k_6 k_7 k_8 k_9 k_10 k_11 k_12 b_0 b_1 d_0 d_1 g_0 g_1 HZ
          obtain ⟨rb, erb⟩ : ∃ b, b = readyB kn (⟨ac, ar, sq, ds, kd, nc, nr, pc, pr, fc, fr, nm, vl⟩ : Ch) := ⟨_, rfl⟩
          rw [← erb]
          have HRb : Hid (readyB kn (⟨ac, ar, sq, ds, kd, nc, nr, pc, pr, fc, fr, nm, vl⟩ : Ch) = rb) := erb.symm
          clear erb
          cases rb
          · by_cases hrm : room ≤ (L.length : Int)
            · have HR : Hid ((takeR room L kn (⟨ac, ar, sq, ds, kd, nc, nr, pc, pr, fc, fr, nm, vl⟩ : Ch)) = (L, [], 6)) := by
                show _ = _
                rw [HT0.out, HN0.out, HRb.out, if_neg (by simp), if_neg (by simp), if_pos hrm]
              obtain ⟨k_0, k_1, k_2, k_3, k_4, k_5, k_6, k_7, k_8, k_9, k_10, k_11, k_12⟩ := row_cells HT.out.r1
              obtain ⟨b_0, b_1⟩ := row2c HT.out.r0
              obtain ⟨z0, z1, hz⟩ := HT.out.r2
              obtain ⟨d_0, d_1⟩ := row2c hz
              have g_0 := row_free hz 0
              have g_1 := row_free hz 1
              have HZ : Hid (HasBu _ _ _) := hz
              clear hz
              go_wp2
              refine bodyPost_ret (v := .tuple #[.agg #[.int .i64 room, .slice al L.length cl], .slice none 0 0, .int .i64 6]) ?res1 rfl ?post1
              case res1 => exact results_cell_row3 rfl _ _ (w.heap.size + 2) _ _ _ _ rfl (row_set2 HZ.out) Try.underlying30 rfl (by kernel_rfl) rfl rfl
              exact ⟨_, _, by rw [HR.out], by rw [HR.out]; exact HL.out.up (below_set2 HT.out.bel _ _), by rw [HR.out]; exact (HL.out.up (below_set2 HT.out.bel _ _)).emp, (below_set2 HT.out.bel _ _)⟩
            · have hrm2 : (L.length : Int) < room := by omega
              have HR : Hid ((takeR room L kn (⟨ac, ar, sq, ds, kd, nc, nr, pc, pr, fc, fr, nm, vl⟩ : Ch)) = (insC L (⟨ac, ar, sq, ds, kd, nc, nr, pc, pr, fc, fr, nm, vl⟩ : Ch), [], 0)) := by
                show _ = _
                rw [HT0.out, HN0.out, HRb.out, if_neg (by simp), if_neg (by simp), if_neg hrm]
              clear hrm
              obtain ⟨k_0, k_1, k_2, k_3, k_4, k_5, k_6, k_7, k_8, k_9, k_10, k_11, k_12⟩ := row_cells HT.out.r1
              obtain ⟨b_0, b_1⟩ := row2c HT.out.r0
              obtain ⟨z0, z1, hz⟩ := HT.out.r2
              obtain ⟨d_0, d_1⟩ := row2c hz
              have g_0 := row_free hz 0
              have g_1 := row_free hz 1
              have HZ : Hid (HasBu _ _ _) := hz
              clear hz
              go_wp2_with fail
              clear HZ k_0 k_1 k_2 k_3 k_4 k_5 k_6 k_7 k_8 k_9 k_10 k_11 k_12 b_0 b_1 d_0 d_1 g_0 g_1
              refine wp_region_held_drew (S := fun W' => TkG w #[.int .i64 room, .slice al L.length cl] #[.int .i64 ac, .int .i64 ar, .int .i64 sq, .slice a1 ds.length c1, .int .i64 kd, .int .i64 nc, .int .i64 nr, .int .i64 pc, .int .i64 pr, .int .i64 fc, .int .i64 fr, .string nm, .string vl] W') (by kernel_rfl) (HT.out.below (Below.refl _ _).drew) (fun hHeld => ?_)
              obtain ⟨Ux5u0, eW⟩ : ∃ X, X = w4.drew := ⟨_, rfl⟩
              have hb : Below w4.heap.size w4 Ux5u0 := by rw [eW]; exact (Below.refl _ _).drew
              rw [← eW] at hHeld ⊢
              clear eW hb
              refine wpAnyH_take (i := 0) (oi := ⟨some 51, _, _, _, _, _⟩) (v := ?vx5ux0) rfl (by kernel_rfl) (by kernel_rfl) (by kernel_rfl) (fun _ _ _ h => h) (Or.inl ⟨by rfl, ?hyx5ux0⟩) hHeld ?restx5ux0
              case hyx5ux0 => (intro w _; go_simp; try with_reducible rfl)
              simp only [Act.put, List.setIfInBounds_toArray, List.set_cons_zero, List.set_cons_succ]
              refine wpAnyH_take (i := 1) (oi := ⟨some 52, _, _, _, _, _⟩) (v := ?vx5ux1) rfl (by kernel_rfl) (by kernel_rfl) (by kernel_rfl) (fun _ _ _ h => h) (Or.inl ⟨by rfl, ?hyx5ux1⟩) hHeld ?restx5ux1
              case hyx5ux1 => (intro w hSw; (try dsimp only at hSw); have hk := hSw; obtain ⟨k_0, k_1, k_2, k_3, k_4, k_5, k_6, k_7, k_8, k_9, k_10, k_11, k_12⟩ := row_cells hk.r1; obtain ⟨b_0, b_1⟩ := row2c hk.r0; go_simp; try with_reducible rfl)
              simp only [Act.put, List.setIfInBounds_toArray, List.set_cons_zero, List.set_cons_succ]
              refine wpAnyH_take (i := 2) (oi := ⟨some 53, _, _, _, _, _⟩) (v := ?vx5ux2) rfl (by kernel_rfl) (by kernel_rfl) (by kernel_rfl) (fun _ _ _ h => h) (Or.inl ⟨by rfl, ?hyx5ux2⟩) hHeld ?restx5ux2
              case hyx5ux2 => (intro w _; go_simp; try with_reducible rfl)
              simp only [Act.put, List.setIfInBounds_toArray, List.set_cons_zero, List.set_cons_succ]
              refine wpAnyH_take (i := 3) (oi := ⟨some 54, _, _, _, _, _⟩) (v := ?vx5ux3) rfl (by kernel_rfl) (by kernel_rfl) (by kernel_rfl) (fun _ _ _ h => h) (Or.inl ⟨by rfl, ?hyx5ux3⟩) hHeld ?restx5ux3
              case hyx5ux3 => (intro w hSw; (try dsimp only at hSw); have hk := hSw; obtain ⟨k_0, k_1, k_2, k_3, k_4, k_5, k_6, k_7, k_8, k_9, k_10, k_11, k_12⟩ := row_cells hk.r1; obtain ⟨b_0, b_1⟩ := row2c hk.r0; go_simp; try with_reducible rfl)
              simp only [Act.put, List.setIfInBounds_toArray, List.set_cons_zero, List.set_cons_succ]
              refine wpAnyH_take (i := 4) (oi := ⟨some 55, _, _, _, _, _⟩) (v := ?vx5ux4) rfl (by kernel_rfl) (by kernel_rfl) (by kernel_rfl) (fun _ _ _ h => h) (Or.inl ⟨by rfl, ?hyx5ux4⟩) hHeld ?restx5ux4
              case hyx5ux4 => (intro w hSw; (try dsimp only at hSw); have hk := hSw; obtain ⟨k_0, k_1, k_2, k_3, k_4, k_5, k_6, k_7, k_8, k_9, k_10, k_11, k_12⟩ := row_cells hk.r1; obtain ⟨b_0, b_1⟩ := row2c hk.r0; go_simp; try with_reducible rfl)
              simp only [Act.put, List.setIfInBounds_toArray, List.set_cons_zero, List.set_cons_succ]
              refine wpAnyH_ready (rs := [5]) (by kernel_rfl) (by simp) ?_
              refine AllReadyH.cons (o := ⟨some 56, _, _, _, _, _⟩) rfl (fun K hK => ?_) AllReadyH.nil
              go_simp
              refine (refCopyCh_any ac ar sq (.slice a1 ds.length c1) kd nc nr pc pr fc fr nm vl ds _ (HId.out.below hHeld.bel)).mono ?_
              rintro e Ux5u1 ⟨v5, rfl, ho, hb⟩
              have hS5 := hHeld.below hb
              have HG5 : Hid (IsG (fun k => G k ∨ (w.heap.size + 3 ≤ k ∧ k < Ux5u1.heap.size)) Ux5u1 v5 ds) := IsG.own ho (by have := HGd.out; obtain ⟨_, _, _, _, h, _⟩ := this; exact h) (fun k h1 h2 => .inr ⟨by have := hHeld.lt; omega, h2⟩)
              have HF5 : Hid (HFirm (fun k => G k ∨ (w.heap.size + 3 ≤ k ∧ k < Ux5u1.heap.size)) Ux5u1 (.slice al L.length cl) L) := (HL.out.below hS5.bel).mono (fun _ h => .inl h) (fun k h => h.elim (fun q => Nat.lt_of_lt_of_le (HL.out.1 k q) hS5.bel.size) (fun q => q.2))
              clear ho hS5
              (try go_wp2_with fail)
              refine hK.out _ _ (hHeld.below hb) (fun hHeld2 => ?_)
              clear hK K hHeld
              have hHeld := hHeld2
              clear hHeld2
              (try simp only [Act.put, List.setIfInBounds_toArray, List.set_cons_zero, List.set_cons_succ])
              clear hb
              refine wpAnyH_ready (rs := [6]) (by kernel_rfl) (by simp) ?_
              refine AllReadyH.cons (o := ⟨some 57, _, _, _, _, _⟩) rfl (fun K hK => ?_) AllReadyH.nil
              go_simp
              refine (refPut_any (fun k => G k ∨ (w.heap.size + 3 ≤ k ∧ k < Ux5u1.heap.size)) _ L ac ar sq v5 kd nc nr pc pr fc fr nm vl ds _ HF5.out HG5.out hs hll).mono ?_
              rintro e Ux5u2 ⟨v6, rfl, hF6, hb⟩
              obtain ⟨a9, c9, e9, _⟩ := hF6.one
              subst e9
              have HF6 : Hid (HFirm (fun k => (fun k => G k ∨ (w.heap.size + 3 ≤ k ∧ k < Ux5u1.heap.size)) k ∨ (Ux5u1.heap.size ≤ k ∧ k < Ux5u2.heap.size)) Ux5u2 (.slice a9 (insC L (⟨ac, ar, sq, ds, kd, nc, nr, pc, pr, fc, fr, nm, vl⟩ : Ch)).length c9) (insC L (⟨ac, ar, sq, ds, kd, nc, nr, pc, pr, fc, fr, nm, vl⟩ : Ch))) := hF6
              have HS6 : Hid (w.heap.size + 3 ≤ Ux5u1.heap.size) := hHeld.lt
              clear hF6 HF5 HG5
              (try go_wp2_with fail)
              refine hK.out _ _ (hHeld.below hb) (fun hHeld2 => ?_)
              clear hK K hHeld
              have hHeld := hHeld2
              clear hHeld2
              (try simp only [Act.put, List.setIfInBounds_toArray, List.set_cons_zero, List.set_cons_succ])
              clear hb
              refine wpAnyH_take (i := 7) (oi := ⟨some 58, _, _, _, _, _⟩) (v := ?vx5u_5_6x7) rfl (by kernel_rfl) (by kernel_rfl) (by kernel_rfl) (fun _ _ _ h => h) (Or.inl ⟨by rfl, ?hyx5u_5_6x7⟩) hHeld ?restx5u_5_6x7
              case hyx5u_5_6x7 => (intro w hSw; (try dsimp only at hSw); have hk := hSw; obtain ⟨k_0, k_1, k_2, k_3, k_4, k_5, k_6, k_7, k_8, k_9, k_10, k_11, k_12⟩ := row_cells hk.r1; obtain ⟨b_0, b_1⟩ := row2c hk.r0; go_simp; try with_reducible rfl)
              simp only [Act.put, List.setIfInBounds_toArray, List.set_cons_zero, List.set_cons_succ]
              refine wpAnyH_ready (rs := [8]) (by kernel_rfl) (by simp) ?_
              refine AllReadyH.cons (o := ⟨none, _, _, _, _, _⟩) rfl (fun K hK => ?_) AllReadyH.nil
              have hz0 := hHeld.r2
              obtain ⟨z0, z1, hz⟩ := hz0
              refine step_store_row rfl 30 (.tmp 6) (.tmp 58) rfl (w.heap.size + 2) 30 #[z0, z1] #[.int .i64 room, .slice a9 (insC L (⟨ac, ar, sq, ds, kd, nc, nr, pc, pr, fc, fr, nm, vl⟩ : Ch)).length c9] rfl rfl hz sizeBuf rfl (by simp [Value.oneCell']) ?_
              obtain ⟨Ux5u3, eW⟩ : ∃ Y, Y = Ux5u2.setRow (w.heap.size + 2) #[.int .i64 room, .slice a9 (insC L (⟨ac, ar, sq, ds, kd, nc, nr, pc, pr, fc, fr, nm, vl⟩ : Ch)).length c9] := ⟨_, rfl⟩
              rw [← eW]
              have hS2 : TkG w #[.int .i64 room, .slice al L.length cl] #[.int .i64 ac, .int .i64 ar, .int .i64 sq, .slice a1 ds.length c1, .int .i64 kd, .int .i64 nc, .int .i64 nr, .int .i64 pc, .int .i64 pr, .int .i64 fc, .int .i64 fr, .string nm, .string vl] Ux5u3 := by rw [eW]; exact hHeld.setRow
              have HZ2 : Hid (HasBu Ux5u3 (w.heap.size + 2) #[.int .i64 room, .slice a9 (insC L (⟨ac, ar, sq, ds, kd, nc, nr, pc, pr, fc, fr, nm, vl⟩ : Ch)).length c9]) := by rw [eW]; exact setRow_same hz
              have HF7 : Hid (HFirm (fun k => (fun k => G k ∨ (w.heap.size + 3 ≤ k ∧ k < Ux5u1.heap.size)) k ∨ (Ux5u1.heap.size ≤ k ∧ k < Ux5u2.heap.size)) Ux5u3 (.slice a9 (insC L (⟨ac, ar, sq, ds, kd, nc, nr, pc, pr, fc, fr, nm, vl⟩ : Ch)).length c9) (insC L (⟨ac, ar, sq, ds, kd, nc, nr, pc, pr, fc, fr, nm, vl⟩ : Ch))) := by rw [eW]; exact HF6.out.keep (keepsS_setRow (fun h => h.elim (fun h => h.elim (fun h => by have h7 := HL.out.1 _ h; omega) (fun h => by omega)) (fun h => by have h6 := HS6.out; omega)))
              have HZ7 : Hid (Ux5u2.heap.size ≤ Ux5u3.heap.size) := by rw [eW]; exact Nat.le_of_eq (by simp)
              refine hK.out _ _ (hS2) (fun hHeld2 => ?_)
              clear hK K hHeld
              have hHeld := hHeld2
              clear hHeld2
              (try simp only [Act.put, List.setIfInBounds_toArray, List.set_cons_zero, List.set_cons_succ])
              clear eW hS2 hz
              refine wpAnyH_take (i := 9) (oi := ⟨some 7, _, _, _, _, _⟩) (v := ?vx5u_5_6_8x9) rfl (by kernel_rfl) (by kernel_rfl) (by kernel_rfl) (fun _ _ _ h => h) (Or.inl ⟨by rfl, ?hyx5u_5_6_8x9⟩) hHeld ?restx5u_5_6_8x9
              case hyx5u_5_6_8x9 => (intro w _; go_simp; try with_reducible rfl)
              simp only [Act.put, List.setIfInBounds_toArray, List.set_cons_zero, List.set_cons_succ]
              refine wpAnyH_take (i := 10) (oi := ⟨some 8, _, _, _, _, _⟩) (v := ?vx5u_5_6_8x10) rfl (by kernel_rfl) (by kernel_rfl) (by kernel_rfl) (fun _ _ _ h => h) (Or.inl ⟨by rfl, ?hyx5u_5_6_8x10⟩) hHeld ?restx5u_5_6_8x10
              case hyx5u_5_6_8x10 => (intro w _; go_simp; try with_reducible rfl)
              simp only [Act.put, List.setIfInBounds_toArray, List.set_cons_zero, List.set_cons_succ]
              refine wpAnyH_done (by kernel_rfl) ?_ _
              have HT2 : Hid (TkG w #[.int .i64 room, .slice al L.length cl] #[.int .i64 ac, .int .i64 ar, .int .i64 sq, .slice a1 ds.length c1, .int .i64 kd, .int .i64 nc, .int .i64 nr, .int .i64 pc, .int .i64 pr, .int .i64 fc, .int .i64 fr, .string nm, .string vl] Ux5u3) := hHeld
              clear hHeld
              go_wp2
              refine bodyPost_ret (v := .tuple #[.agg #[.int .i64 room, .slice a9 (insC L (⟨ac, ar, sq, ds, kd, nc, nr, pc, pr, fc, fr, nm, vl⟩ : Ch)).length c9], .slice none 0 0, .int .i64 0]) ?resx rfl ?postx
              case resx => exact results_cell_row3 rfl _ _ (w.heap.size + 2) _ _ _ _ rfl HZ2.out Try.underlying30 rfl (by kernel_rfl) rfl rfl
              have HM : Hid (HFirm (fun k => G k ∨ (w.heap.size ≤ k ∧ k < Ux5u3.heap.size)) Ux5u3 (.slice a9 (insC L (⟨ac, ar, sq, ds, kd, nc, nr, pc, pr, fc, fr, nm, vl⟩ : Ch)).length c9) (insC L (⟨ac, ar, sq, ds, kd, nc, nr, pc, pr, fc, fr, nm, vl⟩ : Ch))) := by
                refine HF7.out.mono (fun k h => ?_) (fun k h => h.elim (fun q => Nat.lt_of_lt_of_le (HL.out.1 k q) HT2.out.bel.size) (fun q => q.2))
                have h1 := HS6.out
                have h2 := HZ7.out
                have h3 := HF6.out.1 k h
                rcases h with (h | h) | h
                · exact .inl h
                · exact .inr ⟨by omega, by omega⟩
                · exact .inr ⟨by omega, by omega⟩
              exact ⟨_, _, by rw [HR.out], by rw [HR.out]; exact HM.out, by rw [HR.out]; exact (HM.out).emp, HT2.out.bel⟩
          · obtain ⟨RL, eRL⟩ : ∃ R, R = runL L.length (tickR kn ar) L := ⟨_, rfl⟩
            have HR : Hid ((takeR room L kn (⟨ac, ar, sq, ds, kd, nc, nr, pc, pr, fc, fr, nm, vl⟩ : Ch)) = (RL.2, (⟨ac, ar, sq, ds, kd, nc, nr, pc, pr, fc, fr, nm, vl⟩ : Ch) :: RL.1, 0)) := by
              show _ = _
              rw [HT0.out, HN0.out, HRb.out, if_neg (by simp), if_pos rfl, eRL]
            have HRL : Hid (RL = runL L.length (tickR kn ar) L) := eRL
            clear eRL
            obtain ⟨k_0, k_1, k_2, k_3, k_4, k_5, k_6, k_7, k_8, k_9, k_10, k_11, k_12⟩ := row_cells HT.out.r1
            obtain ⟨b_0, b_1⟩ := row2c HT.out.r0
            obtain ⟨W5, eW5⟩ : ∃ X, X = w4.alloc (.cells #[.int .i64 ac, .int .i64 ar, .int .i64 sq, .slice a1 ds.length c1, .int .i64 kd, .int .i64 nc, .int .i64 nr, .int .i64 pc, .int .i64 pr, .int .i64 fc, .int .i64 fr, .string nm, .string vl] 35) := ⟨_, rfl⟩
            have hb5 : Below w4.heap.size w4 W5 := by rw [eW5]; exact (Below.refl _ _).alloc (Nat.le_refl _) _
            have HT5 : Hid (TkG w #[.int .i64 room, .slice al L.length cl] #[.int .i64 ac, .int .i64 ar, .int .i64 sq, .slice a1 ds.length c1, .int .i64 kd, .int .i64 nc, .int .i64 nr, .int .i64 pc, .int .i64 pr, .int .i64 fc, .int .i64 fr, .string nm, .string vl] W5) := HT.out.below hb5
            have HO5 : Hid (OwnH (w.heap.size + 3) W5 (.slice (some ⟨w4.heap.size, 0, none⟩) 1 1) [((⟨ac, ar, sq, ds, kd, nc, nr, pc, pr, fc, fr, nm, vl⟩ : Ch), Value.slice a1 ds.length c1)]) := by rw [eW5]; exact OwnH.one w4 (w.heap.size + 3) HT.out.lt _ _
            have hT5 : TkG w #[.int .i64 room, .slice al L.length cl] #[.int .i64 ac, .int .i64 ar, .int .i64 sq, .slice a1 ds.length c1, .int .i64 kd, .int .i64 nc, .int .i64 nr, .int .i64 pc, .int .i64 pr, .int .i64 fc, .int .i64 fr, .string nm, .string vl] (w4.alloc (.cells #[.int .i64 ac, .int .i64 ar, .int .i64 sq, .slice a1 ds.length c1, .int .i64 kd, .int .i64 nc, .int .i64 nr, .int .i64 pc, .int .i64 pr, .int .i64 fc, .int .i64 fr, .string nm, .string vl] 35)) := by rw [← eW5]; exact HT5.out
            have HLw : Hid (w.heap.size + 3 ≤ w4.heap.size) := HT.out.lt
            clear hb5
            obtain ⟨l_0, l_1, l_2, l_3, l_4, l_5, l_6, l_7, l_8, l_9, l_10, l_11, l_12⟩ := row_cells hT5.r1
            obtain ⟨h_0, h_1⟩ := row2c hT5.r0
            clear hT5
            go_wp2_with fail
            rw [← eW5]
            clear eW5 l_0 l_1 l_2 l_3 l_4 l_5 l_6 l_7 l_8 l_9 l_10 l_11 l_12 h_0 h_1
            clear k_0 k_1 k_2 k_3 k_4 k_5 k_6 k_7 k_8 k_9 k_10 k_11 k_12 b_0 b_1
            refine (refTickC_any ac ar sq (.slice a1 ds.length c1) kd nc nr pc pr fc fr nm vl _ kn _ (HIk.out.below HT5.out.bel)).mono ?_
            rintro e w6 ⟨v6, rfl, ho6, hb6⟩
            obtain ⟨a6, c6, e6⟩ := ho6.form
            subst e6
            have HTL : Hid (TkL G w [((⟨ac, ar, sq, ds, kd, nc, nr, pc, pr, fc, fr, nm, vl⟩ : Ch), Value.slice a1 ds.length c1)] (tickR kn ar) L (.slice (some ⟨w4.heap.size, 0, none⟩) 1 1) (.slice al L.length cl) (.slice a6 (tickR kn ar).length c6) G w6) := by
              refine ⟨HO5.out.below hb6, fun x hx => ?_, fun g e hG => ?_, HL.out.below (HT5.out.below hb6).bel, OwnI.low ho6 HT5.out.lt, fun k q => .inl q, Nat.le_trans HT5.out.lt hb6.size⟩
              · rw [List.mem_singleton] at hx
                subst hx
                exact ⟨HGd.out.keep (KeepsS.of_below (HT5.out.below hb6).bel HL.out.1), hs⟩
              · have e2 : w4.heap.size = g := by simpa [Value.ownBlock] using e
                have := HL.out.1 g hG
                have := HLw.out
                omega
            have HT6 : Hid (TkG w #[.int .i64 room, .slice al L.length cl] #[.int .i64 ac, .int .i64 ar, .int .i64 sq, .slice a1 ds.length c1, .int .i64 kd, .int .i64 nc, .int .i64 nr, .int .i64 pc, .int .i64 pr, .int .i64 fc, .int .i64 fr, .string nm, .string vl] w6) := HT5.out.below hb6
            have HI6 : Hid ([((⟨ac, ar, sq, ds, kd, nc, nr, pc, pr, fc, fr, nm, vl⟩ : Ch), Value.slice a1 ds.length c1)].map Prod.fst ++ (runL L.length (tickR kn ar) L).1 = (⟨ac, ar, sq, ds, kd, nc, nr, pc, pr, fc, fr, nm, vl⟩ : Ch) :: RL.1 ∧ (runL L.length (tickR kn ar) L).2 = RL.2 ∧ L.length ≤ L.length ∧ L.Sublist L ∧ OkC (tickR kn ar) ∧ [((⟨ac, ar, sq, ds, kd, nc, nr, pc, pr, fc, fr, nm, vl⟩ : Ch), Value.slice a1 ds.length c1)].length + L.length ≤ 4001) := by
              refine ⟨by rw [HRL.out]; rfl, by rw [HRL.out], Nat.le_refl _, List.Sublist.refl _, (tick_ready HOk.out HCc.out HRb.out).2.1, ?_⟩
              show 1 + L.length ≤ 4001
              omega
            clear ho6 hb6 HT5 HO5 HT HLw HRL HT0 HN0 HRb HN
            go_wp2
            go_loopw [9, 10, 11, 12] (fun ov lv2 nv iv wr => ∃ (n : Nat) (E : List (Ch × Value)) (kn2 : List Int) (L2 : List Ch) (G2 : Nat → Prop), Hid (TkG w #[.int .i64 room, .slice al L.length cl] #[.int .i64 ac, .int .i64 ar, .int .i64 sq, .slice a1 ds.length c1, .int .i64 kd, .int .i64 nc, .int .i64 nr, .int .i64 pc, .int .i64 pr, .int .i64 fc, .int .i64 fr, .string nm, .string vl] wr) ∧ Hid (TkL G w E kn2 L2 ov lv2 nv G2 wr) ∧ Hid (E.map Prod.fst ++ (runL n kn2 L2).1 = (⟨ac, ar, sq, ds, kd, nc, nr, pc, pr, fc, fr, nm, vl⟩ : Ch) :: RL.1 ∧ (runL n kn2 L2).2 = RL.2 ∧ L2.length ≤ n ∧ L2.Sublist L ∧ OkC kn2 ∧ E.length + L2.length ≤ 4001)) (fun _ lv2 _ _ _ => lenV lv2)
            case atStart => exact ⟨L.length, _, _, _, _, HT6, HTL, HI6⟩
            case round =>
              obtain ⟨n, E, kn2, L2, G2, HB, HS, HI⟩ := hrel
              obtain ⟨an, cn, en⟩ := HS.out.now.form
              subst en
              obtain ⟨ae, ce, ee⟩ := HS.out.own.form
              subst ee
              obtain ⟨a3, c3, e3, hc3, hone⟩ := HS.out.left.one
              subst e3
              have HOne : Hid (∀ i (hi : i < L2.length), ∃ b o a2 e2, a3 = some ⟨b, o, none⟩ ∧ IsG G2 wr (.slice a2 L2[i].deps.length e2) L2[i].deps ∧ Sized L2[i] ∧ ∀ W', KeepsS G2 wr W' → ∀ j u, (chCells L2[i] (.slice a2 L2[i].deps.length e2))[j]? = some u → W'.cell? ⟨b, o + i * 13 + j, none⟩ = some u) := hone
              have HCk2 : Hid (Plc L2 ∧ ∀ x ∈ L2, checkCh x = 0) := ⟨HPC.out.1.sub HI.out.2.2.2.1, fun x hx => HPC.out.2 x (HI.out.2.2.2.1.subset hx)⟩
              have hL2 : L2.length ≤ 4000 := Nat.le_trans HI.out.2.2.2.1.length_le hll
              clear hone
              go_wp2_with fail
              refine (refNext_any _ kn2 _ L2 _ (OwnI.isI HS.out.now (by have := HI.out.2.2.2.2.1.1; omega)) HI.out.2.2.2.2.1 HS.out.left.isH HCk2.out.2).mono ?_
              rintro e wn ⟨rfl, hbn⟩
              have HBn : Hid (TkG w #[.int .i64 room, .slice al L.length cl] #[.int .i64 ac, .int .i64 ar, .int .i64 sq, .slice a1 ds.length c1, .int .i64 kd, .int .i64 nc, .int .i64 nr, .int .i64 pc, .int .i64 pr, .int .i64 fc, .int .i64 fr, .string nm, .string vl] wn) := HB.out.below hbn
              have HSn : Hid (TkL G w E kn2 L2 (.slice ae E.length ce) (.slice a3 L2.length c3) (.slice an kn2.length cn) G2 wn) := HS.out.below hbn
              rcases nextP_or kn2 L2 with ⟨hn1, hn2⟩ | ⟨k, hk, hn1, hn2, hn3⟩
              · rw [hn1]
                have HRu : Hid (E.map Prod.fst = (⟨ac, ar, sq, ds, kd, nc, nr, pc, pr, fc, fr, nm, vl⟩ : Ch) :: RL.1 ∧ L2 = RL.2) := by
                  have h1 := HI.out.1
                  have h2 := HI.out.2.1
                  rw [runL_none hn2] at h1 h2
                  exact ⟨by simpa using h1, h2⟩
                clear hn1 hn2 hbn HB HS
                obtain ⟨k_0, k_1, k_2, k_3, k_4, k_5, k_6, k_7, k_8, k_9, k_10, k_11, k_12⟩ := row_cells HBn.out.r1
                obtain ⟨b_0, b_1⟩ := row2c HBn.out.r0
                obtain ⟨z0, z1, hz⟩ := HBn.out.r2
                obtain ⟨d_0, d_1⟩ := row2c hz
                have g_0 := row_free hz 0
                have g_1 := row_free hz 1
                have HZ : Hid (HasBu _ _ _) := hz
                clear hz
                go_wp2
                refine bodyPost_ret (v := .tuple #[.agg #[.int .i64 room, .slice a3 L2.length c3], .slice ae E.length ce, .int .i64 0]) ?resz rfl ?postz
                case resz => exact results_cell_row3 rfl _ _ (w.heap.size + 2) _ _ _ _ rfl (row_set2 HZ.out) Try.underlying30 rfl (by kernel_rfl) rfl rfl
                have hF := HSn.out.set2 HL.out.1 (.int .i64 room) (.slice a3 L2.length c3)
                have hM := hF.left.mono (G' := fun k => G k ∨ (w.heap.size ≤ k ∧ k < ((wn.setCell ⟨w.heap.size + 2, 0, none⟩ (.int .i64 room)).setCell ⟨w.heap.size + 2, 1, none⟩ (.slice a3 L2.length c3)).heap.size)) (fun k h => (hF.g2 k h).elim (fun q => .inl q) (fun q => .inr ⟨by omega, hF.left.1 k h⟩)) (fun k h => h.elim (fun q => Nat.lt_of_lt_of_le (HL.out.1 k q) (below_set2 HBn.out.bel _ _).size) (fun q => q.2))
                have hH := HFirm.ofOwn hF.own (by have := HI.out.2.2.2.2.2; omega) hF.dep (fun k h => (hF.g2 k h).elim (fun q => .inl q) (fun q => .inr ⟨by omega, hF.left.1 k h⟩)) (fun k h1 h2 => .inr ⟨by omega, h2⟩) hM.1
                rw [HRu.out.1] at hH
                exact ⟨_, _, by rw [HR.out], by rw [HR.out]; exact HRu.out.2 ▸ hM, by rw [HR.out]; exact hH, below_set2 HBn.out.bel _ _⟩
              · rw [hn1]
                clear hbn HB
                go_wp2_with fail
                refine (refNext_any _ kn2 _ L2 _ (OwnI.isI HSn.out.now (by have := HI.out.2.2.2.2.1.1; omega)) HI.out.2.2.2.2.1 HSn.out.left.isH HCk2.out.2).mono ?_
                rintro e wm ⟨rfl, hbm⟩
                rw [hn1]
                have HBm : Hid (TkG w #[.int .i64 room, .slice al L.length cl] #[.int .i64 ac, .int .i64 ar, .int .i64 sq, .slice a1 ds.length c1, .int .i64 kd, .int .i64 nc, .int .i64 nr, .int .i64 pc, .int .i64 pr, .int .i64 fc, .int .i64 fr, .string nm, .string vl] wm) := HBn.out.below hbm
                have HSm : Hid (TkL G w E kn2 L2 (.slice ae E.length ce) (.slice a3 L2.length c3) (.slice an kn2.length cn) G2 wm) := HSn.out.below hbm
                have HKm : Hid (KeepsS G2 wn wm) := KeepsS.of_below hbm HSn.out.left.1
                clear hbm HBn HS HOne
                obtain ⟨a3', c3', e3', hc3', hone⟩ := HSm.out.left.one
                obtain ⟨b1, o1, a2, c2, ea3, hg2, hz2', hcl⟩ := hone k hk
                have ea : a3 = a3' := by simp only [Value.slice.injEq] at e3'; exact e3'.1
                rw [← ea] at ea3
                subst ea3
                have hfe := find_erase HCk2.out.1 hk hn3 hn2
                have hok := (tick_ready HI.out.2.2.2.2.1 (HCk2.out.2 _ (List.getElem_mem hk)) hn2).2.1
                obtain ⟨m, em⟩ : ∃ m, n = m + 1 := ⟨n - 1, by have := HI.out.2.2.1; omega⟩
                have hi := HI.out
                rw [em, runL_some hfe.1, hfe.2] at hi
                have hsub : (L2.eraseIdx k).Sublist L := (List.eraseIdx_sublist L2 k).trans hi.2.2.2.1
                have hle : (L2.eraseIdx k).length + 1 = L2.length := by rw [List.length_eraseIdx_of_lt hk]; omega
                have k1 : (k : Int) < (L2.length : Int) := by omega
                have k0 : (0 : Int) ≤ (k : Int) := by omega
                obtain ⟨⟨ac2, ar2, sq2, ds2, kd2, nc2, nr2, pc2, pr2, fc2, fr2, nm2, vl2⟩, ec2⟩ : ∃ c, c = L2[k] := ⟨_, rfl⟩
                rw [← ec2] at hg2 hz2' hcl hok hi
                have HG2 : Hid (IsG G2 wm (.slice a2 ds2.length c2) ds2) := hg2
                have HZ2 : Hid (Sized (⟨ac2, ar2, sq2, ds2, kd2, nc2, nr2, pc2, pr2, fc2, fr2, nm2, vl2⟩ : Ch)) := hz2'
                have HC : Hid (∀ W', KeepsS G2 wm W' → W'.cell? ⟨b1, o1 + k * 13, none⟩ = some (.int .i64 ac2) ∧ W'.cell? ⟨b1, o1 + k * 13 + 1, none⟩ = some (.int .i64 ar2) ∧ W'.cell? ⟨b1, o1 + k * 13 + 2, none⟩ = some (.int .i64 sq2) ∧ W'.cell? ⟨b1, o1 + k * 13 + 3, none⟩ = some (.slice a2 ds2.length c2) ∧ W'.cell? ⟨b1, o1 + k * 13 + 4, none⟩ = some (.int .i64 kd2) ∧ W'.cell? ⟨b1, o1 + k * 13 + 5, none⟩ = some (.int .i64 nc2) ∧ W'.cell? ⟨b1, o1 + k * 13 + 6, none⟩ = some (.int .i64 nr2) ∧ W'.cell? ⟨b1, o1 + k * 13 + 7, none⟩ = some (.int .i64 pc2) ∧ W'.cell? ⟨b1, o1 + k * 13 + 8, none⟩ = some (.int .i64 pr2) ∧ W'.cell? ⟨b1, o1 + k * 13 + 9, none⟩ = some (.int .i64 fc2) ∧ W'.cell? ⟨b1, o1 + k * 13 + 10, none⟩ = some (.int .i64 fr2) ∧ W'.cell? ⟨b1, o1 + k * 13 + 11, none⟩ = some (.string nm2) ∧ W'.cell? ⟨b1, o1 + k * 13 + 12, none⟩ = some (.string vl2)) := fun W' hb => chAll (hcl W' hb)
                have HI2 : Hid ((E ++ [((⟨ac2, ar2, sq2, ds2, kd2, nc2, nr2, pc2, pr2, fc2, fr2, nm2, vl2⟩ : Ch), Value.slice a2 ds2.length c2)]).map Prod.fst ++ (runL m (tickR kn2 ar2) (L2.eraseIdx k)).1 = (⟨ac, ar, sq, ds, kd, nc, nr, pc, pr, fc, fr, nm, vl⟩ : Ch) :: RL.1 ∧ (runL m (tickR kn2 ar2) (L2.eraseIdx k)).2 = RL.2 ∧ (L2.eraseIdx k).length ≤ m ∧ (L2.eraseIdx k).Sublist L ∧ OkC (tickR kn2 ar2) ∧ (E ++ [((⟨ac2, ar2, sq2, ds2, kd2, nc2, nr2, pc2, pr2, fc2, fr2, nm2, vl2⟩ : Ch), Value.slice a2 ds2.length c2)]).length + (L2.eraseIdx k).length ≤ 4001) := by
                  refine ⟨?_, hi.2.1, by have := hi.2.2.1; omega, hsub, hok, ?_⟩
                  · rw [List.map_append, List.append_assoc]; exact hi.1
                  · rw [List.length_append]; show E.length + 1 + _ ≤ _; have := hi.2.2.2.2.2; omega
                have HKl : Hid (kn2.length ≤ 64) := HI.out.2.2.2.2.1.1
                have HEr : Hid ((L2.eraseIdx k).length + 1 = L2.length) := hle
                have hEl : E.length ≤ 4001 := by have := hi.2.2.2.2.2; omega
                clear e3' ea hone hg2 hz2' hcl hfe hok hi hsub hle ec2 hn1 hn2 hn3 em HKm hc3' HI
                obtain ⟨p_0, p_1, p_2, p_3, p_4, p_5, p_6, p_7, p_8, p_9, p_10, p_11, p_12⟩ := HC.out _ (KeepsS.refl _ _)
                obtain ⟨X9, eX9⟩ : ∃ Y, Y = wm.alloc (.cells #[.int .i64 ac2, .int .i64 ar2, .int .i64 sq2, .slice a2 ds2.length c2, .int .i64 kd2, .int .i64 nc2, .int .i64 nr2, .int .i64 pc2, .int .i64 pr2, .int .i64 fc2, .int .i64 fr2, .string nm2, .string vl2] 35) := ⟨_, rfl⟩
                have hbx : Below wm.heap.size wm X9 := by rw [eX9]; exact (Below.refl _ _).alloc (Nat.le_refl _) _
                have HLX : Hid (HasB X9 wm.heap.size #[.int .i64 ac2, .int .i64 ar2, .int .i64 sq2, .slice a2 ds2.length c2, .int .i64 kd2, .int .i64 nc2, .int .i64 nr2, .int .i64 pc2, .int .i64 pr2, .int .i64 fc2, .int .i64 fr2, .string nm2, .string vl2]) := by rw [eX9]; exact heap_alloc_new _ _
                have HSX : Hid (TkL G w E kn2 L2 (.slice ae E.length ce) (.slice (some ⟨b1, o1, none⟩) L2.length c3) (.slice an kn2.length cn) G2 X9) := HSm.out.below hbx
                have HBX : Hid (TkG w #[.int .i64 room, .slice al L.length cl] #[.int .i64 ac, .int .i64 ar, .int .i64 sq, .slice a1 ds.length c1, .int .i64 kd, .int .i64 nc, .int .i64 nr, .int .i64 pc, .int .i64 pr, .int .i64 fc, .int .i64 fr, .string nm, .string vl] X9) := HBm.out.below hbx
                have HKX : Hid (KeepsS G2 wm X9) := KeepsS.of_below hbx HSm.out.left.1
                clear hbx
                go_wp2_with (at_builtin; rw [← eX9]; refine wpList_appH rfl _ _ rfl (w.heap.size + 3) _ E rfl HSX.out.own wm.heap.size (⟨ac2, ar2, sq2, ds2, kd2, nc2, nr2, pc2, pr2, fc2, fr2, nm2, vl2⟩ : Ch) a2 ds2.length c2 rfl HLX.out (by omega) HSX.out.le ?_; clear eX9; intro g9 c9 W9 hown hgrow hat hlt; have HS9 : Hid (TkL G w (E ++ [((⟨ac2, ar2, sq2, ds2, kd2, nc2, nr2, pc2, pr2, fc2, fr2, nm2, vl2⟩ : Ch), Value.slice a2 ds2.length c2)]) kn2 L2 (.slice (some ⟨g9, 0, none⟩) (E.length + 1) c9) (.slice (some ⟨b1, o1, none⟩) L2.length c3) (.slice an kn2.length cn) G2 W9) := HSX.out.push hown hgrow hat (HG2.out.keep HKX.out) HZ2.out; have HB9 : Hid (TkG w #[.int .i64 room, .slice al L.length cl] #[.int .i64 ac, .int .i64 ar, .int .i64 sq, .slice a1 ds.length c1, .int .i64 kd, .int .i64 nc, .int .i64 nr, .int .i64 pc, .int .i64 pr, .int .i64 fc, .int .i64 fr, .string nm, .string vl] W9) := HBX.out.grown hgrow (fun r e => (World.ownsRow.lt HSX.out.own r e).1); have HK9 : Hid (KeepsS G2 wm W9) := HKX.out.trans (KeepsS.of_grown hgrow HSX.out.left.1 (fun r e => HSX.out.apart r e)); clear hown hgrow hat hlt HSX HLX HBX HKX p_0 p_1 p_2 p_3 p_4 p_5 p_6 p_7 p_8 p_9 p_10 p_11 p_12; obtain ⟨q_0, q_1, q_2, q_3, q_4, q_5, q_6, q_7, q_8, q_9, q_10, q_11, q_12⟩ := HC.out _ HK9.out)
                clear q_0 q_1 q_2 q_3 q_4 q_5 q_6 q_7 q_8 q_9 q_10 q_11 q_12
                refine (refTickC_any ac2 ar2 sq2 (.slice a2 ds2.length c2) kd2 nc2 nr2 pc2 pr2 fc2 fr2 nm2 vl2 _ kn2 _ (OwnI.isI HS9.out.now (by have := HKl.out; omega))).mono ?_
                rintro e w10 ⟨v10, rfl, ho10, hb10⟩
                obtain ⟨a10, c10, e10⟩ := ho10.form
                subst e10
                have HS10 : Hid (TkL G w (E ++ [((⟨ac2, ar2, sq2, ds2, kd2, nc2, nr2, pc2, pr2, fc2, fr2, nm2, vl2⟩ : Ch), Value.slice a2 ds2.length c2)]) (tickR kn2 ar2) L2 (.slice (some ⟨g9, 0, none⟩) (E.length + 1) c9) (.slice (some ⟨b1, o1, none⟩) L2.length c3) (.slice a10 (tickR kn2 ar2).length c10) G2 w10) := HS9.out.tick ho10 hb10
                have HB10 : Hid (TkG w #[.int .i64 room, .slice al L.length cl] #[.int .i64 ac, .int .i64 ar, .int .i64 sq, .slice a1 ds.length c1, .int .i64 kd, .int .i64 nc, .int .i64 nr, .int .i64 pc, .int .i64 pr, .int .i64 fc, .int .i64 fr, .string nm, .string vl] w10) := HB9.out.below hb10
                clear ho10 hb10 HS9 HB9 HK9 HC HG2 HZ2 HSm HBm HSn
                go_wp2_with fail
                refine (refWithout_any G2 _ L2 k _ HS10.out.left hk (by omega)).mono ?_
                rintro e w11 ⟨v11, rfl, hf11, hb11⟩
                obtain ⟨a11, c11, e11, _⟩ := hf11.one
                subst e11
                have HS11 : Hid (TkL G w (E ++ [((⟨ac2, ar2, sq2, ds2, kd2, nc2, nr2, pc2, pr2, fc2, fr2, nm2, vl2⟩ : Ch), Value.slice a2 ds2.length c2)]) (tickR kn2 ar2) (L2.eraseIdx k) (.slice (some ⟨g9, 0, none⟩) (E.length + 1) c9) (.slice a11 (L2.eraseIdx k).length c11) (.slice a10 (tickR kn2 ar2).length c10) (fun k => G2 k ∨ (w10.heap.size ≤ k ∧ k < w11.heap.size)) w11) := HS10.out.less hf11 hb11
                have HB11 : Hid (TkG w #[.int .i64 room, .slice al L.length cl] #[.int .i64 ac, .int .i64 ar, .int .i64 sq, .slice a1 ds.length c1, .int .i64 kd, .int .i64 nc, .int .i64 nr, .int .i64 pc, .int .i64 pr, .int .i64 fc, .int .i64 fr, .string nm, .string vl] w11) := HB10.out.below hb11
                clear hf11 hb11 HS10 HB10
                go_wp2
                go_roundw
                case rel => exact ⟨m, _, _, _, _, HB11, HS11, HI2⟩
                case measure => show lenV _ < lenV _; simp only [lenV]; have := HEr.out; omega
        · rw [ho1]
          have HR := HF5 (.inl (by rw [ho2]; rfl))
          clear ho1 ho2 HF5
          obtain ⟨k_0, k_1, k_2, k_3, k_4, k_5, k_6, k_7, k_8, k_9, k_10, k_11, k_12⟩ := row_cells HT.out.r1
          obtain ⟨b_0, b_1⟩ := row2c HT.out.r0
          obtain ⟨z0, z1, hz⟩ := HT.out.r2
          obtain ⟨d_0, d_1⟩ := row2c hz
          have g_0 := row_free hz 0
          have g_1 := row_free hz 1
          have HZ : Hid (HasBu _ _ _) := hz
          clear hz
          go_wp2
          refine bodyPost_ret (v := .tuple #[.agg #[.int .i64 room, .slice al L.length cl], .slice none 0 0, .int .i64 5]) ?res2 rfl ?post2
          case res2 => exact results_cell_row3 rfl _ _ (w.heap.size + 2) _ _ _ _ rfl (row_set2 HZ.out) Try.underlying30 rfl (by kernel_rfl) rfl rfl
          exact ⟨_, _, by rw [HR.out], by rw [HR.out]; exact HL.out.up (below_set2 HT.out.bel _ _), by rw [HR.out]; exact (HL.out.up (below_set2 HT.out.bel _ _)).emp, (below_set2 HT.out.bel _ _)⟩
      · have HR := HF5 (.inr rfl)
        clear HF5
        obtain ⟨k_0, k_1, k_2, k_3, k_4, k_5, k_6, k_7, k_8, k_9, k_10, k_11, k_12⟩ := row_cells HT.out.r1
        obtain ⟨b_0, b_1⟩ := row2c HT.out.r0
        obtain ⟨z0, z1, hz⟩ := HT.out.r2
        obtain ⟨d_0, d_1⟩ := row2c hz
        have g_0 := row_free hz 0
        have g_1 := row_free hz 1
        have HZ : Hid (HasBu _ _ _) := hz
        clear hz
        go_wp2
        refine bodyPost_ret (v := .tuple #[.agg #[.int .i64 room, .slice al L.length cl], .slice none 0 0, .int .i64 5]) ?res3 rfl ?post3
        case res3 => exact results_cell_row3 rfl _ _ (w.heap.size + 2) _ _ _ _ rfl (row_set2 HZ.out) Try.underlying30 rfl (by kernel_rfl) rfl rfl
        exact ⟨_, _, by rw [HR.out], by rw [HR.out]; exact HL.out.up (below_set2 HT.out.bel _ _), by rw [HR.out]; exact (HL.out.up (below_set2 HT.out.bel _ _)).emp, (below_set2 HT.out.bel _ _)⟩
    · have hc3 : (ck == 0) = false := by simp [hcc]
      have HR : Hid ((takeR room L kn (⟨ac, ar, sq, ds, kd, nc, nr, pc, pr, fc, fr, nm, vl⟩ : Ch)) = (L, [], ck)) := by
        show _ = _
        have hn : newH L kn (⟨ac, ar, sq, ds, kd, nc, nr, pc, pr, fc, fr, nm, vl⟩ : Ch) = ck := by
          rw [HN.out, HCk.out, if_neg (by simp), HCc.out, if_pos hcc]
        rw [HT0.out, hn, if_pos hcc]
      go_wp2_with fail
      refine wp_region_held_drew (S := fun W' => TkG w #[.int .i64 room, .slice al L.length cl] #[.int .i64 ac, .int .i64 ar, .int .i64 sq, .slice a1 ds.length c1, .int .i64 kd, .int .i64 nc, .int .i64 nr, .int .i64 pc, .int .i64 pr, .int .i64 fc, .int .i64 fr, .string nm, .string vl] W') (by kernel_rfl) (HT.out.below (Below.refl _ _).drew) (fun hHeld => ?_)
      obtain ⟨Uq3u0, eW⟩ : ∃ X, X = w1.drew := ⟨_, rfl⟩
      have hb : Below w1.heap.size w1 Uq3u0 := by rw [eW]; exact (Below.refl _ _).drew
      rw [← eW] at hHeld ⊢
      clear eW hb
      refine wpAnyH_take (i := 0) (oi := ⟨some 22, _, _, _, _, _⟩) (v := ?vq3ux0) rfl (by kernel_rfl) (by kernel_rfl) (by kernel_rfl) (fun _ _ _ h => h) (Or.inl ⟨by rfl, ?hyq3ux0⟩) hHeld ?restq3ux0
      case hyq3ux0 => (intro w hSw; (try dsimp only at hSw); have hk := hSw; obtain ⟨k_0, k_1, k_2, k_3, k_4, k_5, k_6, k_7, k_8, k_9, k_10, k_11, k_12⟩ := row_cells hk.r1; obtain ⟨b_0, b_1⟩ := row2c hk.r0; go_simp; try with_reducible rfl)
      simp only [Act.put, List.setIfInBounds_toArray, List.set_cons_zero, List.set_cons_succ]
      refine wpAnyH_take (i := 1) (oi := ⟨some 23, _, _, _, _, _⟩) (v := ?vq3ux1) rfl (by kernel_rfl) (by kernel_rfl) (by kernel_rfl) (fun _ _ _ h => h) (Or.inl ⟨by rfl, ?hyq3ux1⟩) hHeld ?restq3ux1
      case hyq3ux1 => (intro w hSw; (try dsimp only at hSw); have hk := hSw; obtain ⟨k_0, k_1, k_2, k_3, k_4, k_5, k_6, k_7, k_8, k_9, k_10, k_11, k_12⟩ := row_cells hk.r1; obtain ⟨b_0, b_1⟩ := row2c hk.r0; go_simp; try with_reducible rfl)
      simp only [Act.put, List.setIfInBounds_toArray, List.set_cons_zero, List.set_cons_succ]
      refine wpAnyH_ready (rs := [2]) (by kernel_rfl) (by simp) ?_
      refine AllReadyH.cons (o := ⟨some 24, _, _, _, _, _⟩) rfl (fun K hK => ?_) AllReadyH.nil
      go_simp
      refine (refCheckCh_any ac ar sq (.slice a1 ds.length c1) kd nc nr pc pr fc fr nm vl ds hs.1 _ (HId.out.below hHeld.bel)).mono ?_
      rintro e Uq3u1 ⟨rfl, hb⟩
      rw [HCc.out]
      (try go_wp2_with fail)
      refine hK.out _ _ (hHeld.below hb) (fun hHeld2 => ?_)
      clear hK K hHeld
      have hHeld := hHeld2
      clear hHeld2
      (try simp only [Act.put, List.setIfInBounds_toArray, List.set_cons_zero, List.set_cons_succ])
      clear hb
      refine wpAnyH_ready (rs := [3]) (by kernel_rfl) (by simp) ?_
      refine AllReadyH.cons (o := ⟨none, _, _, _, _, _⟩) rfl (fun K hK => ?_) AllReadyH.nil
      have hz0 := hHeld.r2
      obtain ⟨z0, z1, hz⟩ := hz0
      refine step_store_row rfl 30 (.tmp 6) (.tmp 22) rfl (w.heap.size + 2) 30 #[z0, z1] #[.int .i64 room, .slice al L.length cl] rfl rfl hz sizeBuf rfl (by simp [Value.oneCell']) ?_
      obtain ⟨Uq3u2, eW⟩ : ∃ Y, Y = Uq3u1.setRow (w.heap.size + 2) #[.int .i64 room, .slice al L.length cl] := ⟨_, rfl⟩
      rw [← eW]
      have hS2 : TkG w #[.int .i64 room, .slice al L.length cl] #[.int .i64 ac, .int .i64 ar, .int .i64 sq, .slice a1 ds.length c1, .int .i64 kd, .int .i64 nc, .int .i64 nr, .int .i64 pc, .int .i64 pr, .int .i64 fc, .int .i64 fr, .string nm, .string vl] Uq3u2 := by rw [eW]; exact hHeld.setRow
      have HZ2 : Hid (HasBu Uq3u2 (w.heap.size + 2) #[.int .i64 room, .slice al L.length cl]) := by rw [eW]; exact setRow_same hz
      refine hK.out _ _ (hS2) (fun hHeld2 => ?_)
      clear hK K hHeld
      have hHeld := hHeld2
      clear hHeld2
      (try simp only [Act.put, List.setIfInBounds_toArray, List.set_cons_zero, List.set_cons_succ])
      clear eW hS2 hz
      refine wpAnyH_take (i := 4) (oi := ⟨some 7, _, _, _, _, _⟩) (v := ?vq3u_2_3x4) rfl (by kernel_rfl) (by kernel_rfl) (by kernel_rfl) (fun _ _ _ h => h) (Or.inl ⟨by rfl, ?hyq3u_2_3x4⟩) hHeld ?restq3u_2_3x4
      case hyq3u_2_3x4 => (intro w _; go_simp; try with_reducible rfl)
      simp only [Act.put, List.setIfInBounds_toArray, List.set_cons_zero, List.set_cons_succ]
      refine wpAnyH_take (i := 5) (oi := ⟨some 8, _, _, _, _, _⟩) (v := ?vq3u_2_3x5) rfl (by kernel_rfl) (by kernel_rfl) (by kernel_rfl) (fun _ _ _ h => h) (Or.inl ⟨by rfl, ?hyq3u_2_3x5⟩) hHeld ?restq3u_2_3x5
      case hyq3u_2_3x5 => (intro w _; go_simp; try with_reducible rfl)
      simp only [Act.put, List.setIfInBounds_toArray, List.set_cons_zero, List.set_cons_succ]
      refine wpAnyH_done (by kernel_rfl) ?_ _
      have HT2 : Hid (TkG w #[.int .i64 room, .slice al L.length cl] #[.int .i64 ac, .int .i64 ar, .int .i64 sq, .slice a1 ds.length c1, .int .i64 kd, .int .i64 nc, .int .i64 nr, .int .i64 pc, .int .i64 pr, .int .i64 fc, .int .i64 fr, .string nm, .string vl] Uq3u2) := hHeld
      clear hHeld
      go_wp2
      refine bodyPost_ret (v := .tuple #[.agg #[.int .i64 room, .slice al L.length cl], .slice none 0 0, .int .i64 ck]) ?resq rfl ?postq
      case resq => exact results_cell_row3 rfl _ _ (w.heap.size + 2) _ _ _ _ rfl HZ2.out Try.underlying30 rfl (by kernel_rfl) rfl rfl
      exact ⟨_, _, by rw [HR.out], by rw [HR.out]; exact HL.out.up HT2.out.bel, by rw [HR.out]; exact (HL.out.up HT2.out.bel).emp, HT2.out.bel⟩
  · have hc3 : (ck == 0) = false := by simp [hck]
    have HR : Hid ((takeR room L kn (⟨ac, ar, sq, ds, kd, nc, nr, pc, pr, fc, fr, nm, vl⟩ : Ch)) = (L, [], ck)) := by
      show _ = _
      have hn : newH L kn (⟨ac, ar, sq, ds, kd, nc, nr, pc, pr, fc, fr, nm, vl⟩ : Ch) = ck := by
        rw [HN.out, HCk.out, if_pos hck]
      rw [HT0.out, hn, if_pos hck]
    go_wp2_with fail
    refine wp_region_held_drew (S := fun W' => TkG w #[.int .i64 room, .slice al L.length cl] #[.int .i64 ac, .int .i64 ar, .int .i64 sq, .slice a1 ds.length c1, .int .i64 kd, .int .i64 nc, .int .i64 nr, .int .i64 pc, .int .i64 pr, .int .i64 fc, .int .i64 fr, .string nm, .string vl] W') (by kernel_rfl) (HT.out.below (Below.refl _ _).drew) (fun hHeld => ?_)
    obtain ⟨Up4u0, eW⟩ : ∃ X, X = W0.drew := ⟨_, rfl⟩
    have hb : Below W0.heap.size W0 Up4u0 := by rw [eW]; exact (Below.refl _ _).drew
    rw [← eW] at hHeld ⊢
    clear eW hb
    refine wpAnyH_take (i := 0) (oi := ⟨some 16, _, _, _, _, _⟩) (v := ?vp4ux0) rfl (by kernel_rfl) (by kernel_rfl) (by kernel_rfl) (fun _ _ _ h => h) (Or.inl ⟨by rfl, ?hyp4ux0⟩) hHeld ?restp4ux0
    case hyp4ux0 => (intro w hSw; (try dsimp only at hSw); have hk := hSw; obtain ⟨k_0, k_1, k_2, k_3, k_4, k_5, k_6, k_7, k_8, k_9, k_10, k_11, k_12⟩ := row_cells hk.r1; obtain ⟨b_0, b_1⟩ := row2c hk.r0; go_simp; try with_reducible rfl)
    simp only [Act.put, List.setIfInBounds_toArray, List.set_cons_zero, List.set_cons_succ]
    refine wpAnyH_take (i := 1) (oi := ⟨some 17, _, _, _, _, _⟩) (v := ?vp4ux1) rfl (by kernel_rfl) (by kernel_rfl) (by kernel_rfl) (fun _ _ _ h => h) (Or.inl ⟨by rfl, ?hyp4ux1⟩) hHeld ?restp4ux1
    case hyp4ux1 => (intro w _; go_simp; try with_reducible rfl)
    simp only [Act.put, List.setIfInBounds_toArray, List.set_cons_zero, List.set_cons_succ]
    refine wpAnyH_ready (rs := [2]) (by kernel_rfl) (by simp) ?_
    refine AllReadyH.cons (o := ⟨some 18, _, _, _, _, _⟩) rfl (fun K hK => ?_) AllReadyH.nil
    go_simp
    refine (refCheck_any _ kn _ (HIk.out.below hHeld.bel)).mono ?_
    rintro e Up4u1 ⟨rfl, hw⟩
    replace hw := hw.symm
    subst hw
    rw [HCk.out]
    (try go_wp2_with fail)
    refine hK.out _ _ (hHeld) (fun hHeld2 => ?_)
    clear hK K hHeld
    have hHeld := hHeld2
    clear hHeld2
    (try simp only [Act.put, List.setIfInBounds_toArray, List.set_cons_zero, List.set_cons_succ])
    refine wpAnyH_ready (rs := [3]) (by kernel_rfl) (by simp) ?_
    refine AllReadyH.cons (o := ⟨none, _, _, _, _, _⟩) rfl (fun K hK => ?_) AllReadyH.nil
    have hz0 := hHeld.r2
    obtain ⟨z0, z1, hz⟩ := hz0
    refine step_store_row rfl 30 (.tmp 6) (.tmp 16) rfl (w.heap.size + 2) 30 #[z0, z1] #[.int .i64 room, .slice al L.length cl] rfl rfl hz sizeBuf rfl (by simp [Value.oneCell']) ?_
    obtain ⟨Up4u2, eW⟩ : ∃ Y, Y = Up4u0.setRow (w.heap.size + 2) #[.int .i64 room, .slice al L.length cl] := ⟨_, rfl⟩
    rw [← eW]
    have hS2 : TkG w #[.int .i64 room, .slice al L.length cl] #[.int .i64 ac, .int .i64 ar, .int .i64 sq, .slice a1 ds.length c1, .int .i64 kd, .int .i64 nc, .int .i64 nr, .int .i64 pc, .int .i64 pr, .int .i64 fc, .int .i64 fr, .string nm, .string vl] Up4u2 := by rw [eW]; exact hHeld.setRow
    have HZ2 : Hid (HasBu Up4u2 (w.heap.size + 2) #[.int .i64 room, .slice al L.length cl]) := by rw [eW]; exact setRow_same hz
    refine hK.out _ _ (hS2) (fun hHeld2 => ?_)
    clear hK K hHeld
    have hHeld := hHeld2
    clear hHeld2
    (try simp only [Act.put, List.setIfInBounds_toArray, List.set_cons_zero, List.set_cons_succ])
    clear eW hS2 hz
    refine wpAnyH_take (i := 4) (oi := ⟨some 7, _, _, _, _, _⟩) (v := ?vp4u_2_3x4) rfl (by kernel_rfl) (by kernel_rfl) (by kernel_rfl) (fun _ _ _ h => h) (Or.inl ⟨by rfl, ?hyp4u_2_3x4⟩) hHeld ?restp4u_2_3x4
    case hyp4u_2_3x4 => (intro w _; go_simp; try with_reducible rfl)
    simp only [Act.put, List.setIfInBounds_toArray, List.set_cons_zero, List.set_cons_succ]
    refine wpAnyH_take (i := 5) (oi := ⟨some 8, _, _, _, _, _⟩) (v := ?vp4u_2_3x5) rfl (by kernel_rfl) (by kernel_rfl) (by kernel_rfl) (fun _ _ _ h => h) (Or.inl ⟨by rfl, ?hyp4u_2_3x5⟩) hHeld ?restp4u_2_3x5
    case hyp4u_2_3x5 => (intro w _; go_simp; try with_reducible rfl)
    simp only [Act.put, List.setIfInBounds_toArray, List.set_cons_zero, List.set_cons_succ]
    refine wpAnyH_done (by kernel_rfl) ?_ _
    have HT2 : Hid (TkG w #[.int .i64 room, .slice al L.length cl] #[.int .i64 ac, .int .i64 ar, .int .i64 sq, .slice a1 ds.length c1, .int .i64 kd, .int .i64 nc, .int .i64 nr, .int .i64 pc, .int .i64 pr, .int .i64 fc, .int .i64 fr, .string nm, .string vl] Up4u2) := hHeld
    clear hHeld
    go_wp2
    refine bodyPost_ret (v := .tuple #[.agg #[.int .i64 room, .slice al L.length cl], .slice none 0 0, .int .i64 ck]) ?resp rfl ?postp
    case resp => exact results_cell_row3 rfl _ _ (w.heap.size + 2) _ _ _ _ rfl HZ2.out Try.underlying30 rfl (by kernel_rfl) rfl rfl
    exact ⟨_, _, by rw [HR.out], by rw [HR.out]; exact HL.out.up HT2.out.bel, by rw [HR.out]; exact (HL.out.up HT2.out.bel).emp, HT2.out.bel⟩

end Go.Proofs.Ythndgmnckpimmaa

namespace Go.Proofs.Ythndgmnckpimmaa
open Go.RowKit
set_option linter.unusedVariables false
set_option linter.unusedSimpArgs false

theorem isSome_setCell {W : World} {x : Addr} (q : Addr) (u : Value) (h : (W.cell? x).isSome = true) : ((W.setCell q u).cell? x).isSome = true := by
  obtain ⟨v, hv⟩ := Option.isSome_iff_exists.1 h
  obtain ⟨v', e⟩ := cell?_setCell_some (p := q) (x := u) hv
  rw [e]
  rfl
/-- Numbers that may be written over: they lie from block B on, and not in g. -/
def OvI (B g : Nat) (W : World) (a : Option Addr) (m : Nat) : Prop := ∀ k, k < m → ∃ h p, a = some ⟨h, p, none⟩ ∧ B ≤ h ∧ h ≠ g ∧ (W.cell? ⟨h, p + k, none⟩).isSome = true ∧ W.frozen? ⟨h, p + k, none⟩ = false
theorem OvI.of {B g : Nat} {W : World} {v : Value} {ds : List Int} (h : OwnI B W v ds) (hg : ∀ k, v.ownBlock = some k → k ≠ g) : ∃ a c, v = .slice a ds.length c ∧ OvI B g W a ds.length := by
  rcases h.2 with ⟨rfl, hn⟩ | ⟨b, cap, cur, rfl, hb, _⟩
  · exact ⟨none, 0, by rw [hn], fun k hk => by omega⟩
  · refine ⟨_, cap, rfl, fun k hk => ⟨b, 0, rfl, hb, hg b rfl, ?_, ?_⟩⟩
    · rw [Nat.zero_add, World.ownsRow.cellAt h k (by omega)]
      simp [cellsI, hk]
    · rw [Nat.zero_add]; exact World.ownsRow.frozenAt h k
theorem OvI.set {B g : Nat} {W : World} {a : Option Addr} {m : Nat} (h : OvI B g W a m) (q : Addr) (u : Value) : OvI B g (W.setCell q u) a m := fun k hk => by
  obtain ⟨b, p, e, h1, h2, h3, h4⟩ := h k hk
  exact ⟨b, p, e, h1, h2, isSome_setCell q u h3, by simpa using h4⟩
/-- A row of changes that may be written over, their clocks, too. -/
structure OvR (B n g o : Nat) (W : World) : Prop where
  gB : B ≤ g
  thr : W.there g o (n * 13)
  rows : ∀ i, i < n → ∃ a m c, W.cell? ⟨g, o + i * 13 + 3, none⟩ = some (.slice a m c) ∧ m ≤ 17592186044416 ∧ OvI B g W a m
theorem OvR.of {B : Nat} {W : World} {v : Value} {E : List (Ch × Value)} (h : OwnH B W v E) (hd : ∀ x ∈ E, OwnI B W x.2 x.1.deps ∧ Sized x.1 ∧ x.1.deps.length ≤ 17592186044416) : ∃ a c, v = .slice a E.length c ∧ (0 < E.length → ∃ g, a = some ⟨g, 0, none⟩ ∧ OvR B E.length g 0 W) := by
  rcases h.2 with ⟨rfl, hn⟩ | ⟨b, cap, cur, rfl, hb, hc, _⟩
  · exact ⟨none, 0, by rw [hn], fun h0 => by omega⟩
  · have hcell : ∀ j, j < E.length * 13 → W.cell? ⟨b, j, none⟩ = (flatH E)[j]? := fun j hj => World.ownsRow.cellAt h j hj
    refine ⟨_, cap, rfl, fun _ => ⟨b, rfl, hb, fun j hj => ⟨?_, ?_⟩, fun i hi => ?_⟩⟩
    · rw [Nat.zero_add, hcell j hj]
      have : j < (flatH E).length := by rw [flatH_length]; exact hj
      simp [this]
    · rw [Nat.zero_add]; exact World.ownsRow.frozenAt h j
    · obtain ⟨h1, _, h3⟩ := hd E[i] (List.getElem_mem hi)
      obtain ⟨a2, c2, e2, h4⟩ := OvI.of (g := b) h1 (fun k ek e => by
        obtain ⟨cur2, h5⟩ := ownsRow_type h1 k ek
        rw [e, hc] at h5
        cases h5)
      refine ⟨a2, _, c2, ?_, h3, h4⟩
      rw [show 0 + i * 13 + 3 = i * 13 + 3 by omega, hcell _ (by omega)]
      exact flatH_get E i hi 3 _ (by rw [← e2]; rfl)
theorem OvR.set {B n g o : Nat} {W : World} (h : OvR B n g o W) {q : Addr} (hq : q.block ≠ g) (u : Value) : OvR B n g o (W.setCell q u) :=
  ⟨h.gB, fun j hj => ⟨isSome_setCell q u (h.thr j hj).1, by simpa using (h.thr j hj).2⟩, fun i hi => by
    obtain ⟨a, m, c, h1, h2, h3⟩ := h.rows i hi
    exact ⟨a, m, c, by rw [World.cell?_setCell_other _ _ _ _ (fun e => hq (by rw [e]))]; exact h1, h2, h3.set q u⟩⟩
theorem BufH.keep {F : Nat → Prop} {w w' : World} {v : Value} {room : Int} {H : List Ch} (h : BufH F w v room H) (hk : KeepsS F w w') : BufH F w' v room H := by
  obtain ⟨D, hv, hp, hs⟩ := h
  refine ⟨D, ?_, hp, hs⟩
  rcases hv with ⟨bb, mb, e, hb⟩ | q
  · exact .inl ⟨bb, mb, e, hb.keep hk⟩
  · exact .inr ⟨q.1, q.2.1, q.2.2.1, fun k hF => Nat.lt_of_lt_of_le (q.2.2.2 k hF) hk.1⟩
/-- The buffer holds H, the document's list is K: they lie apart; the document's buffer lies in the box yb. -/
structure OwS (w : World) (bb yb : Nat) (room : Int) (H K : List Ch) (yl zl : Value) (F G : Nat → Prop) (W : World) : Prop where
  buf : BufH F W (.pointer (some ⟨bb, 0, none⟩)) room H
  doc : HFirm G W yl K
  apart : ∀ k, F k → ¬ G k
  fw : ∀ k, F k → w.heap.size ≤ k
  gw : ∀ k, k < w.heap.size → G k
  box : HasBu W yb #[.int .i64 room, zl]
  yF : ¬ F yb
  yG : ¬ G yb
  yw : w.heap.size ≤ yb
  bel : Below w.heap.size w W
section
variable {w W W' : World} {bb yb N : Nat} {room : Int} {H H' K K' : List Ch} {yl zl v1 : Value} {F F' G : Nat → Prop}
theorem OwS.ylt (h : OwS w bb yb room H K yl zl F G W) : yb < W.heap.size := (Array.getElem?_eq_some_iff.1 h.box).1
theorem OwS.below (h : OwS w bb yb room H K yl zl F G W) (hb : Below W.heap.size W W') : OwS w bb yb room H K yl zl F G W' :=
  ⟨h.buf.below hb, h.doc.below hb, h.apart, h.fw, h.gw, (hb.block _ h.ylt).trans h.box, h.yF, h.yG, h.yw, h.bel.trans (hb.mono h.bel.size)⟩
/-- The document's Take. -/
theorem OwS.docTake (h : OwS w bb yb room H K yl zl F G W) (hf : HFirm (fun k => G k ∨ (W.heap.size ≤ k ∧ k < W'.heap.size)) W' v1 K') (hb : Below W.heap.size W W') : OwS w bb yb room H K' v1 zl F (fun k => G k ∨ (W.heap.size ≤ k ∧ k < W'.heap.size)) W' :=
  have h2 := h.below hb
  ⟨h2.buf, hf, fun k hF hG => hG.elim (h.apart k hF) (fun q => by have := h.buf.lt k hF; omega), h.fw, fun k hk => .inl (h.gw k hk), h2.box, h.yF, fun hG => hG.elim h.yG (fun q => by have := h.ylt; omega), h.yw, h2.bel⟩
/-- The program's Take. -/
theorem OwS.take (h : OwS w bb yb room H K yl zl F G W) (hL : BufH F' W' (.pointer (some ⟨bb, 0, none⟩)) room H') (hF : ∀ k, F' k → F k ∨ W.heap.size ≤ k) (ht : Touch F W W') : OwS w bb yb room H' K yl zl F' G W' := by
  have hk : KeepsS G W W' := ⟨ht.size, fun k hG => ht.block k (h.doc.1 k hG) (fun hF => h.apart k hF hG)⟩
  refine ⟨hL, h.doc.keep hk, fun k h1 hG => (hF k h1).elim (fun q => h.apart k q hG) (fun q => by have := h.doc.1 k hG; omega), fun k h1 => (hF k h1).elim (h.fw k) (fun q => Nat.le_trans h.bel.size q), h.gw, (ht.block yb h.ylt h.yF).trans h.box, fun q => (hF yb q).elim h.yF (fun q => by have := h.ylt; omega), h.yG, h.yw, h.bel.trans (ht.below (fun k q => h.fw k q) h.bel.size)⟩
/-- What lies from block N on is written over. -/
theorem OwS.over (h : OwS w bb yb room H K yl zl F G W) (hF : ∀ k, F k → k < N) (hG : ∀ k, G k → k < N) (hy : yb < N) (hw : w.heap.size ≤ N) (hb : Below N W W') : OwS w bb yb room H K yl zl F G W' :=
  ⟨h.buf.keep (KeepsS.of_below hb hF), h.doc.keep (KeepsS.of_below hb hG), h.apart, h.fw, h.gw, (hb.block yb hy).trans h.box, h.yF, h.yG, h.yw, h.bel.trans (hb.mono hw)⟩
end
theorem BufH.ok {F : Nat → Prop} {w : World} {v : Value} {room : Int} {H : List Ch} (h : BufH F w v room H) : Plc H ∧ ∀ x ∈ H, checkCh x = 0 := by
  obtain ⟨D, h1, hp, _⟩ := h
  have hok : HoldOk D := by
    rcases h1 with ⟨_, _, _, h⟩ | ⟨_, _, rfl, _⟩
    · exact h.ok
    · exact HoldOk.nil
  refine ⟨(show Plc (D.map Prod.fst) from List.pairwise_map.2 hok.apart).perm hp, fun x hx => ?_⟩
  obtain ⟨y, hy, rfl⟩ := List.mem_map.1 (hp.mem_iff.2 hx)
  exact (hok.right y hy).1
theorem row2_cells {W : World} {b : Nat} {v0 v1 : Value} {t : TypeId} (h : W.heap[b]? = some (.cells #[v0, v1] t)) : W.cell? ⟨b, 0, none⟩ = some v0 ∧ W.cell? ⟨b, 1, none⟩ = some v1 ∧ W.frozen? ⟨b, 0, none⟩ = false ∧ W.frozen? ⟨b, 1, none⟩ = false :=
  ⟨by rw [cell_of_row W b 0 _ _ _ h]; rfl, by rw [cell_of_row W b 1 _ _ _ h]; rfl, frozen_of_row W b 0 _ _ h, frozen_of_row W b 1 _ _ h⟩
theorem row_set1 {W : World} {b i : Nat} {c : Array Value} {t : TypeId} {v : Value} (h : W.heap[b]? = some (.cells c t)) : (W.setCell ⟨b, i, none⟩ v).heap[b]? = some (.cells (c.setIfInBounds i v) t) := heap_setCell_same _ b i _ _ v h
theorem takeR_out {room : Int} {H : List Ch} {kn : List Int} {c : Ch} : (takeR room H kn c).2.1.length ≤ H.length + 1 := by
  unfold takeR
  split
  · simp
  · split
    · have := runL_len H.length (tickR kn c.ar) H
      simp only [List.length_cons]
      omega
    · split <;> simp
/-- A zero buffer of the document's, in a block. -/
def BxU (b : Nat) (W : World) : Prop := W.heap[b]? = some (.cells #[.int .i64 0, .slice none 0 0] 30)
theorem BxU.below {b : Nat} {W W' : World} (h : BxU b W) (hb : Below W.heap.size W W') : BxU b W' := (hb.block _ (row_lt h)).trans h
section
variable {w W W' : World} {bb yb N : Nat} {room : Int} {H H' K K' : List Ch} {yl zl v1 : Value} {F F' G : Nat → Prop}
theorem OwS.fresh (h : OwS w bb yb room H K yl zl F G W) : ¬ F W.heap.size ∧ ¬ G W.heap.size ∧ W.heap.size ≠ yb ∧ w.heap.size ≤ W.heap.size :=
  ⟨fun q => by have := h.buf.lt _ q; omega, fun q => by have := h.doc.1 _ q; omega, fun e => by have := h.ylt; omega, h.bel.size⟩
theorem OwS.far (h : OwS w bb yb room H K yl zl F G W) {zb i : Nat} {v : Value} (hz : ¬ F zb ∧ ¬ G zb ∧ zb ≠ yb ∧ w.heap.size ≤ zb) : OwS w bb yb room H K yl zl F G (W.setCell ⟨zb, i, none⟩ v) := by
  have far : ∀ k, k ≠ zb → (W.setCell ⟨zb, i, none⟩ v).heap[k]? = W.heap[k]? := fun k hk => RowKit.Below.heap_setCell _ _ _ _ hk
  have hs : W.heap.size ≤ (W.setCell ⟨zb, i, none⟩ v).heap.size := by simp [World.setCell]
  exact ⟨h.buf.keep ⟨hs, fun k q => far k (fun e => hz.1 (e ▸ q))⟩, h.doc.keep ⟨hs, fun k q => far k (fun e => hz.2.1 (e ▸ q))⟩, h.apart, h.fw, h.gw, (far _ (fun e => hz.2.2.1 e.symm)).trans h.box, h.yF, h.yG, h.yw, h.bel.setCell (p := ⟨zb, i, none⟩) hz.2.2.2 _⟩
theorem OwS.put (h : OwS w bb yb room H K yl zl F G W) (_ : ¬ G yb) : OwS w bb yb room H K yl yl F G ((W.setCell ⟨yb, 0, none⟩ (.int .i64 room)).setCell ⟨yb, 1, none⟩ yl) := by
  have far : ∀ k, k ≠ yb → ((W.setCell ⟨yb, 0, none⟩ (.int .i64 room)).setCell ⟨yb, 1, none⟩ yl).heap[k]? = W.heap[k]? := fun k hk => (RowKit.Below.heap_setCell _ _ _ _ hk).trans (RowKit.Below.heap_setCell _ _ _ _ hk)
  have hs : W.heap.size ≤ ((W.setCell ⟨yb, 0, none⟩ (.int .i64 room)).setCell ⟨yb, 1, none⟩ yl).heap.size := by simp [World.setCell]
  exact ⟨h.buf.keep ⟨hs, fun k q => far k (fun e => h.yF (e ▸ q))⟩, h.doc.keep ⟨hs, fun k q => far k (fun e => h.yG (e ▸ q))⟩, h.apart, h.fw, h.gw, row_set2 h.box, h.yF, h.yG, h.yw, (h.bel.setCell (p := ⟨yb, 0, none⟩) h.yw _).setCell (p := ⟨yb, 1, none⟩) h.yw _⟩
end
theorem IsI.isG {w W : World} {G : Nat → Prop} {v : Value} {ds : List Int} (h : IsI w v ds) (hb : Below w.heap.size w W) (hG : ∀ k, k < w.heap.size → G k) : IsG G W v ds := by
  obtain ⟨a, c, e, h1, h2, h3⟩ := h
  refine ⟨a, c, e, h1, h2, ?_⟩
  rcases h3 with h3 | ⟨b, o, e2, h4⟩
  · exact .inl h3
  · by_cases hd : ds = []
    · exact .inl hd
    · have hl : b < w.heap.size := cell_lt (h4 0 (by cases ds with | nil => exact absurd rfl hd | cons x y => simp))
      exact .inr ⟨b, o, e2, hG b hl, fun i hi => (hb.cell (p := ⟨b, o + i, none⟩) hl).trans (h4 i hi)⟩
theorem IsI.none (w : World) : IsI w (.slice .none 0 0) [] := ⟨_, 0, rfl, Nat.le_refl _, by simp, .inl rfl⟩

end Go.Proofs.Ythndgmnckpimmaa

namespace Go.Proofs.Ythndgmnckpimmaa
open Go.RowKit
set_option linter.unusedVariables false
set_option linter.unusedSimpArgs false

theorem results_cell_row2 {P : Program} {fn : Func} {p u : Tmp} {ty : TypeId} (h : fn.results = #[.cell p ty, .tmp u]) (tmps : Array Value) (w : World) (g : Nat) (t : TypeId) (cs : Array Value) (fr : Nat × Nat) (d : TypeDesc)
    (hp : tmps.getD p undef = .pointer (some ⟨g, 0, none⟩)) (hg : w.heap[g]? = some (.cells cs t fr))
    (hu : P.underlying ty = some d) (hd : (match d with | .struct _ | .array _ _ => true | _ => false) = true) (hi : (P.info? ty).map (·.size) = some cs.size) {k : Value} (hk : tmps.getD u undef = k) :
    (results fn tmps).run P w = .ok (.tuple #[.agg cs, k]) w := by
  rw [results_cell_tmp h, hp, hk]
  simp [asAddr, run_loadVar_row w g t ty cs fr d hg hu hd hi]
/-- What is left, and how many go. -/
def staleR (L : List Ch) (kn : List Int) : List Ch × Int := if checkL kn ≠ 0 then (L, 0) else (L.filter (fun c => !withinB c kn), (L.length : Int) - ((L.filter (fun c => !withinB c kn)).length : Int))
/-- The boxes of the buffer and of the result. -/
structure StG (w : World) (bs : Array Value) (W : World) : Prop where
  r0 : W.heap[w.heap.size]? = some (.cells bs 30)
  r1 : ∃ z0 z1, W.heap[w.heap.size + 1]? = some (.cells #[z0, z1] 30)
  bel : Below w.heap.size w W
theorem StG.lt {w : World} {bs : Array Value} {W : World} (h : StG w bs W) : w.heap.size + 2 ≤ W.heap.size := by
  obtain ⟨_, _, hz⟩ := h.r1
  exact (Array.getElem?_eq_some_iff.1 hz).1
theorem StG.keep {w : World} {bs : Array Value} {W W' : World} (h : StG w bs W) (hk : ∀ k, w.heap.size ≤ k → k < w.heap.size + 2 → W'.heap[k]? = W.heap[k]?) (hb : Below w.heap.size w W') : StG w bs W' := ⟨(hk _ (Nat.le_refl _) (by omega)).trans h.r0, h.r1.imp fun z0 => fun ⟨z1, hz⟩ => ⟨z1, (hk _ (by omega) (by omega)).trans hz⟩, hb⟩
theorem StG.setRow {w : World} {bs : Array Value} {W : World} {z0 z1 : Value} (h : StG w bs W) : StG w bs (W.setRow (w.heap.size + 1) #[z0, z1]) := by
  have ht := touch_setRow W (w.heap.size + 1) #[z0, z1]
  obtain ⟨_, _, hz⟩ := h.r1
  exact ⟨(ht.block _ (Array.getElem?_eq_some_iff.1 h.r0).1 (by omega)).trans h.r0, ⟨z0, z1, setRow_same hz⟩, h.bel.trans (ht.below (fun k e => by omega) h.bel.size)⟩
theorem StG.below {w : World} {bs : Array Value} {W W' : World} (h : StG w bs W) (hb : Below W.heap.size W W') : StG w bs W' := h.keep (fun k _ h2 => hb.block k (by have := h.lt; omega)) (h.bel.trans (hb.mono h.bel.size))
theorem StG.grown {w : World} {bs : Array Value} {W W' : World} {row : Option Nat} (h : StG w bs W) (hg : W.grownBy W' row) (hr : ∀ r, row = some r → w.heap.size + 2 ≤ r) : StG w bs W' := h.keep (fun k _ h2 => hg.block k (by have := h.lt; omega) (fun e => by have := hr k e.symm; omega)) (h.bel.grown hg h.bel.size (fun j e => by have := hr j e; omega))
/-- What is left so far. -/
structure StO (G : Nat → Prop) (w : World) (E : List (Ch × Value)) (ov : Value) (W : World) : Prop where
  own : OwnH (w.heap.size + 2) W ov E
  dep : ∀ x ∈ E, IsG G W x.2 x.1.deps ∧ Sized x.1
  lt : ∀ k, G k → k < w.heap.size
  le : w.heap.size + 2 ≤ W.heap.size
section
variable {G : Nat → Prop} {w W W' : World} {E : List (Ch × Value)} {ov v : Value}
theorem StO.below (h : StO G w E ov W) (hb : Below W.heap.size W W') : StO G w E ov W' := ⟨h.own.below hb, fun x hx => ⟨(h.dep x hx).1.keep (KeepsS.of_below hb fun k q => by have := h.lt k q; have := h.le; omega), (h.dep x hx).2⟩, h.lt, Nat.le_trans h.le hb.size⟩
theorem StO.push (h : StO G w E ov W) {c : Ch} {dv : Value} (hown : OwnH (w.heap.size + 2) W' v (E ++ [(c, dv)])) (hg : W.grownBy W' ov.ownBlock) (hd : IsG G W dv c.deps) (hs : Sized c) : StO G w (E ++ [(c, dv)]) v W' := by
  have hk : KeepsS G W W' := KeepsS.of_grown hg (fun k q => by have := h.lt k q; have := h.le; omega) (fun r e q => by have := h.lt r q; have := (World.ownsRow.lt h.own r e).1; omega)
  refine ⟨hown, fun x hx => ?_, h.lt, Nat.le_trans h.le hg.size⟩
  rcases List.mem_append.1 hx with hx | hx
  · exact ⟨(h.dep x hx).1.keep hk, (h.dep x hx).2⟩
  · rw [List.mem_singleton] at hx
    subst hx
    exact ⟨hd.keep hk, hs⟩
theorem StO.setRow (h : StO G w E ov W) (c : Array Value) : StO G w E ov (W.setRow (w.heap.size + 1) c) :=
  ⟨ownsRow_keep h.own fun k e => setRow_other W (w.heap.size + 1) k c (by have := (World.ownsRow.lt h.own k e).1; omega), fun x hx => ⟨(h.dep x hx).1.keep (keepsS_setRow fun q => by have := h.lt _ q; omega), (h.dep x hx).2⟩, h.lt, by simpa using h.le⟩
theorem StO.firm (h : StO G w E ov W) (hb : w.heap.size ≤ W.heap.size) (hl : E.length ≤ 281474976710656) : HFirm (fun k => G k ∨ (w.heap.size + 2 ≤ k ∧ k < W.heap.size)) W ov (E.map Prod.fst) := by
  have h0 := h.own
  refine ⟨fun k hk => hk.elim (fun q => by have := h.lt k q; omega) (fun q => q.2), ?_⟩
  rcases h.own.2 with ⟨rfl, hn⟩ | ⟨g, cap, cur, rfl, hg, hc, hcap, rest⟩
  · have e : E = [] := List.eq_nil_of_length_eq_zero hn
    subst e
    exact ⟨none, 0, rfl, Nat.le_refl _, by simp, .inl rfl⟩
  · refine ⟨_, cap, by simp, by simpa using hcap, by simpa using hl, .inr ⟨g, 0, rfl, .inr ⟨by omega, (Array.getElem?_eq_some_iff.1 hc).1⟩, fun i hi => ?_⟩⟩
    have hi' : i < E.length := by simpa using hi
    rw [show (E.map Prod.fst)[i] = E[i].1 by simp]
    have hd := h.dep _ (List.getElem_mem hi')
    refine ⟨E[i].2, fun j u hj => ?_, hd.1.mono fun k hk => .inl hk, hd.2⟩
    have hj2 : j < 13 := (List.getElem?_eq_some_iff.1 hj).1
    rw [show 0 + i * 13 + j = i * 13 + j by omega]
    exact (World.ownsRow.cellAt h0 (i * 13 + j) (by omega)).trans (flatH_get E i hi' j u hj)
end

set_option maxRecDepth 100000 in
set_option maxHeartbeats 8000000 in
theorem refStale_any (G : Nat → Prop) (room : Int) (lv : Value) (L : List Ch) (kv : Value) (kn : List Int) (w : World) (hk : IsI w kv kn) (hL : HFirm G w lv L) (hll : L.length ≤ 4000) :
    Calls Try.prog 13 #[.agg #[.int .i64 room, lv], kv] w fun e w' => ∃ v1, e = .returned (.tuple #[.agg #[.int .i64 room, v1], .int .i64 (staleR L kn).2]) ∧ HFirm (fun k => G k ∨ (w.heap.size ≤ k ∧ k < w'.heap.size)) w' v1 (staleR L kn).1 ∧ Below w.heap.size w w' := by
  obtain ⟨a0, c0, e0⟩ := hk.form
  subst e0
  obtain ⟨al, cl, el, hcl, hone⟩ := hL.one
  subst el
  have HL : Hid (HFirm G w (.slice al L.length cl) L) := hL
  have HOne : Hid (∀ i (hi : i < L.length), ∃ b o a2 e2, al = some ⟨b, o, none⟩ ∧ IsG G w (.slice a2 L[i].deps.length e2) L[i].deps ∧ Sized L[i] ∧ ∀ W', KeepsS G w W' → ∀ j u, (chCells L[i] (.slice a2 L[i].deps.length e2))[j]? = some u → W'.cell? ⟨b, o + i * 13 + j, none⟩ = some u) := hone
  have HIk : Hid (IsI w (.slice a0 kn.length c0) kn) := hk
  obtain ⟨W0, eW⟩ : ∃ X, X = (w.alloc (.cells #[.int .i64 room, .slice al L.length cl] 30)).alloc (.cells #[.int .i64 0, .slice none 0 0] 30) := ⟨_, rfl⟩
  have HT : Hid (StG w #[.int .i64 room, .slice al L.length cl] W0) := by
    have h1 := heap_alloc_new (w.alloc (.cells #[.int .i64 room, .slice al L.length cl] 30)) (.cells #[.int .i64 0, .slice none 0 0] 30)
    rw [show (w.alloc (.cells #[.int .i64 room, .slice al L.length cl] 30)).heap.size = w.heap.size + 1 by simp] at h1
    rw [eW]
    exact ⟨(Below.heap_alloc _ _ _ (by simp)).trans (heap_alloc_new w _), ⟨_, _, h1⟩, ((Below.refl _ _).alloc (Nat.le_refl _) _).alloc (by simp) _⟩
  clear hk hL hone
  go_enter Try.func13, Try.ntmps13
  go_wp2_with fail
  rw [← eW]
  clear eW
  refine (refCheck_any _ kn _ (HIk.out.below HT.out.bel)).mono ?_
  rintro e w1 ⟨rfl, hw1⟩
  replace hw1 := hw1.symm
  subst hw1
  obtain ⟨ck, eck⟩ : ∃ x, x = checkL kn := ⟨_, rfl⟩
  rw [← eck]
  have HCk : Hid (checkL kn = ck) := eck.symm
  clear eck
  obtain ⟨b_0, b_1⟩ := row2c HT.out.r0
  by_cases hck : ck = 0
  · subst hck
    obtain ⟨W5, eW5⟩ : ∃ X, X = W0.alloc (.cells #[] 35) := ⟨_, rfl⟩
    have hb5 : Below W0.heap.size W0 W5 := by rw [eW5]; exact (Below.refl _ _).alloc (Nat.le_refl _) _
    have HT5 : Hid (StG w #[.int .i64 room, .slice al L.length cl] W5) := HT.out.below hb5
    have HO5 : Hid (StO G w [] (.slice (some ⟨W0.heap.size, 0, none⟩) 0 0) W5) := by
      refine ⟨?_, fun x hx => by simp at hx, HL.out.1, HT5.out.lt⟩
      rw [eW5]
      exact World.ownsRow_made W0 (e := 35) (size := 13) (base := w.heap.size + 2) #[] 0 HT.out.lt (by unfold maxLen; omega) (by simp)
    have HR : Hid (staleR L kn = (L.filter (fun c => !withinB c kn), (L.length : Int) - ((L.filter (fun c => !withinB c kn)).length : Int))) := by
      show _ = _
      unfold staleR
      rw [if_neg (by rw [HCk.out]; simp)]
    clear hb5
    go_wp2
    rw [← eW5]
    clear eW5 b_0 b_1 HT
    go_loopw [6, 7] (fun ov iv wr => ∃ (k : Nat) (E : List (Ch × Value)), k ≤ L.length ∧ iv = .int .i64 (k : Int) ∧ E.length ≤ k ∧ Hid (StG w #[.int .i64 room, .slice al L.length cl] wr) ∧ Hid (StO G w E ov wr) ∧ Hid (E.map Prod.fst = (L.take k).filter (fun c => !withinB c kn))) (fun _ iv _ => L.length - (intOf iv).toNat)
    case atStart => exact ⟨0, [], Nat.zero_le _, rfl, Nat.zero_le _, HT5, HO5, (rfl : List.map Prod.fst ([] : List (Ch × Value)) = (L.take 0).filter (fun c => !withinB c kn))⟩
    case round =>
      obtain ⟨k, E, hk, rfl, hEk, HB, HS, HE⟩ := hrel
      obtain ⟨ae, ce, ee⟩ := HS.out.own.form
      subst ee
      obtain ⟨b_0, b_1⟩ := row2c HB.out.r0
      by_cases hlt : k < L.length
      · obtain ⟨b1, o1, a2, c2, ea, hg2, hz2, hcl2⟩ := HOne.out k hlt
        subst ea
        have hxt : (L.take (k + 1)).filter (fun c => !withinB c kn) = (L.take k).filter (fun c => !withinB c kn) ++ [L[k]].filter (fun c => !withinB c kn) := by rw [List.take_succ_eq_append_getElem hlt, List.filter_append]
        have k1 : (k : Int) < (L.length : Int) := by omega
        have k0 : (0 : Int) ≤ (k : Int) := by omega
        obtain ⟨⟨ac2, ar2, sq2, ds2, kd2, nc2, nr2, pc2, pr2, fc2, fr2, nm2, vl2⟩, ec2⟩ : ∃ c, c = L[k] := ⟨_, rfl⟩
        rw [← ec2] at hg2 hz2 hcl2 hxt
        have HG2 : Hid (IsG G w (.slice a2 ds2.length c2) ds2) := hg2
        have HZ2 : Hid (Sized (⟨ac2, ar2, sq2, ds2, kd2, nc2, nr2, pc2, pr2, fc2, fr2, nm2, vl2⟩ : Ch)) := hz2
        have HC : Hid (∀ W', Below w.heap.size w W' → W'.cell? ⟨b1, o1 + k * 13, none⟩ = some (.int .i64 ac2) ∧ W'.cell? ⟨b1, o1 + k * 13 + 1, none⟩ = some (.int .i64 ar2) ∧ W'.cell? ⟨b1, o1 + k * 13 + 2, none⟩ = some (.int .i64 sq2) ∧ W'.cell? ⟨b1, o1 + k * 13 + 3, none⟩ = some (.slice a2 ds2.length c2) ∧ W'.cell? ⟨b1, o1 + k * 13 + 4, none⟩ = some (.int .i64 kd2) ∧ W'.cell? ⟨b1, o1 + k * 13 + 5, none⟩ = some (.int .i64 nc2) ∧ W'.cell? ⟨b1, o1 + k * 13 + 6, none⟩ = some (.int .i64 nr2) ∧ W'.cell? ⟨b1, o1 + k * 13 + 7, none⟩ = some (.int .i64 pc2) ∧ W'.cell? ⟨b1, o1 + k * 13 + 8, none⟩ = some (.int .i64 pr2) ∧ W'.cell? ⟨b1, o1 + k * 13 + 9, none⟩ = some (.int .i64 fc2) ∧ W'.cell? ⟨b1, o1 + k * 13 + 10, none⟩ = some (.int .i64 fr2) ∧ W'.cell? ⟨b1, o1 + k * 13 + 11, none⟩ = some (.string nm2) ∧ W'.cell? ⟨b1, o1 + k * 13 + 12, none⟩ = some (.string vl2)) := fun W' hb => chAll (hcl2 W' (KeepsS.of_below hb HL.out.1))
        have HX : Hid ((L.take (k + 1)).filter (fun c => !withinB c kn) = E.map Prod.fst ++ [(⟨ac2, ar2, sq2, ds2, kd2, nc2, nr2, pc2, pr2, fc2, fr2, nm2, vl2⟩ : Ch)].filter (fun c => !withinB c kn)) := by show _ = _; rw [hxt, HE.out]
        clear hg2 hz2 hcl2 hxt ec2
        obtain ⟨p_0, p_1, p_2, p_3, p_4, p_5, p_6, p_7, p_8, p_9, p_10, p_11, p_12⟩ := HC.out _ HB.out.bel
        go_wp2_with fail
        clear p_0 p_1 p_2 p_3 p_4 p_5 p_6 p_7 p_8 p_9 p_10 p_11 p_12 b_0 b_1
        refine (refWithin_any ac2 ar2 sq2 (.slice a2 ds2.length c2) kd2 nc2 nr2 pc2 pr2 fc2 fr2 nm2 vl2 ds2 _ kn _ (HIk.out.below HB.out.bel)).mono ?_
        rintro e w2 ⟨rfl, hb2⟩
        have HB2 : Hid (StG w #[.int .i64 room, .slice (some ⟨b1, o1, none⟩) L.length cl] w2) := HB.out.below hb2
        have HS2 : Hid (StO G w E (.slice ae E.length ce) w2) := HS.out.below hb2
        clear hb2 HB HS
        obtain ⟨wb, ewb⟩ : ∃ b, b = withinB (⟨ac2, ar2, sq2, ds2, kd2, nc2, nr2, pc2, pr2, fc2, fr2, nm2, vl2⟩ : Ch) kn := ⟨_, rfl⟩
        rw [← ewb]
        cases wb
        · have HX2 : Hid ((E ++ [((⟨ac2, ar2, sq2, ds2, kd2, nc2, nr2, pc2, pr2, fc2, fr2, nm2, vl2⟩ : Ch), Value.slice a2 ds2.length c2)]).map Prod.fst = (L.take (k + 1)).filter (fun c => !withinB c kn)) := by
            show _ = _
            rw [HX.out, List.filter_cons, ← ewb]
            simp
          clear ewb HX HE
          obtain ⟨p_0, p_1, p_2, p_3, p_4, p_5, p_6, p_7, p_8, p_9, p_10, p_11, p_12⟩ := HC.out _ HB2.out.bel
          obtain ⟨b_0, b_1⟩ := row2c HB2.out.r0
          obtain ⟨X9, eX9⟩ : ∃ Y, Y = w2.alloc (.cells #[.int .i64 ac2, .int .i64 ar2, .int .i64 sq2, .slice a2 ds2.length c2, .int .i64 kd2, .int .i64 nc2, .int .i64 nr2, .int .i64 pc2, .int .i64 pr2, .int .i64 fc2, .int .i64 fr2, .string nm2, .string vl2] 35) := ⟨_, rfl⟩
          have hbx : Below w2.heap.size w2 X9 := by rw [eX9]; exact (Below.refl _ _).alloc (Nat.le_refl _) _
          have HLX : Hid (HasB X9 w2.heap.size #[.int .i64 ac2, .int .i64 ar2, .int .i64 sq2, .slice a2 ds2.length c2, .int .i64 kd2, .int .i64 nc2, .int .i64 nr2, .int .i64 pc2, .int .i64 pr2, .int .i64 fc2, .int .i64 fr2, .string nm2, .string vl2]) := by rw [eX9]; exact heap_alloc_new _ _
          have HSX : Hid (StO G w E (.slice ae E.length ce) X9) := HS2.out.below hbx
          have HBX : Hid (StG w #[.int .i64 room, .slice (some ⟨b1, o1, none⟩) L.length cl] X9) := HB2.out.below hbx
          clear hbx
          go_wp2_with (at_builtin; rw [← eX9]; refine wpList_appH rfl _ _ rfl (w.heap.size + 2) _ E rfl HSX.out.own w2.heap.size (⟨ac2, ar2, sq2, ds2, kd2, nc2, nr2, pc2, pr2, fc2, fr2, nm2, vl2⟩ : Ch) a2 ds2.length c2 rfl HLX.out (by omega) HSX.out.le ?_; clear eX9; intro g9 c9 W9 hown hgrow hat hlt9; have HS9 : Hid (StO G w (E ++ [((⟨ac2, ar2, sq2, ds2, kd2, nc2, nr2, pc2, pr2, fc2, fr2, nm2, vl2⟩ : Ch), Value.slice a2 ds2.length c2)]) (.slice (some ⟨g9, 0, none⟩) (E.length + 1) c9) W9) := HSX.out.push hown hgrow (HG2.out.keep (KeepsS.of_below HBX.out.bel HL.out.1)) HZ2.out; have HB9 : Hid (StG w #[.int .i64 room, .slice (some ⟨b1, o1, none⟩) L.length cl] W9) := HBX.out.grown hgrow (fun r e => (World.ownsRow.lt HSX.out.own r e).1); clear hown hgrow hat hlt9 HSX HLX HBX HB2 HS2 p_0 p_1 p_2 p_3 p_4 p_5 p_6 p_7 p_8 p_9 p_10 p_11 p_12 b_0 b_1)
          go_roundw
          case rel => exact ⟨k + 1, _, by omega, by go_num, by simp; omega, HB9, HS9, HX2⟩
          case measure => simp [intOf]; omega
        · have HX2 : Hid (E.map Prod.fst = (L.take (k + 1)).filter (fun c => !withinB c kn)) := by
            show _ = _
            rw [HX.out, List.filter_cons, ← ewb]
            simp
          clear ewb HX HE
          go_wp2
          go_roundw
          case rel => exact ⟨k + 1, E, by omega, by go_num, by omega, HB2, HS2, HX2⟩
          case measure => simp [intOf]; omega
      · have HX : Hid (E.map Prod.fst = L.filter (fun c => !withinB c kn) ∧ E.length = (L.filter (fun c => !withinB c kn)).length) := by
          have h1 := HE.out
          rw [List.take_of_length_le (by omega)] at h1
          exact ⟨h1, by have := congrArg List.length h1; simpa using this⟩
        clear HE
        go_wp2_with fail
        clear b_0 b_1
        refine wp_region_held_drew (S := fun W' => StG w #[.int .i64 room, .slice al L.length cl] W') (by kernel_rfl) (HB.out.below (Below.refl _ _).drew) (fun hHeld => ?_)
        obtain ⟨Us1u0, eW⟩ : ∃ X, X = wr.drew := ⟨_, rfl⟩
        have hb : Below wr.heap.size wr Us1u0 := by rw [eW]; exact (Below.refl _ _).drew
        replace HS : Hid (StO G w E (.slice ae E.length ce) Us1u0) := HS.out.below hb
        rw [← eW] at hHeld ⊢
        clear eW hb
        refine wpAnyH_take (i := 0) (oi := ⟨some 36, _, _, _, _, _⟩) (v := ?vs1ux0) rfl (by kernel_rfl) (by kernel_rfl) (by kernel_rfl) (fun _ _ _ h => h) (Or.inl ⟨by rfl, ?hys1ux0⟩) hHeld ?rests1ux0
        case hys1ux0 => (intro w _; go_simp; try with_reducible rfl)
        simp only [Act.put, List.setIfInBounds_toArray, List.set_cons_zero, List.set_cons_succ]
        refine wpAnyH_take (i := 1) (oi := ⟨some 37, _, _, _, _, _⟩) (v := ?vs1ux1) rfl (by kernel_rfl) (by kernel_rfl) (by kernel_rfl) (fun _ _ _ h => h) (Or.inl ⟨by rfl, ?hys1ux1⟩) hHeld ?rests1ux1
        case hys1ux1 => (intro w hSw; (try dsimp only at hSw); have hk := hSw; obtain ⟨b_0, b_1⟩ := row2c hk.r0; go_simp; try with_reducible rfl)
        simp only [Act.put, List.setIfInBounds_toArray, List.set_cons_zero, List.set_cons_succ]
        refine wpAnyH_take (i := 2) (oi := ⟨some 38, _, _, _, _, _⟩) (v := ?vs1ux2) rfl (by kernel_rfl) (by kernel_rfl) (by kernel_rfl) (fun _ _ _ h => h) (Or.inl ⟨by rfl, ?hys1ux2⟩) hHeld ?rests1ux2
        case hys1ux2 => (intro w _; go_simp; try with_reducible rfl)
        simp only [Act.put, List.setIfInBounds_toArray, List.set_cons_zero, List.set_cons_succ]
        refine wpAnyH_take (i := 3) (oi := ⟨some 39, _, _, _, _, _⟩) (v := ?vs1ux3) rfl (by kernel_rfl) (by kernel_rfl) (by kernel_rfl) (fun _ _ _ h => h) (Or.inl ⟨by rfl, ?hys1ux3⟩) hHeld ?rests1ux3
        case hys1ux3 => (intro w hSw; (try dsimp only at hSw); have hk := hSw; obtain ⟨b_0, b_1⟩ := row2c hk.r0; go_simp; try with_reducible rfl)
        simp only [Act.put, List.setIfInBounds_toArray, List.set_cons_zero, List.set_cons_succ]
        refine wpAnyH_take (i := 4) (oi := ⟨some 40, _, _, _, _, _⟩) (v := ?vs1ux4) rfl (by kernel_rfl) (by kernel_rfl) (by kernel_rfl) (fun _ _ _ h => h) (Or.inl ⟨by rfl, ?hys1ux4⟩) hHeld ?rests1ux4
        case hys1ux4 => (intro w _; go_simp; try with_reducible rfl)
        simp only [Act.put, List.setIfInBounds_toArray, List.set_cons_zero, List.set_cons_succ]
        refine wpAnyH_take (i := 5) (oi := ⟨some 41, _, _, _, _, _⟩) (v := ?vs1ux5) rfl (by kernel_rfl) (by kernel_rfl) (by kernel_rfl) (fun _ _ _ h => h) (Or.inl ⟨by rfl, ?hys1ux5⟩) hHeld ?rests1ux5
        case hys1ux5 => (intro w hSw; (try dsimp only at hSw); have hk := hSw; obtain ⟨b_0, b_1⟩ := row2c hk.r0; go_simp; try with_reducible rfl)
        simp only [Act.put, List.setIfInBounds_toArray, List.set_cons_zero, List.set_cons_succ]
        refine wpAnyH_take (i := 6) (oi := ⟨some 42, _, _, _, _, _⟩) (v := ?vs1ux6) rfl (by kernel_rfl) (by kernel_rfl) (by kernel_rfl) (fun _ _ _ h => h) (Or.inl ⟨by rfl, ?hys1ux6⟩) hHeld ?rests1ux6
        case hys1ux6 => (intro w hSw; (try dsimp only at hSw); have hk := hSw; obtain ⟨b_0, b_1⟩ := row2c hk.r0; go_simp; try with_reducible rfl)
        simp only [Act.put, List.setIfInBounds_toArray, List.set_cons_zero, List.set_cons_succ]
        refine wpAnyH_take (i := 7) (oi := ⟨some 43, _, _, _, _, _⟩) (v := ?vs1ux7) rfl (by kernel_rfl) (by kernel_rfl) (by kernel_rfl) (fun _ _ _ h => h) (Or.inl ⟨by rfl, ?hys1ux7⟩) hHeld ?rests1ux7
        case hys1ux7 => (intro w _; go_simp; try with_reducible rfl)
        simp only [Act.put, List.setIfInBounds_toArray, List.set_cons_zero, List.set_cons_succ]
        refine wpAnyH_take (i := 8) (oi := ⟨some 44, _, _, _, _, _⟩) (v := ?vs1ux8) rfl (by kernel_rfl) (by kernel_rfl) (by kernel_rfl) (fun _ _ _ h => h) (Or.inl ⟨by rfl, ?hys1ux8⟩) hHeld ?rests1ux8
        case hys1ux8 => (intro w hSw; (try dsimp only at hSw); have hk := hSw; obtain ⟨b_0, b_1⟩ := row2c hk.r0; go_simp; try with_reducible rfl)
        simp only [Act.put, List.setIfInBounds_toArray, List.set_cons_zero, List.set_cons_succ]
        refine wpAnyH_take (i := 9) (oi := ⟨some 45, _, _, _, _, _⟩) (v := ?vs1ux9) rfl (by kernel_rfl) (by kernel_rfl) (by kernel_rfl) (fun _ _ _ h => h) (Or.inl ⟨by rfl, ?hys1ux9⟩) hHeld ?rests1ux9
        case hys1ux9 => (intro w hSw; (try dsimp only at hSw); have hk := hSw; obtain ⟨b_0, b_1⟩ := row2c hk.r0; go_simp; try with_reducible rfl)
        simp only [Act.put, List.setIfInBounds_toArray, List.set_cons_zero, List.set_cons_succ]
        refine wpAnyH_ready (rs := [10]) (by kernel_rfl) (by simp) ?_
        refine AllReadyH.cons (o := ⟨none, _, _, _, _, _⟩) rfl (fun K hK => ?_) AllReadyH.nil
        have hz0 := hHeld.r1
        obtain ⟨z0, z1, hz⟩ := hz0
        refine step_store_row rfl 30 (.tmp 4) (.tmp 39) rfl (w.heap.size + 1) 30 #[z0, z1] #[.int .i64 room, .slice ae E.length ce] rfl rfl hz sizeBuf rfl (by simp [Value.oneCell']) ?_
        obtain ⟨Us1u1, eW⟩ : ∃ Y, Y = Us1u0.setRow (w.heap.size + 1) #[.int .i64 room, .slice ae E.length ce] := ⟨_, rfl⟩
        rw [← eW]
        have hS2 : StG w #[.int .i64 room, .slice al L.length cl] Us1u1 := by rw [eW]; exact hHeld.setRow
        have HZ2 : Hid (HasBu Us1u1 (w.heap.size + 1) #[.int .i64 room, .slice ae E.length ce]) := by rw [eW]; exact setRow_same hz
        have HS2 : Hid (StO G w E (.slice ae E.length ce) Us1u1) := by rw [eW]; exact HS.out.setRow _
        refine hK.out _ _ (hS2) (fun hHeld2 => ?_)
        clear hK K hHeld
        have hHeld := hHeld2
        clear hHeld2
        (try simp only [Act.put, List.setIfInBounds_toArray, List.set_cons_zero, List.set_cons_succ])
        clear eW hS2 hz
        refine wpAnyH_take (i := 11) (oi := ⟨some 5, _, _, _, _, _⟩) (v := ?vs1u_10x11) rfl (by kernel_rfl) (by kernel_rfl) (by kernel_rfl) (fun _ _ _ h => h) (Or.inl ⟨by rfl, ?hys1u_10x11⟩) hHeld ?rests1u_10x11
        case hys1u_10x11 => (intro w _; go_simp; try with_reducible rfl)
        simp only [Act.put, List.setIfInBounds_toArray, List.set_cons_zero, List.set_cons_succ]
        refine wpAnyH_done (by kernel_rfl) ?_ _
        have HT2 : Hid (StG w #[.int .i64 room, .slice al L.length cl] Us1u1) := hHeld
        clear hHeld
        go_wp2
        refine bodyPost_ret (v := .tuple #[.agg #[.int .i64 room, .slice ae E.length ce], .int .i64 (IntKind.i64.wrap ((L.length : Int) - (E.length : Int)))]) ?resq rfl ?postq
        case resq => exact results_cell_row2 rfl _ _ (w.heap.size + 1) _ _ _ _ rfl HZ2.out Try.underlying30 rfl (by kernel_rfl) rfl
        have hM := (HS2.out.firm HT2.out.bel.size (by omega)).mono (G' := fun k => G k ∨ (w.heap.size ≤ k ∧ k < Us1u1.heap.size)) (fun k h => h.imp id (fun q => ⟨by omega, q.2⟩)) (fun k h => h.elim (fun q => Nat.lt_of_lt_of_le (HL.out.1 k q) HT2.out.bel.size) (fun q => q.2))
        rw [HX.out.1] at hM
        have hW : IntKind.i64.wrap ((L.length : Int) - (E.length : Int)) = (L.length : Int) - ((L.filter (fun c => !withinB c kn)).length : Int) := by
          rw [← HX.out.2]
          exact IntWalk.i64_in _ (by omega)
        rw [hW]
        exact ⟨.slice ae E.length ce, by rw [HR.out], by rw [HR.out]; exact hM, HT2.out.bel⟩
  · have hc3 : (ck == 0) = false := by simp [hck]
    have HR : Hid (staleR L kn = (L, 0)) := by
      show _ = _
      unfold staleR
      rw [if_pos (by rw [HCk.out]; exact hck)]
    obtain ⟨z0, z1, hz⟩ := HT.out.r1
    obtain ⟨d_0, d_1⟩ := row2c hz
    have g_0 := row_free hz 0
    have g_1 := row_free hz 1
    have HZ : Hid (HasBu _ _ _) := hz
    clear hz
    go_wp2
    refine bodyPost_ret (v := .tuple #[.agg #[.int .i64 room, .slice al L.length cl], .int .i64 0]) ?resp rfl ?postp
    case resp => exact results_cell_row2 rfl _ _ (w.heap.size + 1) _ _ _ _ rfl (row_set2 HZ.out) Try.underlying30 rfl (by kernel_rfl) rfl
    have hbs : Below w.heap.size w ((W0.setCell ⟨w.heap.size + 1, 0, none⟩ (.int .i64 room)).setCell ⟨w.heap.size + 1, 1, none⟩ (.slice al L.length cl)) := (HT.out.bel.setCell (p := ⟨w.heap.size + 1, 0, none⟩) (by show w.heap.size ≤ w.heap.size + 1; omega) _).setCell (p := ⟨w.heap.size + 1, 1, none⟩) (by show w.heap.size ≤ w.heap.size + 1; omega) _
    exact ⟨_, by rw [HR.out], by rw [HR.out]; exact HL.out.up hbs, hbs⟩

end Go.Proofs.Ythndgmnckpimmaa

namespace Go.Proofs.Ythndgmnckpimmaa
open Go.RowKit
set_option linter.unusedVariables false
set_option linter.unusedSimpArgs false

def BelV (w W : World) : Prop := Below w.heap.size w W
theorem BelV.below {w W W' : World} (h : BelV w W) (hb : Below W.heap.size W W') : BelV w W' := RowKit.Below.trans h (hb.mono (RowKit.Below.size h))

set_option maxRecDepth 100000 in
set_option maxHeartbeats 4000000 in
theorem told_any (F G : Nat → Prop) (v : Value) (room : Int) (H : List Ch) (lv : Value) (w : World) (hV : BufH F w v room H) (hY : HFirm G w lv H) (hl : H.length ≤ 4000) : Calls Try.prog 18 #[v, .agg #[.int .i64 room, lv]] w fun e w' => e = .returned (.bool true) ∧ Below w.heap.size w w' := by
  obtain ⟨al, cl, el, _⟩ := hY.one
  subst el
  obtain ⟨W0, eW⟩ : ∃ X, X = w.alloc (.cells #[.int .i64 room, .slice al H.length cl] 30) := ⟨_, rfl⟩
  have HK : Hid (W0.heap[w.heap.size]? = some (.cells #[.int .i64 room, .slice al H.length cl] 30)) := by rw [eW]; exact heap_alloc_new _ _
  have hb0 : Below w.heap.size w W0 := by rw [eW]; exact (Below.refl _ _).alloc (Nat.le_refl _) _
  have HB : Hid (BelV w W0) := hb0
  have HV : Hid (BufH F W0 v room H) := hV.below hb0
  have HY : Hid (HFirm G W0 (.slice al H.length cl) H) := hY.below hb0
  clear hb0 hV hY
  go_enter Try.func18, Try.ntmps18
  go_wp2
  rw [← eW]
  clear eW
  refine wp_region_held_drew (S := fun W' => W'.heap[w.heap.size]? = some (.cells #[.int .i64 room, .slice al H.length cl] 30)) (by kernel_rfl) HK.out (fun hHeld => ?_)
  obtain ⟨Ut1u0, eW⟩ : ∃ X, X = W0.drew := ⟨_, rfl⟩
  have hb : Below W0.heap.size W0 Ut1u0 := by rw [eW]; exact (Below.refl _ _).drew
  replace HB : Hid (BelV w Ut1u0) := HB.out.below hb
  replace HV : Hid (BufH F Ut1u0 v room H) := HV.out.below hb
  replace HY : Hid (HFirm G Ut1u0 (.slice al H.length cl) H) := HY.out.below hb
  rw [← eW] at hHeld ⊢
  clear eW hb
  refine wpAnyH_take (i := 0) (oi := ⟨some 5, _, _, _, _, _⟩) (v := ?vt1ux0) rfl (by kernel_rfl) (by kernel_rfl) (by kernel_rfl) (fun _ _ _ h => h) (Or.inl ⟨by rfl, ?hyt1ux0⟩) hHeld ?restt1ux0
  case hyt1ux0 => (intro w _; go_simp; try with_reducible rfl)
  simp only [Act.put, List.setIfInBounds_toArray, List.set_cons_zero, List.set_cons_succ]
  refine wpAnyH_take (i := 2) (oi := ⟨some 7, _, _, _, _, _⟩) (v := ?vt1ux2) rfl (by kernel_rfl) (by kernel_rfl) (by kernel_rfl) (fun _ _ _ h => h) (Or.inl ⟨by rfl, ?hyt1ux2⟩) hHeld ?restt1ux2
  case hyt1ux2 => (intro w _; go_simp; try with_reducible rfl)
  simp only [Act.put, List.setIfInBounds_toArray, List.set_cons_zero, List.set_cons_succ]
  refine wpAnyH_take (i := 3) (oi := ⟨some 8, _, _, _, _, _⟩) (v := ?vt1ux3) rfl (by kernel_rfl) (by kernel_rfl) (by kernel_rfl) (fun _ _ _ h => h) (Or.inl ⟨by rfl, ?hyt1ux3⟩) hHeld ?restt1ux3
  case hyt1ux3 => (intro w hSw; (try dsimp only at hSw); have hk := hSw; obtain ⟨b_0, b_1⟩ := row2c hk; go_simp; try with_reducible rfl)
  simp only [Act.put, List.setIfInBounds_toArray, List.set_cons_zero, List.set_cons_succ]
  refine wpAnyH_take (i := 4) (oi := ⟨some 9, _, _, _, _, _⟩) (v := ?vt1ux4) rfl (by kernel_rfl) (by kernel_rfl) (by kernel_rfl) (fun _ _ _ h => h) (Or.inl ⟨by rfl, ?hyt1ux4⟩) hHeld ?restt1ux4
  case hyt1ux4 => (intro w hSw; (try dsimp only at hSw); have hk := hSw; obtain ⟨b_0, b_1⟩ := row2c hk; go_simp; try with_reducible rfl)
  simp only [Act.put, List.setIfInBounds_toArray, List.set_cons_zero, List.set_cons_succ]
  refine wpAnyH_ready (rs := [1]) (by kernel_rfl) (by simp) ?_
  refine AllReadyH.cons (o := ⟨some 6, _, _, _, _, _⟩) rfl (fun K hK => ?_) AllReadyH.nil
  go_simp
  refine (lenH_any F _ room H _ HV.out).mono ?_
  rintro e Ut1u1 ⟨rfl, hb⟩
  (try go_wp2_with fail)
  refine hK.out _ _ ((hb.block _ (Array.getElem?_eq_some_iff.1 hHeld).1).trans hHeld) (fun hHeld2 => ?_)
  clear hK K hHeld
  have hHeld := hHeld2
  clear hHeld2
  (try simp only [Act.put, List.setIfInBounds_toArray, List.set_cons_zero, List.set_cons_succ])
  replace HB : Hid (BelV w Ut1u1) := HB.out.below hb
  replace HV : Hid (BufH F Ut1u1 v room H) := HV.out.below hb
  replace HY : Hid (HFirm G Ut1u1 (.slice al H.length cl) H) := HY.out.below hb
  clear hb
  refine wpAnyH_take (i := 5) (oi := ⟨some 10, _, _, _, _, _⟩) (v := ?vt1u_1x5) rfl (by kernel_rfl) (by kernel_rfl) (by kernel_rfl) (fun _ _ _ h => h) (Or.inl ⟨by rfl, ?hyt1u_1x5⟩) hHeld ?restt1u_1x5
  case hyt1u_1x5 => (intro w hSw; (try dsimp only at hSw); have hk := hSw; obtain ⟨b_0, b_1⟩ := row2c hk; go_simp; try with_reducible rfl)
  simp only [Act.put, List.setIfInBounds_toArray, List.set_cons_zero, List.set_cons_succ]
  refine wpAnyH_take (i := 6) (oi := ⟨some 11, _, _, _, _, _⟩) (v := ?vt1u_1x6) rfl (by kernel_rfl) (by kernel_rfl) (by kernel_rfl) (fun _ _ _ h => h) (Or.inl ⟨by rfl, ?hyt1u_1x6⟩) hHeld ?restt1u_1x6
  case hyt1u_1x6 => (intro w _; go_simp; try with_reducible rfl)
  simp only [Act.put, List.setIfInBounds_toArray, List.set_cons_zero, List.set_cons_succ]
  refine wpAnyH_take (i := 7) (oi := ⟨some 12, _, _, _, _, _⟩) (v := ?vt1u_1x7) rfl (by kernel_rfl) (by kernel_rfl) (by kernel_rfl) (fun _ _ _ h => h) (Or.inl ⟨by rfl, ?hyt1u_1x7⟩) hHeld ?restt1u_1x7
  case hyt1u_1x7 => (intro w _; go_simp; try with_reducible rfl)
  simp only [Act.put, List.setIfInBounds_toArray, List.set_cons_zero, List.set_cons_succ]
  refine wpAnyH_take (i := 9) (oi := ⟨some 14, _, _, _, _, _⟩) (v := ?vt1u_1x9) rfl (by kernel_rfl) (by kernel_rfl) (by kernel_rfl) (fun _ _ _ h => h) (Or.inl ⟨by rfl, ?hyt1u_1x9⟩) hHeld ?restt1u_1x9
  case hyt1u_1x9 => (intro w _; go_simp; try with_reducible rfl)
  simp only [Act.put, List.setIfInBounds_toArray, List.set_cons_zero, List.set_cons_succ]
  refine wpAnyH_take (i := 10) (oi := ⟨some 15, _, _, _, _, _⟩) (v := ?vt1u_1x10) rfl (by kernel_rfl) (by kernel_rfl) (by kernel_rfl) (fun _ _ _ h => h) (Or.inl ⟨by rfl, ?hyt1u_1x10⟩) hHeld ?restt1u_1x10
  case hyt1u_1x10 => (intro w hSw; (try dsimp only at hSw); have hk := hSw; obtain ⟨b_0, b_1⟩ := row2c hk; go_simp; try with_reducible rfl)
  simp only [Act.put, List.setIfInBounds_toArray, List.set_cons_zero, List.set_cons_succ]
  refine wpAnyH_ready (rs := [8]) (by kernel_rfl) (by simp) ?_
  refine AllReadyH.cons (o := ⟨some 13, _, _, _, _, _⟩) rfl (fun K hK => ?_) AllReadyH.nil
  go_simp
  obtain ⟨D, hD, _⟩ := HV.out
  refine (room_any _ room D F _ hD).mono ?_
  rintro e Ut1u2 ⟨rfl, hb⟩
  (try go_wp2_with fail)
  refine hK.out _ _ ((hb.block _ (Array.getElem?_eq_some_iff.1 hHeld).1).trans hHeld) (fun hHeld2 => ?_)
  clear hK K hHeld
  have hHeld := hHeld2
  clear hHeld2
  (try simp only [Act.put, List.setIfInBounds_toArray, List.set_cons_zero, List.set_cons_succ])
  replace HB : Hid (BelV w Ut1u2) := HB.out.below hb
  replace HV : Hid (BufH F Ut1u2 v room H) := HV.out.below hb
  replace HY : Hid (HFirm G Ut1u2 (.slice al H.length cl) H) := HY.out.below hb
  clear hD
  clear hb
  refine wpAnyH_take (i := 11) (oi := ⟨some 16, _, _, _, _, _⟩) (v := ?vt1u_1_8x11) rfl (by kernel_rfl) (by kernel_rfl) (by kernel_rfl) (fun _ _ _ h => h) (Or.inl ⟨by rfl, ?hyt1u_1_8x11⟩) hHeld ?restt1u_1_8x11
  case hyt1u_1_8x11 => (intro w hSw; (try dsimp only at hSw); have hk := hSw; obtain ⟨b_0, b_1⟩ := row2c hk; go_simp; try with_reducible rfl)
  simp only [Act.put, List.setIfInBounds_toArray, List.set_cons_zero, List.set_cons_succ]
  refine wpAnyH_take (i := 12) (oi := ⟨some 17, _, _, _, _, _⟩) (v := ?vt1u_1_8x12) rfl (by kernel_rfl) (by kernel_rfl) (by kernel_rfl) (fun _ _ _ h => h) (Or.inl ⟨by rfl, ?hyt1u_1_8x12⟩) hHeld ?restt1u_1_8x12
  case hyt1u_1_8x12 => (intro w _; go_simp; try with_reducible rfl)
  simp only [Act.put, List.setIfInBounds_toArray, List.set_cons_zero, List.set_cons_succ]
  refine wpAnyH_take (i := 13) (oi := ⟨some 18, _, _, _, _, _⟩) (v := ?vt1u_1_8x13) rfl (by kernel_rfl) (by kernel_rfl) (by kernel_rfl) (fun _ _ _ h => h) (Or.inl ⟨by rfl, ?hyt1u_1_8x13⟩) hHeld ?restt1u_1_8x13
  case hyt1u_1_8x13 => (intro w _; go_simp; try with_reducible rfl)
  simp only [Act.put, List.setIfInBounds_toArray, List.set_cons_zero, List.set_cons_succ]
  refine wpAnyH_take (i := 14) (oi := ⟨some 19, _, _, _, _, _⟩) (v := ?vt1u_1_8x14) rfl (by kernel_rfl) (by kernel_rfl) (by kernel_rfl) (fun _ _ _ h => h) (Or.inl ⟨by rfl, ?hyt1u_1_8x14⟩) hHeld ?restt1u_1_8x14
  case hyt1u_1_8x14 => (intro w _; go_simp; try with_reducible rfl)
  simp only [Act.put, List.setIfInBounds_toArray, List.set_cons_zero, List.set_cons_succ]
  refine wpAnyH_take (i := 16) (oi := ⟨some 21, _, _, _, _, _⟩) (v := ?vt1u_1_8x16) rfl (by kernel_rfl) (by kernel_rfl) (by kernel_rfl) (fun _ _ _ h => h) (Or.inl ⟨by rfl, ?hyt1u_1_8x16⟩) hHeld ?restt1u_1_8x16
  case hyt1u_1_8x16 => (intro w _; go_simp; try with_reducible rfl)
  simp only [Act.put, List.setIfInBounds_toArray, List.set_cons_zero, List.set_cons_succ]
  refine wpAnyH_take (i := 17) (oi := ⟨some 22, _, _, _, _, _⟩) (v := ?vt1u_1_8x17) rfl (by kernel_rfl) (by kernel_rfl) (by kernel_rfl) (fun _ _ _ h => h) (Or.inl ⟨by rfl, ?hyt1u_1_8x17⟩) hHeld ?restt1u_1_8x17
  case hyt1u_1_8x17 => (intro w hSw; (try dsimp only at hSw); have hk := hSw; obtain ⟨b_0, b_1⟩ := row2c hk; go_simp; try with_reducible rfl)
  simp only [Act.put, List.setIfInBounds_toArray, List.set_cons_zero, List.set_cons_succ]
  refine wpAnyH_ready (rs := [15]) (by kernel_rfl) (by simp) ?_
  refine AllReadyH.cons (o := ⟨some 20, _, _, _, _, _⟩) rfl (fun K hK => ?_) AllReadyH.nil
  go_simp
  refine (heldH_any F _ room H _ HV.out (by omega)).mono ?_
  rintro e Ut1u3 ⟨a, c, E, rfl, hA, hE, hb⟩
  have HA : Hid (IsH Ut1u3 (.slice a H.length c) H) := by
    have hEl : E.length = H.length := by have := congrArg List.length hE; simpa using this
    have h1 := hA.isH (by omega)
    rw [hE] at h1
    exact h1
  clear hA hE
  (try go_wp2_with fail)
  refine hK.out _ _ ((hb.block _ (Array.getElem?_eq_some_iff.1 hHeld).1).trans hHeld) (fun hHeld2 => ?_)
  clear hK K hHeld
  have hHeld := hHeld2
  clear hHeld2
  (try simp only [Act.put, List.setIfInBounds_toArray, List.set_cons_zero, List.set_cons_succ])
  replace HB : Hid (BelV w Ut1u3) := HB.out.below hb
  replace HV : Hid (BufH F Ut1u3 v room H) := HV.out.below hb
  replace HY : Hid (HFirm G Ut1u3 (.slice al H.length cl) H) := HY.out.below hb
  clear hb
  refine wpAnyH_ready (rs := [18]) (by kernel_rfl) (by simp) ?_
  refine AllReadyH.cons (o := ⟨some 23, _, _, _, _, _⟩) rfl (fun K hK => ?_) AllReadyH.nil
  go_simp
  refine (sameAll_eq _ _ H _ HA.out HY.out.isH).mono ?_
  rintro e Ut1u4 ⟨rfl, hb⟩
  (try go_wp2_with fail)
  refine hK.out _ _ ((hb.block _ (Array.getElem?_eq_some_iff.1 hHeld).1).trans hHeld) (fun hHeld2 => ?_)
  clear hK K hHeld
  have hHeld := hHeld2
  clear hHeld2
  (try simp only [Act.put, List.setIfInBounds_toArray, List.set_cons_zero, List.set_cons_succ])
  replace HB : Hid (BelV w Ut1u4) := HB.out.below hb
  replace HV : Hid (BufH F Ut1u4 v room H) := HV.out.below hb
  replace HY : Hid (HFirm G Ut1u4 (.slice al H.length cl) H) := HY.out.below hb
  clear hb
  refine wpAnyH_take (i := 19) (oi := ⟨some 24, _, _, _, _, _⟩) (v := ?vt1u_1_8_15_18x19) rfl (by kernel_rfl) (by kernel_rfl) (by kernel_rfl) (fun _ _ _ h => h) (Or.inl ⟨by rfl, ?hyt1u_1_8_15_18x19⟩) hHeld ?restt1u_1_8_15_18x19
  case hyt1u_1_8_15_18x19 => (intro w _; go_simp; try with_reducible rfl)
  simp only [Act.put, List.setIfInBounds_toArray, List.set_cons_zero, List.set_cons_succ]
  refine wpAnyH_take (i := 20) (oi := ⟨some 4, _, _, _, _, _⟩) (v := ?vt1u_1_8_15_18x20) rfl (by kernel_rfl) (by kernel_rfl) (by kernel_rfl) (fun _ _ _ h => h) (Or.inl ⟨by rfl, ?hyt1u_1_8_15_18x20⟩) hHeld ?restt1u_1_8_15_18x20
  case hyt1u_1_8_15_18x20 => (intro w _; go_simp; try with_reducible rfl)
  simp only [Act.put, List.setIfInBounds_toArray, List.set_cons_zero, List.set_cons_succ]
  refine wpAnyH_done (by kernel_rfl) ?_ _
  clear hHeld
  go_wp2
  go_ret
  exact ⟨rfl, HB.out⟩

end Go.Proofs.Ythndgmnckpimmaa

namespace Go.Proofs.Ythndgmnckpimmaa
open Go.RowKit
set_option linter.unusedVariables false
set_option linter.unusedSimpArgs false

theorem filter_erase {α : Type} {p : α → Bool} : ∀ (l : List α) (j : Nat) (h : j < l.length), p l[j] = false → (l.eraseIdx j).filter p = l.filter p
  | x :: t, 0, _, hp => by simp only [List.getElem_cons_zero] at hp; simp [List.filter_cons, hp]
  | x :: t, j + 1, h, hp => by
    have h2 : j < t.length := by simpa using h
    simp only [List.getElem_cons_succ] at hp
    simp only [List.eraseIdx_cons_succ, List.filter_cons, filter_erase t j h2 hp]
set_option maxRecDepth 100000 in
theorem drop_it {w : World} {b r : Nat} {D R : List (Ch × Value)} (h : IterIs w b r D R) (ar sq : Int) (ty : TypeId) (hR : ∀ y ∈ R, ¬ (y.1.ar = ar ∧ y.1.seq = sq)) (hg0 : (getP D ar sq).isSome = true) : ∃ w', (Builtin.delete_ #[74, 80] ty #[.map (some b), plV ar sq]).run Try.prog w = .ok (.tuple #[]) w' ∧ w.grownBy w' (some b) ∧ w'.heap.size = w.heap.size ∧
    ∃ x j, getP D ar sq = some x ∧ D[j]? = some x ∧ IterIs w' b r (D.eraseIdx j) R := by
  have hlt := h.lt
  obtain ⟨es, clock, since, seen, c0, hr, hb, he, hold, hs1, hs2, hl⟩ := h
  have hg : (getObj b).run Try.prog w = .ok (.map es clock) w := MapKept.run_getObj_map hb
  rcases find_pl ar sq w es.toList D he.ent with ⟨h1, h2⟩ | ⟨x, j, h1, h3, h2⟩
  · rw [h1] at hg0; cases hg0
  · have hjl : j < D.length := (List.getElem?_eq_some_iff.1 h3).1
    have hjs : j < es.size := by
      have := congrArg List.length he.ent
      simp at this
      omega
    have hel := erase_list es j hjs
    have hxj : D[j] = x := (List.getElem?_eq_some_iff.1 h3).2
    have hpx : x.1.ar = ar ∧ x.1.seq = sq := by
      have := List.find?_some h1
      simpa [isOwn] using this
    refine ⟨ChangeMaps.setBlock w b (.map (es.eraseIdxIfInBounds j) clock), ?_, ⟨rfl, rfl, rfl, by simp [ChangeMaps.setBlock], fun i _ hi => ChangeMaps.heap_setBlock_other hb _ (fun e => hi (by rw [e]))⟩, by simp [ChangeMaps.setBlock], x, j, h1, h3, es.eraseIdxIfInBounds j, clock, since, seen, c0, (ChangeMaps.heap_setBlock_other hb _ (fun e => hlt.2.2 e.symm)).trans hr, ChangeMaps.heap_setBlock_same hb _, ⟨by rw [hel, map_erase, map_erase, he.ent], by rw [hel]; exact nodup_erase _ _ _ he.nod, fun y hy => he.old y ?_⟩, fun y hy => hold y ?_, hs1, hs2, ?_⟩
    · simp [Builtin.delete_, run_underlying Try.underlying74, hg, checkPl, h2, MapKept.run_setObj_map _ hb, Result.andThen, ChangeMaps.setBlock]
    · rw [hel] at hy
      exact (List.eraseIdx_sublist _ _).subset hy
    · rw [hel] at hy
      exact (List.eraseIdx_sublist _ _).subset hy
    · rw [← hl]
      congr 1
      unfold leftOf
      rw [Array.toList_filter, Array.toList_filter, hel]
      have hjt : j < es.toList.length := by simpa using hjs
      refine filter_erase es.toList j hjt ?_
      refine Bool.eq_false_iff.2 fun hp => ?_
      have hm : es.toList[j] ∈ (leftOf es seen).toList := by
        unfold leftOf
        rw [Array.toList_filter]
        exact List.mem_filter.2 ⟨List.getElem_mem hjt, hp⟩
      have hm2 : entE es.toList[j] ∈ R.map entV := by rw [← hl]; exact List.mem_map_of_mem hm
      obtain ⟨y, hy, ey⟩ := List.mem_map.1 hm2
      have hej : entE es.toList[j] = entV D[j] := by
        have h5 := congrArg (fun l => l[j]?) he.ent
        simp only [List.getElem?_map, List.getElem?_eq_getElem hjt, List.getElem?_eq_getElem hjl, Option.map_some, Option.some.injEq] at h5
        exact h5
      rw [hej, hxj] at ey
      refine hR y hy ?_
      unfold entV at ey
      simp only [Prod.mk.injEq, plV, Value.agg.injEq] at ey
      have := ey.1
      simp at this
      exact ⟨this.1.trans hpx.1, this.2.trans hpx.2⟩

end Go.Proofs.Ythndgmnckpimmaa

namespace Go.Proofs.Ythndgmnckpimmaa
open Go.RowKit
set_option linter.unusedVariables false
set_option linter.unusedSimpArgs false

def notW (kn : List Int) (x : Ch × Value) : Bool := !withinB x.1 kn
def staleD (kn : List Int) (D : List (Ch × Value)) : List (Ch × Value) := if checkL kn ≠ 0 then D else D.filter (notW kn)
/-- What lies where while Stale goes over the map. -/
structure StlS (F : Nat → Prop) (w : World) (bb mb r : Nat) (room : Int) (kn : List Int) (D D' R : List (Ch × Value)) (W : World) : Prop where
  buf : BufIs F W bb room mb D'
  it : IterIs W mb r D' R
  eq : D'.filter (notW kn) = D.filter (notW kn)
  all : ∀ x ∈ D', x ∈ R ∨ notW kn x = true
  sub : ∀ x ∈ R, x ∈ D'
  apr : R.Pairwise fun x y => ¬ (x.1.ar = y.1.ar ∧ x.1.seq = y.1.seq)
  nr : w.heap.size ≤ r
  f1 : ∀ k, F k → k < w.heap.size
  tch : Touch F w W
section
variable {F : Nat → Prop} {w W W' : World} {bb mb r : Nat} {room : Int} {kn : List Int} {D D' R R1 R2 : List (Ch × Value)} {x : Ch × Value}
theorem StlS.below (h : StlS F w bb mb r room kn D D' R W) (hb : Below W.heap.size W W') : StlS F w bb mb r room kn D D' R W' :=
  ⟨h.buf.below hb, h.it.below hb, h.eq, h.all, h.sub, h.apr, h.nr, h.f1, h.tch.trans (Touch.of_below (F := fun _ => False) hb) fun j q => q.elim⟩
/-- One comes. -/
theorem StlS.next (h : StlS F w bb mb r room kn D D' (R1 ++ x :: R2) W) (hit : IterIs W' mb r D' (R1 ++ R2)) (hg : W.grownBy W' (some r)) : BufIs F W' bb room mb D' ∧ Touch F w W' :=
  ⟨h.buf.keep (KeepsS.of_grown hg h.buf.lt (fun q e q2 => by cases e; have := h.f1 _ q2; have := h.nr; omega)), h.tch.trans (Touch.of_grown (F := fun k => k = r) hg (fun k e _ => by cases e; rfl)) fun j q => .inr (by have := h.nr; omega)⟩
theorem StlS.stay (h : StlS F w bb mb r room kn D D' (R1 ++ x :: R2) W) (hx : notW kn x = true) (hit : IterIs W' mb r D' (R1 ++ R2)) (hb : BufIs F W' bb room mb D') (ht : Touch F w W') : StlS F w bb mb r room kn D D' (R1 ++ R2) W' := by
  refine ⟨hb, hit, h.eq, fun y hy => ?_, fun y hy => h.sub y (by simp at hy ⊢; rcases hy with q | q <;> simp [q]), List.Pairwise.sublist (List.Sublist.append_left (List.sublist_cons_self x R2) R1) h.apr, h.nr, h.f1, ht⟩
  rcases h.all y hy with q | q
  · simp at q
    rcases q with q | rfl | q
    · exact .inl (by simp [q])
    · exact .inr hx
    · exact .inl (by simp [q])
  · exact .inr q
theorem StlS.far (h : StlS F w bb mb r room kn D D' (R1 ++ x :: R2) W) : ∀ y ∈ R1 ++ R2, ¬ (y.1.ar = x.1.ar ∧ y.1.seq = x.1.seq) := fun y hy => by
  have h1 := List.pairwise_append.1 h.apr
  rcases List.mem_append.1 hy with q | q
  · exact h1.2.2 y q x (by simp)
  · exact fun e => (List.pairwise_cons.1 h1.2.1).1 y q ⟨e.1.symm, e.2.symm⟩
theorem StlS.has (h : StlS F w bb mb r room kn D D' (R1 ++ x :: R2) W) : (getP D' x.1.ar x.1.seq).isSome = true := by
  unfold getP
  rw [List.find?_isSome]
  exact ⟨x, h.sub x (by simp), by simp [isOwn]⟩
/-- One goes. -/
theorem StlS.gone (h : StlS F w bb mb r room kn D D' (R1 ++ x :: R2) W) {W1 W2 : World} (hx : notW kn x = false) (hb : BufIs F W1 bb room mb D') (ht : Touch F w W1) {y : Ch × Value} {j : Nat} (hgp : getP D' x.1.ar x.1.seq = some y) (hj : D'[j]? = some y) (hit : IterIs W2 mb r (D'.eraseIdx j) (R1 ++ R2)) (hg : W1.grownBy W2 (some mb)) : StlS F w bb mb r room kn D (D'.eraseIdx j) (R1 ++ R2) W2 := by
  obtain ⟨hjl, hjy⟩ := List.getElem?_eq_some_iff.1 hj
  have hpl : y.1.ar = x.1.ar ∧ y.1.seq = x.1.seq := by have := List.find?_some hgp; simpa [isOwn] using this
  have hy : notW kn y = false := by
    unfold notW withinB at hx ⊢
    rw [hpl.1, hpl.2]
    exact hx
  have hs : (D'.eraseIdx j).Sublist D' := List.eraseIdx_sublist _ _
  refine ⟨hb.turn hit.map hg (fun z hz => ⟨hb.hdep z (hs.subset hz), hb.fd z (hs.subset hz)⟩) ⟨List.Pairwise.sublist hs hb.ok.apart, fun z hz => hb.ok.right z (hs.subset hz)⟩ (fun _ q => q) (fun k q => Nat.lt_of_lt_of_le (hb.lt k q) hg.size), hit, ?_, fun z hz => ?_, fun z hz => ?_, List.Pairwise.sublist (List.Sublist.append_left (List.sublist_cons_self x R2) R1) h.apr, h.nr, h.f1, ht.trans (Touch.of_grown (F := F) hg (fun k e _ => by cases e; exact hb.fm)) fun j q => .inl q⟩
  · rw [filter_erase D' j hjl (by rw [hjy]; exact hy)]
    exact h.eq
  · rcases h.all z (hs.subset hz) with q | q
    · simp at q
      rcases q with q | rfl | q
      · exact .inl (by simp [q])
      · exfalso
        obtain ⟨i, hi, hne, e⟩ := List.mem_eraseIdx_iff_getElem.1 hz
        have h4 := List.pairwise_iff_getElem.1 hb.ok.apart
        rcases Nat.lt_or_gt_of_ne hne with q | q
        · exact h4 i j hi hjl q (by rw [e, hjy]; exact ⟨hpl.1.symm, hpl.2.symm⟩)
        · exact h4 j i hjl hi q (by rw [e, hjy]; exact hpl)
      · exact .inl (by simp [q])
    · exact .inr q
  · have hzD := h.sub z (by simp at hz ⊢; rcases hz with q | q <;> simp [q])
    obtain ⟨i, hi, e⟩ := List.getElem_of_mem hzD
    refine List.mem_eraseIdx_iff_getElem.2 ⟨i, hi, fun e2 => ?_, e⟩
    subst e2
    exact h.far z hz (by rw [← e, hjy]; exact hpl)
theorem StlS.fin (h : StlS F w bb mb r room kn D D' [] W) : D' = D.filter (notW kn) := by
  rw [← h.eq]
  exact (List.filter_eq_self.2 fun x hx => (h.all x hx).elim (fun q => by simp at q) id).symm
end

set_option maxRecDepth 100000 in
set_option maxHeartbeats 4000000 in
theorem stale_any (F : Nat → Prop) (bb : Nat) (room : Int) (mb : Nat) (D : List (Ch × Value)) (kv : Value) (kn : List Int) (w : World) (h : BufIs F w bb room mb D) (hk : ∀ W, Touch F w W → IsI W kv kn) (hl : D.length ≤ 4096) :
    Calls Try.prog 14 #[.pointer (some ⟨bb, 0, none⟩), kv] w fun e w' => e = .returned (.int .i64 ((D.length : Int) - ((staleD kn D).length : Int))) ∧ BufIs F w' bb room mb (staleD kn D) ∧ Touch F w w' := by
  have HF1 : Hid (∀ k, F k → k < w.heap.size) := h.lt
  have HL : Hid (BufIs F w bb room mb D) := h
  obtain ⟨a5, c5, e5⟩ := (hk w (Touch.refl _ _)).form
  subst e5
  have HIk : Hid (∀ W, Touch F w W → IsI W (.slice a5 kn.length c5) kn) := hk
  clear h hk
  go_enter Try.func14, Try.ntmps14
  go_wp2_with fail
  refine (check_any _ kn _ (HIk.out _ (Touch.refl _ _))).mono ?_
  rintro e w1 ⟨rfl, hw1⟩
  replace hw1 := hw1.symm
  subst hw1
  obtain ⟨ck, eck⟩ : ∃ x, x = checkL kn := ⟨_, rfl⟩
  rw [← eck]
  have HCk : Hid (checkL kn = ck) := eck.symm
  clear eck
  by_cases hck : ck = 0
  · subst hck
    go_wp2_with fail
    refine (orEmpty_any _ room D F _ HL.out.v).mono ?_
    rintro e w1 ⟨b1, m1, F1, rfl, h1, hb1, hF1, hvb⟩
    have hbb : bb = b1 := by simpa using hvb
    subst hbb
    have HB1 : Hid (Below w.heap.size w w1) := hb1
    have HL1 : Hid (BufIs F w1 bb room mb D) := HL.out.below hb1
    have HR : Hid (staleD kn D = D.filter (notW kn)) := by show _ = _; unfold staleD; rw [if_neg (by rw [HCk.out]; simp)]
    clear h1 hb1 hF1 hvb
    have q1 := HL1.out.cell1
    have hln := len_pl HL1.out.hmap
    obtain ⟨o, hrg, hit⟩ := range_pl HL1.out.hmap
    obtain ⟨W2, eW2⟩ : ∃ X, X = w1.alloc o := ⟨_, rfl⟩
    have hbw : Below w1.heap.size w1 W2 := by rw [eW2]; exact (Below.refl _ _).alloc (Nat.le_refl _) _
    rw [← eW2] at hrg hit
    have HS0 : Hid (StlS F w bb mb w1.heap.size room kn D D D W2) := ⟨HL1.out.below hbw, hit, rfl, fun x hx => .inl hx, fun x hx => hx, HL1.out.ok.apart, HB1.out.size, HF1.out, Touch.of_below (HB1.out.trans (hbw.mono HB1.out.size))⟩
    clear eW2 hit hbw
    go_wp2
    clear hrg q1 hln
    go_loopw [7, 8] (fun _ _ wr => ∃ D' R, Hid (StlS F w bb mb w1.heap.size room kn D D' R wr)) (fun _ _ wr => leftN wr mb w1.heap.size)
    case atStart => exact ⟨D, D, HS0⟩
    case round =>
      obtain ⟨D', R, HS⟩ := hrel
      rcases next_pl HS.out.it 0 with ⟨hR, hnx⟩ | ⟨R1, x, R2, W3, hR, hnx, hit3, hg3, hz3, hen⟩
      · subst hR
        have HE : Hid (D' = D.filter (notW kn)) := HS.out.fin
        have hln := len_pl HS.out.it.map
        have hle : D'.length ≤ D.length := by rw [HE.out]; exact List.length_filter_le _ _
        go_wp2
        go_ret
        exact ⟨ret_int (by rw [HR.out, ← HE.out]), by rw [HR.out, ← HE.out]; exact HS.out.buf, HS.out.tch⟩
      · subst hR
        have hnext := HS.out.next hit3 hg3
        have hxD := HS.out.sub x (by simp)
        have HN : Hid (leftN wr mb w1.heap.size = (R1 ++ R2).length + 1) := by
          show _ = _
          rw [HS.out.it.left]
          simp
          omega
        have HT3 : Hid (BufIs F W3 bb room mb D' ∧ IterIs W3 mb w1.heap.size D' (R1 ++ R2) ∧ Touch F w W3) := ⟨hnext.1, hit3, hnext.2⟩
        have HIx : Hid (IsI W3 x.2 x.1.deps) := OwnI.isI (hnext.1.hdep _ hxD) (Nat.le_trans (deps_len (hnext.1.ok.right x hxD).1).1 (by decide))
        obtain ⟨a0, c0, e0⟩ := (hnext.1.hdep x hxD).form
        obtain ⟨⟨ac, ar, sq, ds, kd, nc, nr, pc, pr, fc, fr, nm, vl⟩, dv⟩ := x
        simp only at e0
        subst e0
        have HSo : Hid (StlS F w bb mb w1.heap.size room kn D D' (R1 ++ ((⟨ac, ar, sq, ds, kd, nc, nr, pc, pr, fc, fr, nm, vl⟩ : Ch), Value.slice a0 ds.length c0) :: R2) wr) := HS
        simp only [chV, chCells, plV] at hnx hen
        clear hxD hit3 hg3 hnext HS
        go_wp2_with fail
        clear hnx hen
        obtain ⟨W4, eW4⟩ : ∃ X, X = (W3.alloc (.cells #[.int .i64 ar, .int .i64 sq] 80)).alloc (.cells #[.int .i64 ac, .int .i64 ar, .int .i64 sq, .slice a0 ds.length c0, .int .i64 kd, .int .i64 nc, .int .i64 nr, .int .i64 pc, .int .i64 pr, .int .i64 fc, .int .i64 fr, .string nm, .string vl] 35) := ⟨_, rfl⟩
        have hb4 : Below W3.heap.size W3 W4 := by rw [eW4]; exact ((Below.refl _ _).alloc (Nat.le_refl _) _).alloc (by simp) _
        have hbx : W4.heap[wr.heap.size]? = some (.cells #[.int .i64 ar, .int .i64 sq] 80) := by rw [eW4, ← hz3]; exact (Below.heap_alloc _ _ _ (by simp)).trans (heap_alloc_new _ _)
        rw [← eW4]
        have HT4 : Hid (BufIs F W4 bb room mb D' ∧ IterIs W4 mb w1.heap.size D' (R1 ++ R2) ∧ Touch F w W4) := ⟨HT3.out.1.below hb4, HT3.out.2.1.below hb4, HT3.out.2.2.trans (Touch.of_below (F := fun _ => False) hb4) fun j q => q.elim⟩
        clear eW4 hb4 HT3 HIx
        refine (isWithin_any ac ar sq (.slice a0 ds.length c0) kd nc nr pc pr fc fr nm vl ds _ kn _ (HIk.out _ HT4.out.2.2)).mono ?_
        rintro e w5 ⟨rfl, hb5⟩
        have HT5 : Hid (BufIs F w5 bb room mb D' ∧ IterIs w5 mb w1.heap.size D' (R1 ++ R2) ∧ Touch F w w5) := ⟨HT4.out.1.below hb5, HT4.out.2.1.below hb5, HT4.out.2.2.trans (Touch.of_below (F := fun _ => False) hb5) fun j q => q.elim⟩
        have hbx5 : w5.heap[wr.heap.size]? = some (.cells #[.int .i64 ar, .int .i64 sq] 80) := (hb5.block _ (Array.getElem?_eq_some_iff.1 hbx).1).trans hbx
        have p_0 : w5.cell? ⟨wr.heap.size, 0, none⟩ = some (.int .i64 ar) := by rw [cell_of_row _ _ 0 _ _ _ hbx5]; rfl
        have p_1 : w5.cell? ⟨wr.heap.size, 1, none⟩ = some (.int .i64 sq) := by rw [cell_of_row _ _ 1 _ _ _ hbx5]; rfl
        obtain ⟨wb, ewb⟩ : ∃ b, b = withinB (⟨ac, ar, sq, ds, kd, nc, nr, pc, pr, fc, fr, nm, vl⟩ : Ch) kn := ⟨_, rfl⟩
        have HWb : Hid (notW kn ((⟨ac, ar, sq, ds, kd, nc, nr, pc, pr, fc, fr, nm, vl⟩ : Ch), Value.slice a0 ds.length c0) = !wb) := by show _ = _; unfold notW; rw [ewb]
        rw [← ewb]
        clear hb5 hbx hbx5 HT4 ewb
        cases wb
        · have HS5 : Hid (StlS F w bb mb w1.heap.size room kn D D' (R1 ++ R2) w5) := HSo.out.stay HWb.out HT5.out.2.1 HT5.out.1 HT5.out.2.2
          clear p_0 p_1 HT5
          go_wp2
          go_roundw
          case rel => exact ⟨_, _, HS5⟩
          case measure => rw [HN.out, HS5.out.it.left]; exact Nat.lt_succ_self _
        · obtain ⟨w6, hdl, hg6, hz6, y, j, hy, hj, hit6⟩ := drop_it HT5.out.2.1 ar sq 0 HSo.out.far HSo.out.has
          have HS6 : Hid (StlS F w bb mb w1.heap.size room kn D (D'.eraseIdx j) (R1 ++ R2) w6) := HSo.out.gone HWb.out HT5.out.1 HT5.out.2.2 hy hj hit6 hg6
          simp only [plV] at hdl
          clear hg6 hz6 hy hj hit6 HT5
          go_wp2
          go_roundw
          case rel => exact ⟨_, _, HS6⟩
          case measure => rw [HN.out, HS6.out.it.left]; exact Nat.lt_succ_self _
  · have hc3 : (ck == 0) = false := by simp [hck]
    have HR : Hid (staleD kn D = D) := by show _ = _; unfold staleD; rw [if_pos (by rw [HCk.out]; exact hck)]
    go_wp2
    go_ret
    exact ⟨ret_int (by rw [HR.out]; omega), by rw [HR.out]; exact HL.out, Touch.refl _ _⟩

end Go.Proofs.Ythndgmnckpimmaa

namespace Go.Proofs.Ythndgmnckpimmaa
open Go.RowKit
set_option linter.unusedVariables false
set_option linter.unusedSimpArgs false

/-- What lies where while the copy is made. -/
structure CloS (F : Nat → Prop) (w : World) (bb mb r : Nat) (room : Int) (D : List (Ch × Value)) (b2 m2 : Nat) (F2 : Nat → Prop) (D2 R : List (Ch × Value)) (W : World) : Prop where
  old : BufIs F W bb room mb D
  it : IterIs W mb r D R
  new : BufIs F2 W b2 room m2 D2
  per : (D2.map Prod.fst ++ R.map Prod.fst).Perm (D.map Prod.fst)
  sub : ∀ x ∈ R, x ∈ D
  f1 : ∀ k, F k → k < w.heap.size
  f2 : ∀ k, F2 k → w.heap.size ≤ k
  nr : ¬ F2 r
  rw : w.heap.size ≤ r
  bel : Below w.heap.size w W
section
variable {F F2 F3 : Nat → Prop} {w W W' : World} {bb mb r b2 m2 : Nat} {room : Int} {D D2 D3 R R' : List (Ch × Value)}
theorem CloS.below (h : CloS F w bb mb r room D b2 m2 F2 D2 R W) (hb : Below W.heap.size W W') : CloS F w bb mb r room D b2 m2 F2 D2 R W' :=
  ⟨h.old.below hb, h.it.below hb, h.new.below hb, h.per, h.sub, h.f1, h.f2, h.nr, h.rw, h.bel.trans (hb.mono h.bel.size)⟩
/-- All but the lists. -/
structure CloM (F : Nat → Prop) (w : World) (bb mb r : Nat) (room : Int) (D : List (Ch × Value)) (b2 m2 : Nat) (F2 : Nat → Prop) (D2 R : List (Ch × Value)) (W : World) : Prop where
  old : BufIs F W bb room mb D
  it : IterIs W mb r D R
  new : BufIs F2 W b2 room m2 D2
  f1 : ∀ k, F k → k < w.heap.size
  f2 : ∀ k, F2 k → w.heap.size ≤ k
  nr : ¬ F2 r
  rw : w.heap.size ≤ r
  bel : Below w.heap.size w W
theorem CloM.below (h : CloM F w bb mb r room D b2 m2 F2 D2 R W) (hb : Below W.heap.size W W') : CloM F w bb mb r room D b2 m2 F2 D2 R W' :=
  ⟨h.old.below hb, h.it.below hb, h.new.below hb, h.f1, h.f2, h.nr, h.rw, h.bel.trans (hb.mono h.bel.size)⟩
theorem CloM.put (h : CloM F w bb mb r room D b2 m2 F2 D2 R W) {c : Ch} {dv : Value} (hn : BufIs F3 W' b2 room m2 (D2 ++ [(c, dv)])) (hf : ∀ k, F3 k → F2 k ∨ W.heap.size ≤ k) (ht : Touch F2 W W') (hp : ((D2 ++ [(c, dv)]).map Prod.fst ++ R.map Prod.fst).Perm (D.map Prod.fst)) (hs : ∀ x ∈ R, x ∈ D) : CloS F w bb mb r room D b2 m2 F3 (D2 ++ [(c, dv)]) R W' := by
  have hmb : mb < w.heap.size := h.f1 mb h.old.fm
  exact ⟨h.old.keep ⟨ht.size, fun k q => ht.block k (h.old.lt k q) (fun q2 => by have := h.f1 k q; have := h.f2 k q2; omega)⟩, h.it.keep (ht.block mb h.it.lt.1 (fun q2 => by have := h.f2 mb q2; omega)) (ht.block r h.it.lt.2.1 h.nr), hn, hp, hs, h.f1, fun k q => (hf k q).elim (h.f2 k) (fun q => Nat.le_trans h.bel.size q), fun q => (hf r q).elim h.nr (fun q => by have := h.it.lt.2.1; omega), h.rw, h.bel.trans (ht.below (fun k q => h.f2 k q) h.bel.size)⟩
theorem plc_map (h : HoldOk D) : Plc (D.map Prod.fst) := List.pairwise_map.2 h.apart
theorem clo_get {x : Ch × Value} {R1 R2 : List (Ch × Value)} (h : HoldOk D) (hp : (D2.map Prod.fst ++ (R1 ++ x :: R2).map Prod.fst).Perm (D.map Prod.fst)) : getP D2 x.1.ar x.1.seq = none := by
  have h1 := (plc_map h).perm hp.symm
  have h2 := (List.pairwise_append.1 h1).2.2
  unfold getP
  rw [List.find?_eq_none]
  intro y hy hq
  refine h2 y.1 (List.mem_map_of_mem hy) x.1 (List.mem_map_of_mem (by simp)) ?_
  simpa [isOwn] using hq
end

set_option maxRecDepth 100000 in
set_option maxHeartbeats 4000000 in
theorem clone_any (F : Nat → Prop) (bb : Nat) (room : Int) (mb : Nat) (D : List (Ch × Value)) (w : World) (h : BufIs F w bb room mb D) :
    Calls Try.prog 15 #[.pointer (some ⟨bb, 0, none⟩)] w fun e w' => ∃ b2 m2 F2 D2, e = .returned (.pointer (some ⟨b2, 0, none⟩)) ∧ BufIs F2 w' b2 room m2 D2 ∧ (D2.map Prod.fst).Perm (D.map Prod.fst) ∧ (∀ k, F2 k → w.heap.size ≤ k) ∧ BufIs F w' bb room mb D ∧ Below w.heap.size w w' := by
  have HF1 : Hid (∀ k, F k → k < w.heap.size) := h.lt
  have HL : Hid (BufIs F w bb room mb D) := h
  have q0 := h.cell0
  have q1 := h.cell1
  clear h
  go_enter Try.func15, Try.ntmps15
  go_wp2_with fail
  clear q0 q1
  refine (empty_any room _).mono ?_
  rintro e w1 ⟨b2, m2, rfl, h2, hb2, hm2, hb1⟩
  have HL1 : Hid (BufIs F w1 bb room mb D) := HL.out.below hb1
  have q1 := HL1.out.cell1
  obtain ⟨o, hrg, hit⟩ := range_pl HL1.out.hmap
  obtain ⟨W2, eW2⟩ : ∃ X, X = w1.alloc o := ⟨_, rfl⟩
  have hbw : Below w1.heap.size w1 W2 := by rw [eW2]; exact (Below.refl _ _).alloc (Nat.le_refl _) _
  rw [← eW2] at hrg hit
  have HS0 : Hid (CloS F w bb mb w1.heap.size room D b2 m2 (fun k => k = m2 ∨ k = b2) [] D W2) := ⟨HL1.out.below hbw, hit, h2.below hbw, List.Perm.refl _, fun x hx => hx, HF1.out, fun k q => by rcases q with rfl | rfl <;> assumption, fun q => by have := h2.lt _ q; omega, hb1.size, hb1.trans (hbw.mono hb1.size)⟩
  clear eW2 hit hbw h2 hb1
  go_wp2
  clear hrg q1
  go_loopw [5] (fun _ wr => ∃ F2 D2 R, Hid (CloS F w bb mb w1.heap.size room D b2 m2 F2 D2 R wr)) (fun _ wr => leftN wr mb w1.heap.size)
  case atStart => exact ⟨_, _, _, HS0⟩
  case round =>
    obtain ⟨F2, D2, R, HS⟩ := hrel
    rcases next_pl HS.out.it 0 with ⟨hR, hnx⟩ | ⟨R1, x, R2, W3, hR, hnx, hit3, hg3, hz3, hen⟩
    · have HE : Hid ((D2.map Prod.fst).Perm (D.map Prod.fst)) := by
        show List.Perm _ _
        have := HS.out.per
        rw [hR] at this
        simpa using this
      go_wp2
      go_ret
      exact ⟨_, _, _, _, rfl, HS.out.new, HE.out, HS.out.f2, HS.out.old, HS.out.bel⟩
    · have hxD := HS.out.sub x (by rw [hR]; simp)
      have hper := HS.out.per
      rw [hR] at hper
      have HGn : Hid (getP D2 x.1.ar x.1.seq = none) := clo_get HS.out.old.ok hper
      have HSx : Hid (checkCh x.1 = 0 ∧ Sized x.1) := HS.out.old.ok.right x hxD
      have HN : Hid (leftN wr mb w1.heap.size = (R1 ++ R2).length + 1) := by
        show _ = _
        rw [HS.out.it.left, hR]
        simp
        omega
      have HP3 : Hid (∀ dv, ((D2 ++ [(x.1, dv)]).map Prod.fst ++ (R1 ++ R2).map Prod.fst).Perm (D.map Prod.fst)) := fun dv => by
        refine List.Perm.trans ?_ hper
        simp only [List.map_append, List.map_cons, List.map_nil, List.append_assoc, List.cons_append, List.nil_append]
        exact List.Perm.append_left _ (List.perm_middle.symm)
      have HSb3 : Hid (∀ y ∈ R1 ++ R2, y ∈ D) := fun y hy => HS.out.sub y (by rw [hR]; simp at hy ⊢; rcases hy with h | h <;> simp [h])
      have HT3 : Hid (CloM F w bb mb w1.heap.size room D b2 m2 F2 D2 (R1 ++ R2) W3) := by
        have hk : ∀ (F0 : Nat → Prop), (∀ k, F0 k → k < wr.heap.size) → ¬ F0 w1.heap.size → KeepsS F0 wr W3 := fun F0 h1 h2 => KeepsS.of_grown hg3 h1 (fun r e => by cases e; exact h2)
        exact ⟨HS.out.old.keep (hk F HS.out.old.lt (fun q => by have := HS.out.f1 _ q; have := HS.out.rw; omega)), hit3, HS.out.new.keep (hk F2 HS.out.new.lt HS.out.nr), HS.out.f1, HS.out.f2, HS.out.nr, HS.out.rw, HS.out.bel.grown hg3 HS.out.bel.size (fun j e => by cases e; exact HS.out.rw)⟩
      have hiI := OwnI.isI (HT3.out.old.hdep _ hxD) (Nat.le_trans (deps_len HSx.out.1).1 (by decide))
      have HIx : Hid (IsI W3 x.2 x.1.deps) := hiI
      obtain ⟨a0, c0, e0⟩ := (HT3.out.old.hdep x hxD).form
      obtain ⟨⟨ac, ar, sq, ds, kd, nc, nr, pc, pr, fc, fr, nm, vl⟩, dv⟩ := x
      simp only at e0
      subst e0
      simp only [chV, chCells, plV] at hnx hen
      clear hxD hper hiI hR hit3 hg3 HS
      go_wp2_with fail
      clear hnx hen
      obtain ⟨W4, eW4⟩ : ∃ X, X = W3.alloc (.cells #[.int .i64 ac, .int .i64 ar, .int .i64 sq, .slice a0 ds.length c0, .int .i64 kd, .int .i64 nc, .int .i64 nr, .int .i64 pc, .int .i64 pr, .int .i64 fc, .int .i64 fr, .string nm, .string vl] 35) := ⟨_, rfl⟩
      have hb4 : Below W3.heap.size W3 W4 := by rw [eW4]; exact (Below.refl _ _).alloc (Nat.le_refl _) _
      rw [← eW4]
      have HT4 : Hid (CloM F w bb mb w1.heap.size room D b2 m2 F2 D2 (R1 ++ R2) W4) := HT3.out.below hb4
      have HI4 : Hid (IsI W4 (.slice a0 ds.length c0) ds) := HIx.out.below hb4
      clear eW4 hb4 HT3 HIx
      refine (put_any F2 b2 room m2 D2 ac ar sq (.slice a0 ds.length c0) kd nc nr pc pr fc fr nm vl ds _ HT4.out.new HI4.out HSx.out HGn.out).mono ?_
      rintro e w5 ⟨⟨v5, rfl⟩, F5, dv5, q1, q2, q3, q4⟩
      have HS5 : Hid (CloS F w bb mb w1.heap.size room D b2 m2 F5 (D2 ++ [((⟨ac, ar, sq, ds, kd, nc, nr, pc, pr, fc, fr, nm, vl⟩ : Ch), dv5)]) (R1 ++ R2) w5) := HT4.out.put q1 q3 q4 (HP3.out dv5) HSb3.out
      clear q1 q2 q3 q4 HT4 HI4 HP3
      go_wp2
      go_roundw
      case rel => exact ⟨_, _, _, HS5⟩
      case measure => rw [HN.out, HS5.out.it.left]; exact Nat.lt_succ_self _


end Go.Proofs.Ythndgmnckpimmaa

namespace Go.Proofs.Ythndgmnckpimmaa
open Go.RowKit
set_option linter.unusedVariables false
set_option linter.unusedSimpArgs false

structure Cm where
  kind : Int
  known : List Int
  c : Ch
/-- From block b, offset o on lies this one. -/
def CmAt (W : World) (b o : Nat) (m : Cm) : Prop := W.cell? ⟨b, o, none⟩ = some (.int .i64 m.kind) ∧ (∃ kv, W.cell? ⟨b, o + 1, none⟩ = some kv ∧ IsI W kv m.known) ∧ ChAt W b (o + 2) m.c
def IsM (W : World) (v : Value) (L : List Cm) : Prop :=
  ∃ (a : Option Addr) (cap : Nat), v = .slice a L.length cap ∧ L.length ≤ cap ∧ L.length ≤ 281474976710656 ∧ (L = [] ∨ ∃ b o, a = some ⟨b, o, none⟩ ∧ ∀ i (h : i < L.length), CmAt W b (o + i * 15) L[i])
theorem IsM.non {w : World} (cap : Nat) : IsM w (.slice none 0 cap) [] := ⟨none, cap, rfl, Nat.zero_le _, by simp, .inl rfl⟩

theorem stale_perm {kn : List Int} {D : List (Ch × Value)} {H : List Ch} (hp : (D.map Prod.fst).Perm H) (hs : SrtC H) : ((staleD kn D).map Prod.fst).Perm (staleR H kn).1 ∧ SrtC (staleR H kn).1 ∧ (D.length : Int) - ((staleD kn D).length : Int) = (staleR H kn).2 := by
  unfold staleD staleR
  by_cases hc : checkL kn ≠ 0
  · rw [if_pos hc, if_pos hc]
    exact ⟨hp, hs, by simp⟩
  · rw [if_neg hc, if_neg hc]
    have e : (D.filter (notW kn)).map Prod.fst = (D.map Prod.fst).filter (fun c => !withinB c kn) := by
      rw [List.filter_map]
      rfl
    have hq := hp.filter (fun c => !withinB c kn)
    refine ⟨by rw [e]; exact hq, List.Pairwise.filter _ hs, ?_⟩
    have h1 := hp.length_eq
    have h2 := hq.length_eq
    rw [← e, List.length_map] at h2
    rw [List.length_map] at h1
    simp only
    omega

theorem staleH_any (F : Nat → Prop) (bb : Nat) (room : Int) (H : List Ch) (kv : Value) (kn : List Int) (w : World) (h : BufH F w (.pointer (some ⟨bb, 0, none⟩)) room H) (hk : ∀ W, Touch F w W → IsI W kv kn) (hl : H.length ≤ 4096) :
    Calls Try.prog 14 #[.pointer (some ⟨bb, 0, none⟩), kv] w fun e w' => e = .returned (.int .i64 (staleR H kn).2) ∧ BufH F w' (.pointer (some ⟨bb, 0, none⟩)) room (staleR H kn).1 ∧ Touch F w w' := by
  obtain ⟨D, hv, hp, hs⟩ := h
  rcases hv with ⟨b2, mb, e, hb⟩ | ⟨e, _⟩
  · cases e
    obtain ⟨q1, q2, q3⟩ := stale_perm (kn := kn) hp hs
    refine (stale_any F bb room mb D kv kn w hb hk (by have := hp.length_eq; rw [List.length_map] at this; omega)).mono ?_
    rintro e w' ⟨rfl, h1, h2⟩
    exact ⟨by rw [q3], ⟨_, h1.v, q1, q2⟩, h2⟩
  · cases e

theorem cloneH_any (F : Nat → Prop) (bb : Nat) (room : Int) (H : List Ch) (w : World) (h : BufH F w (.pointer (some ⟨bb, 0, none⟩)) room H) :
    Calls Try.prog 15 #[.pointer (some ⟨bb, 0, none⟩)] w fun e w' => ∃ b2 F2, e = .returned (.pointer (some ⟨b2, 0, none⟩)) ∧ BufH F2 w' (.pointer (some ⟨b2, 0, none⟩)) room H ∧ (∀ k, F2 k → w.heap.size ≤ k) ∧ Below w.heap.size w w' := by
  obtain ⟨D, hv, hp, hs⟩ := h
  rcases hv with ⟨b3, mb, e, hb⟩ | ⟨e, _⟩
  · cases e
    refine (clone_any F bb room mb D w hb).mono ?_
    rintro e w' ⟨b2, m2, F2, D2, rfl, h1, h2, h3, _, h5⟩
    exact ⟨b2, F2, rfl, ⟨D2, h1.v, h2.trans hp, hs⟩, h3, h5⟩
  · cases e
theorem staleR_le (H : List Ch) (kn : List Int) : (staleR H kn).1.length ≤ H.length := by
  unfold staleR
  split
  · exact Nat.le_refl _
  · exact List.length_filter_le _ _

section
variable {w W W' : World} {bb yb N : Nat} {room : Int} {H H' K K' : List Ch} {yl zl v1 : Value} {F F' G : Nat → Prop}
theorem OwS.keep (h : OwS w bb yb room H K yl zl F G W) (hk : KeepsS (fun k => F k ∨ G k ∨ k = yb) W W') (hb : Below w.heap.size w W') : OwS w bb yb room H K yl zl F G W' :=
  ⟨h.buf.keep (hk.mono fun k q => .inl q), h.doc.keep (hk.mono fun k q => .inr (.inl q)), h.apart, h.fw, h.gw, (hk.2 yb (.inr (.inr rfl))).trans h.box, h.yF, h.yG, h.yw, hb⟩
/-- Another buffer is touched. -/
theorem OwS.touch (h : OwS w bb yb room H K yl zl F G W) {X : Nat → Prop} (ht : Touch X W W') (hx : ∀ k, X k → w.heap.size ≤ k ∧ ¬ F k ∧ ¬ G k ∧ k ≠ yb) : OwS w bb yb room H K yl zl F G W' :=
  h.keep (ht.keeps fun k q => ⟨by rcases q with q | q | q; exact h.buf.lt k q; exact h.doc.1 k q; rw [q]; exact h.ylt, fun hX => by rcases q with q | q | q; exact (hx k hX).2.1 q; exact (hx k hX).2.2.1 q; exact (hx k hX).2.2.2 q⟩) (h.bel.trans (ht.below (fun k q => (hx k q).1) h.bel.size))
/-- A clone takes the buffer's place. -/
theorem OwS.clone (h : OwS w bb yb room H K yl zl F G W) {b2 : Nat} {F2 : Nat → Prop} (hL : BufH F2 W' (.pointer (some ⟨b2, 0, none⟩)) room H) (hF : ∀ k, F2 k → W.heap.size ≤ k) (hb : Below W.heap.size W W') : OwS w b2 yb room H K yl zl F2 G W' :=
  have h2 := h.below hb
  ⟨hL, h2.doc, fun k q hG => by have := hF k q; have := h.doc.1 k hG; omega, fun k q => Nat.le_trans h.bel.size (hF k q), h2.gw, h2.box, fun q => by have := hF yb q; have := h.ylt; omega, h2.yG, h2.yw, h2.bel⟩
theorem OwS.stale (h : OwS w bb yb room H K yl zl F G W) (hL : BufH F W' (.pointer (some ⟨bb, 0, none⟩)) room H') (ht : Touch F W W') : OwS w bb yb room H' K yl zl F G W' := h.take hL (fun k q => .inl q) ht
end
/-- Cells that may be written over. -/
def OvG (g : Nat) (W : World) (m : Nat) : Prop := ∀ k, k < m → (W.cell? ⟨g, k, none⟩).isSome = true ∧ W.frozen? ⟨g, k, none⟩ = false
theorem OvG.set {g m : Nat} {W : World} (h : OvG g W m) (q : Addr) (u : Value) : OvG g (W.setCell q u) m := fun k hk => ⟨isSome_setCell q u (h k hk).1, by simpa using (h k hk).2⟩
theorem OvG.of {B : Nat} {W : World} {v : Value} {ds : List Int} (h : OwnI B W v ds) : ∃ a c, v = .slice a ds.length c ∧ ((ds.length = 0 ∧ v.ownBlock = none) ∨ ∃ g, a = some ⟨g, 0, none⟩ ∧ v.ownBlock = some g ∧ B ≤ g ∧ g < W.heap.size ∧ OvG g W ds.length) := by
  have h0 := h
  rcases h.2 with ⟨rfl, hn⟩ | ⟨b, cap, cur, rfl, hb, hc, _⟩
  · exact ⟨none, 0, by rw [hn], .inl ⟨hn, rfl⟩⟩
  · refine ⟨_, cap, rfl, .inr ⟨b, rfl, rfl, hb, (Array.getElem?_eq_some_iff.1 hc).1, fun k hk => ⟨?_, World.ownsRow.frozenAt h0 k⟩⟩⟩
    rw [World.ownsRow.cellAt h0 k (by omega)]
    simp [cellsI, hk]
theorem KeepsS.set {g i : Nat} {A W : World} {u : Value} (h : KeepsS (fun k => k ≠ g) A W) : KeepsS (fun k => k ≠ g) A (W.setCell ⟨g, i, none⟩ u) := ⟨by have := h.1; simpa [World.setCell] using this, fun k hk => (RowKit.Below.heap_setCell _ _ _ _ hk).trans (h.2 k hk)⟩

end Go.Proofs.Ythndgmnckpimmaa
