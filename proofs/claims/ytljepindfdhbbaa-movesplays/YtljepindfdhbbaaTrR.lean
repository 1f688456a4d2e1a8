/- slices.Clone of rows, maps.Clone. -/
import Derived.Test.YtljepindfdhbbaaTrJ
import Derived.Shelf.SlMaps.Clone
namespace Go.Proofs.Ytljepindfdhbbaa
open Go.RowKit
set_option linter.unusedVariables false
set_option linter.unusedSimpArgs false

set_option maxRecDepth 100000 in
set_option maxHeartbeats 2000000 in
theorem cloneRows (v : Value) (R : List Rw) (w : World) (h : OwnR 0 w v R) (hl : R.length ≤ 4096) :
    Calls Try.prog 28 #[v] w fun e w' => ∃ v', e = .returned v' ∧ OwnR w.heap.size w' v' R ∧ Below w.heap.size w w' := by
  obtain ⟨i0, hi, hz0, hz1, hz2⟩ := info_parts infoMove
  obtain ⟨hx, h2⟩ := h
  rcases h2 with ⟨rfl, hn⟩ | ⟨g, cap, cur, rfl, hg, hc, hcap, hm, hsz, htk⟩
  · have e : R = [] := List.eq_nil_of_length_eq_zero hn
    subst e
    have hq := fun w => Lib.run_eql_slice_nil (P := Try.prog) w 64 _ none 0 0 0 0 Try.underlying64
    clear hx hn
    go_enter Try.func28, Try.ntmps28
    go_wp2
    go_ret
    exact ⟨_, rfl, OwnE.nil0 _ _, Below.refl _ _⟩
  · have hbe : Below w.heap.size w (w.alloc (.cells #[] 69)) := (Below.refl _ _).alloc (Nat.le_refl _) _
    have HO : Hid ((w.alloc (.cells #[] 69)).ownsRow w.heap.size 69 13 (.slice (some ⟨w.heap.size, 0, none⟩) 0 0) 0 []) := World.ownsRow_made w #[] 0 (Nat.le_refl _) (by unfold maxLen; omega) (by simp)
    have HN : Hid (∀ j u, (flatE rwCells R)[j]? = some u → (w.alloc (.cells #[] 69)).cell? ((⟨g, 0, none⟩ : Addr).add j) = some u) := fun j u hj => by
      rw [Addr.add_lit, Nat.zero_add]
      refine (hbe.cell (p := ⟨g, j, none⟩) (row_lt hc)).trans ?_
      rw [cell_of_row w g j _ _ _ hc]
      rw [← htk] at hj
      have hj2 : j < R.length * 13 := by have := (List.getElem?_eq_some_iff.1 hj).1; rw [List.length_take] at this; omega
      rw [List.getElem?_take_of_lt hj2] at hj
      simpa using hj
    have HBe : Hid (Below w.heap.size w (w.alloc (.cells #[] 69))) := hbe
    have hsz0 : w.heap.size ≤ (w.alloc (.cells #[] 69)).heap.size := hbe.size
    have hq := fun w => Lib.run_eql_slice_nil (P := Try.prog) w 64 _ (some ⟨g, 0, none⟩) R.length cap 0 0 Try.underlying64
    clear hbe hx hc hsz htk
    go_enter Try.func28, Try.ntmps28
    go_wp2_with (at_builtin; refine wpList_append_own_at _ rfl _ _ 64 rfl w.heap.size 69 i0 (.agg #[.int .i64 0, .int .i64 0, .int .i64 0, .int .i64 0, .int .i64 0, .int .i64 0, .bool false, .int .i64 0, .int .i64 0, .int .i64 0, .int .i64 0, .int .i64 0, .int .i64 0]) 13 104 Try.underlying64 hi hz0 hz1 hz2 rfl (by decide) _ _ _ rfl HO.out ⟨g, 0, none⟩ R.length cap (flatE rwCells R) rfl (flatE_length rwCells_len R) HN.out (flat_one _) (by unfold maxLen; omega) (by omega) hsz0 ?_; intro v3 w3 hown3 hgrow3 hnil3 hat3; have HR3 : Hid (OwnR w.heap.size w3 v3 R ∧ Below w.heap.size w w3) := ⟨by (have h9 := hown3; rw [Nat.zero_add, List.nil_append] at h9; exact h9), HBe.out.grown hgrow3 HBe.out.size (fun k e => by cases e; exact Nat.le_refl _)⟩; clear hown3 hgrow3 hnil3 hat3)
    go_ret
    exact ⟨_, rfl, HR3.out.1, HR3.out.2⟩

set_option maxRecDepth 100000 in
set_option maxHeartbeats 2000000 in
theorem cloneS (b : Nat) (es : Array MapEntry) (clock : Nat) (w : World) (hb : w.heap[b]? = some (.map es clock)) :
    Calls Try.prog 29 #[.map (some b)] w fun e w' => e = .returned (.map (some w.heap.size)) ∧ w' = w.alloc (.map es clock) := by
  have hq := fun w => run_eql_map_nil_sl (P := Try.prog) w 62 _ _ (some b) uStands
  go_enter Try.func29, Try.ntmps29
  go_wp2
  rw [run_callFunc_extern Try.func47 (by kernel_rfl) (by kernel_rfl) (by kernel_rfl) (e := Extern.MapsClone.clone) (by kernel_rfl), run_maps_clone_sl w 62 hb]
  simp only [Result.andThen]
  rw [Oper.upon_value]
  go_wp2
  rw [run_typeAssert_map_sl _ 62 _ _ _ _ uStands]
  simp only [Result.andThen]
  rw [Oper.upon_value]
  go_wp2
  go_ret
  exact ⟨rfl, rfl⟩

set_option maxRecDepth 100000 in
set_option maxHeartbeats 2000000 in
theorem cloneK (b : Nat) (es : Array MapEntry) (clock : Nat) (w : World) (hb : w.heap[b]? = some (.map es clock)) :
    Calls Try.prog 30 #[.map (some b)] w fun e w' => e = .returned (.map (some w.heap.size)) ∧ w' = w.alloc (.map es clock) := by
  have hq := fun w => run_eql_map_nil_sl (P := Try.prog) w 63 _ _ (some b) uKids
  go_enter Try.func30, Try.ntmps30
  go_wp2
  rw [run_callFunc_extern Try.func47 (by kernel_rfl) (by kernel_rfl) (by kernel_rfl) (e := Extern.MapsClone.clone) (by kernel_rfl), run_maps_clone_sl w 63 hb]
  simp only [Result.andThen]
  rw [Oper.upon_value]
  go_wp2
  rw [run_typeAssert_map_sl _ 63 _ _ _ _ uKids]
  simp only [Result.andThen]
  rw [Oper.upon_value]
  go_wp2
  go_ret
  exact ⟨rfl, rfl⟩

theorem cellT {W : World} {b : Nat} {cs : Array Value} {T : TypeId} (h : W.heap[b]? = some (.cells cs T)) (j : Nat) (u : Value) (hj : cs[j]? = some u) : W.cell? ⟨b, j, none⟩ = some u := by
  rw [cell_of_row W b j _ _ _ h]
  exact hj
theorem SMap.cut {w : World} {b : Nat} {T : List Pl} (h : SMap w b T) : ∃ es cl, w.heap[b]? = some (.map es cl) ∧ ∀ (w' : World) (b' : Nat), w'.heap[b']? = some (.map es cl) → SMap w' b' T := by
  obtain ⟨D, ⟨es, cl, h1, h2⟩, h3⟩ := h
  exact ⟨es, cl, h1, fun w' b' h4 => ⟨D, ⟨es, cl, h4, h2⟩, h3⟩⟩
theorem KMap.cut {w : World} {b : Nat} {f : St → Int} (h : KMap w b f) : ∃ es cl, w.heap[b]? = some (.map es cl) ∧ ∀ (w' : World) (b' : Nat), w'.heap[b']? = some (.map es cl) → KMap w' b' f := by
  obtain ⟨D, ⟨es, cl, h1, h2⟩, h3⟩ := h
  exact ⟨es, cl, h1, fun w' b' h4 => ⟨D, ⟨es, cl, h4, h2⟩, h3⟩⟩
theorem clone_fin {F : Nat → Prop} {w W : World} {tb sb kb sb2 kb2 : Nat} {R : List Rw} {k : Nat} {lv : Value} {a4 : Option Addr} {c4 : Nat} (h : TrIs F W tb R k lv sb kb) (hb : Below w.heap.size w W) (ho : OwnR w.heap.size W (.slice a4 R.length c4) R) (hs : SMap W sb2 (doneT ((mvs R).take k)) ∧ w.heap.size ≤ sb2) (hk : KMap W kb2 (kidsN (doneT ((mvs R).take k))) ∧ w.heap.size ≤ kb2 ∧ sb2 ≠ kb2) : TrIs (fun j => w.heap.size ≤ j ∧ j < W.heap.size + 1) (W.alloc (.cells #[.slice a4 R.length c4, .int .i64 (k : Int), .map (some sb2), .map (some kb2)] 66)) W.heap.size R k (.slice a4 R.length c4) sb2 kb2 := by
  have hbx : Below W.heap.size W (W.alloc (.cells #[.slice a4 R.length c4, .int .i64 (k : Int), .map (some sb2), .map (some kb2)] 66)) := (Below.refl _ _).alloc (Nat.le_refl _) _
  exact {
    row := heap_alloc_new _ _
    own := (ho.below hbx).low (Nat.zero_le _)
    st := hs.1.keep (hbx.block _ hs.1.lt)
    kd := hk.1.keep (hbx.block _ hk.1.lt)
    ls := h.ls
    small := h.small
    ne := hk.2.2
    ft := ⟨hb.size, by omega⟩
    fs := ⟨hs.2, by have := hs.1.lt; omega⟩
    fk := ⟨hk.2.1, by have := hk.1.lt; omega⟩
    fl := fun g e => ⟨(ho.lt g e).1, by have := (ho.lt g e).2; omega⟩
    lt := fun j hj => by simp; omega }

set_option maxRecDepth 100000 in
set_option maxHeartbeats 4000000 in
theorem clone_any (F : Nat → Prop) (tb : Nat) (L : List Mv) (w : World) (h : TreeOk F w tb L) :
    Calls Try.prog 10 #[.pointer (some ⟨tb, 0, none⟩)] w fun e w' => ∃ tb2 F2, e = .returned (.pointer (some ⟨tb2, 0, none⟩)) ∧ TreeOk F2 w' tb2 L ∧ (∀ j, F2 j → w.heap.size ≤ j) ∧ Below w.heap.size w w' := by
  obtain ⟨R, k, lv, sb, kb, h, em⟩ := h
  have HEm : Hid (mvs R = L) := em
  obtain ⟨a9, c9, e9⟩ := h.own.form
  subst e9
  have HT : Hid (TrIs F w tb R k (.slice a9 R.length c9) sb kb) := h
  have HB : Hid (Below w.heap.size w w) := Below.refl _ _
  clear h em
  go_enter Try.func10, Try.ntmps10
  go_wp2_with fail
  refine wp_region_held_drew (S := fun W' => W'.heap[tb]? = some (.cells #[.slice a9 R.length c9, .int .i64 (k : Int), .map (some sb), .map (some kb)] 66)) (by kernel_rfl) HT.out.row (fun hHeld => ?_)
  obtain ⟨Ua1u0, eW⟩ : ∃ X, X = w.drew := ⟨_, rfl⟩
  have hb : Below w.heap.size w Ua1u0 := by rw [eW]; exact (Below.refl _ _).drew
  replace HT : Hid (TrIs F Ua1u0 tb R k (.slice a9 R.length c9) sb kb) := HT.out.below hb
  replace HB : Hid (Below w.heap.size w Ua1u0) := HB.out.trans (hb.mono HB.out.size)
  rw [← eW] at hHeld ⊢
  clear eW hb
  refine tkW 0 (some 5) (v := ?_) ?_ hHeld ?_
  rotate_left
  · (intro ww _; go_simp; try with_reducible rfl)
  refine tkW 1 (some 6) (v := ?_) ?_ hHeld ?_
  rotate_left
  · (intro ww hSw; (try dsimp only at hSw); have hS := hSw; have t0 := cellT hS 0 _ rfl; have t1 := cellT hS 1 _ rfl; have t2 := cellT hS 2 _ rfl; have t3 := cellT hS 3 _ rfl; go_simp; try with_reducible rfl)
  refine tkW 2 (some 7) (v := ?_) ?_ hHeld ?_
  rotate_left
  · (intro ww _; go_simp; try with_reducible rfl)
  refine tkW 3 (some 8) (v := ?_) ?_ hHeld ?_
  rotate_left
  · (intro ww hSw; (try dsimp only at hSw); have hS := hSw; have t0 := cellT hS 0 _ rfl; have t1 := cellT hS 1 _ rfl; have t2 := cellT hS 2 _ rfl; have t3 := cellT hS 3 _ rfl; go_simp; try with_reducible rfl)
  refine tkW 5 (some 10) (v := ?_) ?_ hHeld ?_
  rotate_left
  · (intro ww _; go_simp; try with_reducible rfl)
  refine tkW 6 (some 11) (v := ?_) ?_ hHeld ?_
  rotate_left
  · (intro ww hSw; (try dsimp only at hSw); have hS := hSw; have t0 := cellT hS 0 _ rfl; have t1 := cellT hS 1 _ rfl; have t2 := cellT hS 2 _ rfl; have t3 := cellT hS 3 _ rfl; go_simp; try with_reducible rfl)
  refine tkW 7 (some 12) (v := ?_) ?_ hHeld ?_
  rotate_left
  · (intro ww _; go_simp; try with_reducible rfl)
  refine tkW 8 (some 13) (v := ?_) ?_ hHeld ?_
  rotate_left
  · (intro ww hSw; (try dsimp only at hSw); have hS := hSw; have t0 := cellT hS 0 _ rfl; have t1 := cellT hS 1 _ rfl; have t2 := cellT hS 2 _ rfl; have t3 := cellT hS 3 _ rfl; go_simp; try with_reducible rfl)
  refine tkW 9 (some 14) (v := ?_) ?_ hHeld ?_
  rotate_left
  · (intro ww _; go_simp; try with_reducible rfl)
  refine tkW 10 (some 15) (v := ?_) ?_ hHeld ?_
  rotate_left
  · (intro ww hSw; (try dsimp only at hSw); have hS := hSw; have t0 := cellT hS 0 _ rfl; have t1 := cellT hS 1 _ rfl; have t2 := cellT hS 2 _ rfl; have t3 := cellT hS 3 _ rfl; go_simp; try with_reducible rfl)
  refine tkW 11 (some 16) (v := ?_) ?_ hHeld ?_
  rotate_left
  · (intro ww _; go_simp; try with_reducible rfl)
  refine tkW 12 (some 17) (v := ?_) ?_ hHeld ?_
  rotate_left
  · (intro ww hSw; (try dsimp only at hSw); have hS := hSw; have t0 := cellT hS 0 _ rfl; have t1 := cellT hS 1 _ rfl; have t2 := cellT hS 2 _ rfl; have t3 := cellT hS 3 _ rfl; go_simp; try with_reducible rfl)
  refine tkW 14 (some 19) (v := ?_) ?_ hHeld ?_
  rotate_left
  · (intro ww _; go_simp; try with_reducible rfl)
  refine tkW 15 (some 20) (v := ?_) ?_ hHeld ?_
  rotate_left
  · (intro ww hSw; (try dsimp only at hSw); have hS := hSw; have t0 := cellT hS 0 _ rfl; have t1 := cellT hS 1 _ rfl; have t2 := cellT hS 2 _ rfl; have t3 := cellT hS 3 _ rfl; go_simp; try with_reducible rfl)
  refine tkW 16 (some 21) (v := ?_) ?_ hHeld ?_
  rotate_left
  · (intro ww _; go_simp; try with_reducible rfl)
  refine tkW 17 (some 22) (v := ?_) ?_ hHeld ?_
  rotate_left
  · (intro ww hSw; (try dsimp only at hSw); have hS := hSw; have t0 := cellT hS 0 _ rfl; have t1 := cellT hS 1 _ rfl; have t2 := cellT hS 2 _ rfl; have t3 := cellT hS 3 _ rfl; go_simp; try with_reducible rfl)
  refine wpAnyH_ready (rs := [4]) (by kernel_rfl) (by simp) ?_
  refine AllReadyH.cons (o := ⟨some 9, _, _, _, _, _⟩) rfl (fun K hK => ?_) AllReadyH.nil
  go_simp
  refine (cloneRows (.slice a9 R.length c9) R _ HT.out.own HT.out.small).mono ?_
  rintro e Ua1u1 ⟨v4, rfl, ho, hb⟩
  obtain ⟨a4, c4, e4⟩ := ho.form
  subst e4
  (try go_wp2_with fail)
  have HO : Hid (OwnR w.heap.size Ua1u1 (.slice a4 R.length c4) R) := ho.low HB.out.size
  replace HT : Hid (TrIs F Ua1u1 tb R k (.slice a9 R.length c9) sb kb) := HT.out.below hb
  replace HB : Hid (Below w.heap.size w Ua1u1) := HB.out.trans (hb.mono HB.out.size)
  clear ho hb
  refine hK.out _ _ (HT.out.row) (fun hHeld2 => ?_)
  clear hK K hHeld
  have hHeld := hHeld2
  clear hHeld2
  (try simp only [Act.put, List.setIfInBounds_toArray, List.set_cons_zero, List.set_cons_succ])
  refine wpAnyH_ready (rs := [13]) (by kernel_rfl) (by simp) ?_
  refine AllReadyH.cons (o := ⟨some 18, _, _, _, _, _⟩) rfl (fun K hK => ?_) AllReadyH.nil
  obtain ⟨es, cl, hes, hall⟩ := HT.out.st.cut
  go_simp
  refine (cloneS _ es cl _ hes).mono ?_
  rintro e Ua1u2 ⟨rfl, hw⟩
  have HW : Hid (Ua1u2 = Ua1u1.alloc (.map es cl)) := hw
  clear hw
  (try go_wp2_with fail)
  have hb : Below Ua1u1.heap.size Ua1u1 Ua1u2 := by rw [HW.out]; exact (Below.refl _ _).alloc (Nat.le_refl _) _
  obtain ⟨sb2, eb2⟩ : ∃ b, b = Ua1u1.heap.size := ⟨_, rfl⟩
  have HS : Hid (SMap Ua1u2 sb2 (doneT ((mvs R).take k)) ∧ w.heap.size ≤ sb2) := ⟨hall _ _ (by rw [HW.out, eb2]; exact heap_alloc_new _ _), by (rw [eb2]; exact HB.out.size)⟩
  rw [← eb2]
  replace HO : Hid (OwnR w.heap.size Ua1u2 (.slice a4 R.length c4) R) := HO.out.below hb
  replace HT : Hid (TrIs F Ua1u2 tb R k (.slice a9 R.length c9) sb kb) := HT.out.below hb
  replace HB : Hid (Below w.heap.size w Ua1u2) := HB.out.trans (hb.mono HB.out.size)
  clear hb HW eb2 hes hall
  refine hK.out _ _ (HT.out.row) (fun hHeld2 => ?_)
  clear hK K hHeld
  have hHeld := hHeld2
  clear hHeld2
  (try simp only [Act.put, List.setIfInBounds_toArray, List.set_cons_zero, List.set_cons_succ])
  refine wpAnyH_ready (rs := [18]) (by kernel_rfl) (by simp) ?_
  refine AllReadyH.cons (o := ⟨some 23, _, _, _, _, _⟩) rfl (fun K hK => ?_) AllReadyH.nil
  obtain ⟨es, cl, hes, hall⟩ := HT.out.kd.cut
  go_simp
  refine (cloneK _ es cl _ hes).mono ?_
  rintro e Ua1u3 ⟨rfl, hw⟩
  have HW : Hid (Ua1u3 = Ua1u2.alloc (.map es cl)) := hw
  clear hw
  (try go_wp2_with fail)
  have hb : Below Ua1u2.heap.size Ua1u2 Ua1u3 := by rw [HW.out]; exact (Below.refl _ _).alloc (Nat.le_refl _) _
  obtain ⟨kb2, eb2⟩ : ∃ b, b = Ua1u2.heap.size := ⟨_, rfl⟩
  have HK : Hid (KMap Ua1u3 kb2 (kidsN (doneT ((mvs R).take k))) ∧ w.heap.size ≤ kb2 ∧ sb2 ≠ kb2) := ⟨hall _ _ (by rw [HW.out, eb2]; exact heap_alloc_new _ _), by (rw [eb2]; exact HB.out.size), by (rw [eb2]; have h1 := HS.out.1.lt; omega)⟩
  rw [← eb2]
  replace HO : Hid (OwnR w.heap.size Ua1u3 (.slice a4 R.length c4) R) := HO.out.below hb
  replace HS : Hid (SMap Ua1u3 sb2 (doneT ((mvs R).take k)) ∧ w.heap.size ≤ sb2) := ⟨HS.out.1.keep (hb.block _ HS.out.1.lt), HS.out.2⟩
  replace HT : Hid (TrIs F Ua1u3 tb R k (.slice a9 R.length c9) sb kb) := HT.out.below hb
  replace HB : Hid (Below w.heap.size w Ua1u3) := HB.out.trans (hb.mono HB.out.size)
  clear hb HW eb2 hes hall
  refine hK.out _ _ (HT.out.row) (fun hHeld2 => ?_)
  clear hK K hHeld
  have hHeld := hHeld2
  clear hHeld2
  (try simp only [Act.put, List.setIfInBounds_toArray, List.set_cons_zero, List.set_cons_succ])
  refine tkW 19 (some 24) (v := ?_) ?_ hHeld ?_
  rotate_left
  · (intro ww hSw; (try dsimp only at hSw); have hS := hSw; have t0 := cellT hS 0 _ rfl; have t1 := cellT hS 1 _ rfl; have t2 := cellT hS 2 _ rfl; have t3 := cellT hS 3 _ rfl; go_simp; try with_reducible rfl)
  refine wpAnyH_ready (rs := [20]) (by kernel_rfl) (by simp) ?_
  refine AllReadyH.cons (o := ⟨some 25, _, _, _, _, _⟩) rfl (fun K hK => ?_) AllReadyH.nil
  have hbx : Below Ua1u3.heap.size Ua1u3 (Ua1u3.alloc (.cells #[.slice a4 R.length c4, .int .i64 (k : Int), .map (some sb2), .map (some kb2)] 66)) := (Below.refl _ _).alloc (Nat.le_refl _) _
  go_simp
  refine hK.out _ _ ((hbx.block _ (row_lt HT.out.row)).trans HT.out.row) (fun hHeld2 => ?_)
  clear hK K hHeld
  have hHeld := hHeld2
  clear hHeld2
  (try simp only [Act.put, List.setIfInBounds_toArray, List.set_cons_zero, List.set_cons_succ])
  have HFin : Hid (TrIs (fun j => w.heap.size ≤ j ∧ j < Ua1u3.heap.size + 1) (Ua1u3.alloc (.cells #[.slice a4 R.length c4, .int .i64 (k : Int), .map (some sb2), .map (some kb2)] 66)) Ua1u3.heap.size R k (.slice a4 R.length c4) sb2 kb2 ∧ Below w.heap.size w (Ua1u3.alloc (.cells #[.slice a4 R.length c4, .int .i64 (k : Int), .map (some sb2), .map (some kb2)] 66))) := ⟨clone_fin HT.out HB.out HO.out HS.out HK.out, HB.out.trans (hbx.mono HB.out.size)⟩
  obtain ⟨Ua1u4, eWn⟩ : ∃ X, X = Ua1u3.alloc (.cells #[.slice a4 R.length c4, .int .i64 (k : Int), .map (some sb2), .map (some kb2)] 66) := ⟨_, rfl⟩
  obtain ⟨nb, enb⟩ : ∃ b, b = Ua1u3.heap.size := ⟨_, rfl⟩
  rw [← eWn] at HFin hHeld ⊢
  rw [← enb] at HFin ⊢
  clear hbx eWn enb HT HB HO HS HK
  refine tkW 21 (some 2) (v := ?_) ?_ hHeld ?_
  rotate_left
  · (intro ww _; go_simp; try with_reducible rfl)
  refine wpAnyH_done (by kernel_rfl) ?_ _
  clear hHeld
  go_wp2
  go_ret
  exact ⟨_, _, rfl, ⟨R, k, _, sb2, kb2, HFin.out.1, HEm.out⟩, fun j hj => hj.1, HFin.out.2⟩

end Go.Proofs.Ytljepindfdhbbaa
