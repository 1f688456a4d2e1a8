/- What checkNew tells. -/
import Derived.Test.YthndgmnckpimmaaCaD
namespace Go.Proofs.Ythndgmnckpimmaa
open Go.RowKit
set_option linter.unusedVariables false
set_option linter.unusedSimpArgs false

/-- What checkNew tells. -/
def newE (D : List (Ch × Value)) (kn : List Int) (c : Ch) : Int := if checkL kn ≠ 0 then checkL kn else if checkCh c ≠ 0 then checkCh c else if (getP D c.ar c.seq).isSome = true ∨ withinB c kn = true then 5 else 0

theorem step_store_row {P : Program} {ops : Array Oper} {o : Oper} {a : Act} {w : World} {K : Act → World → Prop} {Q : Exit → Act → World → Prop} {E : Prop} (hgd : o.guard = none) (ty : TypeId) (x y : Operand) (ho : o.op = .store ty x y)
    (b : Nat) (t : TypeId) (c c' : Array Value) (hx : a.eval x = .pointer (some ⟨b, 0, none⟩)) (hy : a.eval y = .agg c') (hr : w.heap[b]? = some (.cells c t))
    (hi : (P.info? ty).map (·.size) = some c'.size) (hs : c.size = c'.size) (h1 : c'.all (·.oneCell') = true)
    (h : K (a.put o.dst undef) (w.setRow b c')) : if Region.wanted o (yielded ops a.tmps) = true then Oper.wp P o a w K Q else E := by
  have hw : Region.wanted o (yielded ops a.tmps) = true := by simp [Region.wanted, hgd]
  rw [if_pos hw]
  exact wp_store_row ty x y ho b t c c' hx hy hr hi hs h1 h
def HasB (W : World) (b : Nat) (cs : Array Value) : Prop := W.heap[b]? = some (.cells cs 35)
theorem HasB.below {W W' : World} {b : Nat} {cs : Array Value} (h : HasB W b cs) (hb : Below W.heap.size W W') : HasB W' b cs := (hb.block b (Array.getElem?_eq_some_iff.1 h).1).trans h
def LtB (n : Nat) (W : World) : Prop := n < W.heap.size
theorem LtB.below {n : Nat} {W W' : World} (h : LtB n W) (hb : Below W.heap.size W W') : LtB n W' := Nat.lt_of_lt_of_le h hb.size
theorem touch_setRow (W : World) (nb : Nat) (c : Array Value) : Touch (fun k => k = nb) W (W.setRow nb c) := ⟨rfl, rfl, rfl, by simp, fun k hk hne => setRow_other W nb k c hne⟩
theorem keptC_touch {w0 : World} {b : Nat} {cs : List Value} {W W' : World} {F : Nat → Prop} (h : KeptC w0 b cs W) (ht : Touch F W W') (hb : ¬ F b) (hF : ∀ k, F k → w0.heap.size ≤ k) : KeptC w0 b cs W' :=
  ⟨fun i v e => (World.cell?_of_block (ht.block b h.2.1 hb)).trans (h.1 i v e), Nat.lt_of_lt_of_le h.2.1 ht.size, h.2.2.trans (ht.below hF h.2.2.size)⟩

set_option maxRecDepth 100000 in
set_option maxHeartbeats 4000000 in
theorem checkNew_any (F : Nat → Prop) (bb : Nat) (room : Int) (mb : Nat) (D : List (Ch × Value)) (ac ar sq : Int) (dv : Value) (kd nc nr pc pr fc fr : Int) (nm vl : ByteArray) (ds : List Int) (kv : Value) (kn : List Int) (w : World) (h : BufIs F w bb room mb D) (hk : IsI w kv kn) (hd : IsI w dv ds) (hs : nm.size ≤ 281474976710656) :
    Calls Try.prog 35 #[.pointer (some ⟨bb, 0, none⟩), kv, .agg #[.int .i64 ac, .int .i64 ar, .int .i64 sq, dv, .int .i64 kd, .int .i64 nc, .int .i64 nr, .int .i64 pc, .int .i64 pr, .int .i64 fc, .int .i64 fr, .string nm, .string vl]] w fun e w' => e = .returned (.int .i64 (newE D kn ⟨ac, ar, sq, ds, kd, nc, nr, pc, pr, fc, fr, nm, vl⟩)) ∧ Below w.heap.size w w' := by
  have HE : Hid (newE D kn ⟨ac, ar, sq, ds, kd, nc, nr, pc, pr, fc, fr, nm, vl⟩ = if checkL kn ≠ 0 then checkL kn else if checkCh ⟨ac, ar, sq, ds, kd, nc, nr, pc, pr, fc, fr, nm, vl⟩ ≠ 0 then checkCh ⟨ac, ar, sq, ds, kd, nc, nr, pc, pr, fc, fr, nm, vl⟩ else if (getP D ar sq).isSome = true ∨ withinB ⟨ac, ar, sq, ds, kd, nc, nr, pc, pr, fc, fr, nm, vl⟩ kn = true then 5 else 0) := rfl
  obtain ⟨a0, c0, e0⟩ := hk.form
  subst e0
  obtain ⟨a1, c1, e1⟩ := hd.form
  subst e1
  have K0 := KeptC.start w [.int .i64 ac, .int .i64 ar, .int .i64 sq, .slice a1 ds.length c1, .int .i64 kd, .int .i64 nc, .int .i64 nr, .int .i64 pc, .int .i64 pr, .int .i64 fc, .int .i64 fr, .string nm, .string vl] 35
  obtain ⟨W0, eW⟩ : ∃ X, X = w.alloc (.cells #[.int .i64 ac, .int .i64 ar, .int .i64 sq, .slice a1 ds.length c1, .int .i64 kd, .int .i64 nc, .int .i64 nr, .int .i64 pc, .int .i64 pr, .int .i64 fc, .int .i64 fr, .string nm, .string vl] 35) := ⟨_, rfl⟩
  have HK : Hid (KeptC w w.heap.size [.int .i64 ac, .int .i64 ar, .int .i64 sq, .slice a1 ds.length c1, .int .i64 kd, .int .i64 nc, .int .i64 nr, .int .i64 pc, .int .i64 pr, .int .i64 fc, .int .i64 fr, .string nm, .string vl] W0) := by rw [eW]; exact K0
  have HL : Hid (BufIs F w bb room mb D) := h
  have HIk : Hid (IsI w (.slice a0 kn.length c0) kn) := hk
  have HId : Hid (IsI w (.slice a1 ds.length c1) ds) := hd
  clear h hk hd K0
  go_enter Try.func35, Try.ntmps35
  go_wp2_with fail
  rw [← eW]
  clear eW
  refine (check_any _ kn _ (HIk.out.below HK.out.2.2)).mono ?_
  rintro e w1 ⟨rfl, hw1⟩
  replace hw1 := hw1.symm
  subst hw1
  by_cases hc : checkL kn = 0
  · rw [hc]
    obtain ⟨k_0, k_1, k_2, k_3, k_4, k_5, k_6, k_7, k_8, k_9, k_10, k_11, k_12⟩ := HK.out.all
    go_wp2_with fail
    refine (checkCh_any ac ar sq (.slice a1 ds.length c1) kd nc nr pc pr fc fr nm vl ds hs _ (HId.out.below HK.out.2.2)).mono ?_
    rintro e w2 ⟨rfl, hb2⟩
    replace HK : Hid (KeptC w w.heap.size [.int .i64 ac, .int .i64 ar, .int .i64 sq, .slice a1 ds.length c1, .int .i64 kd, .int .i64 nc, .int .i64 nr, .int .i64 pc, .int .i64 pr, .int .i64 fc, .int .i64 fr, .string nm, .string vl] w2) := HK.out.step hb2
    clear k_0 k_1 k_2 k_3 k_4 k_5 k_6 k_7 k_8 k_9 k_10 k_11 k_12 hb2
    obtain ⟨ck, eck⟩ : ∃ x, x = checkCh ⟨ac, ar, sq, ds, kd, nc, nr, pc, pr, fc, fr, nm, vl⟩ := ⟨_, rfl⟩
    rw [← eck] at HE ⊢
    clear eck
    by_cases hc2 : ck = 0
    · subst hc2
      obtain ⟨k_0, k_1, k_2, k_3, k_4, k_5, k_6, k_7, k_8, k_9, k_10, k_11, k_12⟩ := HK.out.all
      have lc1 := (HL.out.below HK.out.2.2).cell1
      go_wp2_with fail
      -- REGION
      have HFl : Hid (∀ k, F k → k < w.heap.size) := HL.out.lt
      have HL2 : Hid (BufIs F w2 bb room mb D) := HL.out.below HK.out.2.2
      have HSz : Hid (LtB w.heap.size w2) := HK.out.2.1
      clear k_0 k_1 k_2 k_3 k_4 k_5 k_6 k_7 k_8 k_9 k_10 k_11 k_12 lc1
      cases hgd : getP D ar sq with
      | some x =>
        obtain ⟨a2, c2, e2⟩ := (HL2.out.hdep x (getP_some hgd).1).form
        obtain ⟨⟨ac2, ar2, sq2, ds2, kd2, nc2, nr2, pc2, pr2, fc2, fr2, nm2, vl2⟩, dv2⟩ := x
        simp only at e2
        subst e2
        have HGD : Hid (getP D ar sq = some ((⟨ac2, ar2, sq2, ds2, kd2, nc2, nr2, pc2, pr2, fc2, fr2, nm2, vl2⟩ : Ch), .slice a2 ds2.length c2)) := hgd
        clear hgd
        refine wp_region_held_drew (S := fun W' => KeptC w w.heap.size [.int .i64 ac, .int .i64 ar, .int .i64 sq, .slice a1 ds.length c1, .int .i64 kd, .int .i64 nc, .int .i64 nr, .int .i64 pc, .int .i64 pr, .int .i64 fc, .int .i64 fr, .string nm, .string vl] W' ∧ BufIs F W' bb room mb D) (by kernel_rfl) ⟨HK.out.drew, HL2.out.below (Below.refl _ _).drew⟩ (fun hHeld => ?_)
        obtain ⟨Un3u0, eW⟩ : ∃ X, X = w2.drew := ⟨_, rfl⟩
        have hb : Below w2.heap.size w2 Un3u0 := by rw [eW]; exact (Below.refl _ _).drew
        replace HSz : Hid (LtB w.heap.size Un3u0) := HSz.out.below hb
        rw [← eW] at hHeld ⊢
        clear eW hb
        refine wpAnyH_take (i := 0) (oi := ⟨some 22, _, _, _, _, _⟩) (v := ?vn3ux0) rfl (by kernel_rfl) (by kernel_rfl) (by kernel_rfl) (fun _ _ _ h => h) (Or.inl ⟨by rfl, ?hyn3ux0⟩) hHeld ?restn3ux0
        case hyn3ux0 => (intro w _; go_simp; try with_reducible rfl)
        simp only [Act.put, List.setIfInBounds_toArray, List.set_cons_zero, List.set_cons_succ]
        refine wpAnyH_take (i := 1) (oi := ⟨some 23, _, _, _, _, _⟩) (v := ?vn3ux1) rfl (by kernel_rfl) (by kernel_rfl) (by kernel_rfl) (fun _ _ _ h => h) (Or.inl ⟨by rfl, ?hyn3ux1⟩) hHeld ?restn3ux1
        case hyn3ux1 => (intro w hSw; (try dsimp only at hSw); obtain ⟨hk, hlg⟩ := hSw; obtain ⟨k_0, k_1, k_2, k_3, k_4, k_5, k_6, k_7, k_8, k_9, k_10, k_11, k_12⟩ := hk.all; have lc1 := hlg.cell1; have hlk : (Instr.lookup 74 (.map (some mb)) (plV ar sq) true).run Try.prog w = .ok (.tuple #[.agg #[.int .i64 ac2, .int .i64 ar2, .int .i64 sq2, .slice a2 ds2.length c2, .int .i64 kd2, .int .i64 nc2, .int .i64 nr2, .int .i64 pc2, .int .i64 pr2, .int .i64 fc2, .int .i64 fr2, .string nm2, .string vl2], .bool true]) w := (by have h0 := look_pl hlg.hmap ar sq; rw [HGD.out] at h0; exact h0); go_simp; try with_reducible rfl)
        simp only [Act.put, List.setIfInBounds_toArray, List.set_cons_zero, List.set_cons_succ]
        refine wpAnyH_take (i := 2) (oi := ⟨some 24, _, _, _, _, _⟩) (v := ?vn3ux2) rfl (by kernel_rfl) (by kernel_rfl) (by kernel_rfl) (fun _ _ _ h => h) (Or.inl ⟨by rfl, ?hyn3ux2⟩) hHeld ?restn3ux2
        case hyn3ux2 => (intro w _; go_simp; try with_reducible rfl)
        simp only [Act.put, List.setIfInBounds_toArray, List.set_cons_zero, List.set_cons_succ]
        refine wpAnyH_take (i := 3) (oi := ⟨some 25, _, _, _, _, _⟩) (v := ?vn3ux3) rfl (by kernel_rfl) (by kernel_rfl) (by kernel_rfl) (fun _ _ _ h => h) (Or.inl ⟨by rfl, ?hyn3ux3⟩) hHeld ?restn3ux3
        case hyn3ux3 => (intro w hSw; (try dsimp only at hSw); obtain ⟨hk, hlg⟩ := hSw; obtain ⟨k_0, k_1, k_2, k_3, k_4, k_5, k_6, k_7, k_8, k_9, k_10, k_11, k_12⟩ := hk.all; have lc1 := hlg.cell1; have hlk : (Instr.lookup 74 (.map (some mb)) (plV ar sq) true).run Try.prog w = .ok (.tuple #[.agg #[.int .i64 ac2, .int .i64 ar2, .int .i64 sq2, .slice a2 ds2.length c2, .int .i64 kd2, .int .i64 nc2, .int .i64 nr2, .int .i64 pc2, .int .i64 pr2, .int .i64 fc2, .int .i64 fr2, .string nm2, .string vl2], .bool true]) w := (by have h0 := look_pl hlg.hmap ar sq; rw [HGD.out] at h0; exact h0); go_simp; try with_reducible rfl)
        simp only [Act.put, List.setIfInBounds_toArray, List.set_cons_zero, List.set_cons_succ]
        refine wpAnyH_take (i := 4) (oi := ⟨some 26, _, _, _, _, _⟩) (v := ?vn3ux4) rfl (by kernel_rfl) (by kernel_rfl) (by kernel_rfl) (fun _ _ _ h => h) (Or.inl ⟨by rfl, ?hyn3ux4⟩) hHeld ?restn3ux4
        case hyn3ux4 => (intro w hSw; (try dsimp only at hSw); obtain ⟨hk, hlg⟩ := hSw; obtain ⟨k_0, k_1, k_2, k_3, k_4, k_5, k_6, k_7, k_8, k_9, k_10, k_11, k_12⟩ := hk.all; have lc1 := hlg.cell1; have hlk : (Instr.lookup 74 (.map (some mb)) (plV ar sq) true).run Try.prog w = .ok (.tuple #[.agg #[.int .i64 ac2, .int .i64 ar2, .int .i64 sq2, .slice a2 ds2.length c2, .int .i64 kd2, .int .i64 nc2, .int .i64 nr2, .int .i64 pc2, .int .i64 pr2, .int .i64 fc2, .int .i64 fr2, .string nm2, .string vl2], .bool true]) w := (by have h0 := look_pl hlg.hmap ar sq; rw [HGD.out] at h0; exact h0); go_simp; try with_reducible rfl)
        simp only [Act.put, List.setIfInBounds_toArray, List.set_cons_zero, List.set_cons_succ]
        refine wpAnyH_ready (rs := [5, 10]) (by kernel_rfl) (by simp) ?_
        refine AllReadyH.cons (o := ⟨some 27, _, _, _, _, _⟩) rfl (fun K hK => ?_) (AllReadyH.cons (o := ⟨some 9, _, _, _, _, _⟩) rfl (fun K hK => ?_) AllReadyH.nil)
        · go_simp
          refine (placeOf_any ac ar sq (.slice a1 ds.length c1) kd nc nr pc pr fc fr nm vl _).mono ?_
          rintro e Un3u1 ⟨rfl, hb⟩
          (try go_wp2_with fail)
          refine hK.out _ _ (⟨hHeld.1.step hb, hHeld.2.below hb⟩) (fun hHeld2 => ?_)
          clear hK K hHeld
          have hHeld := hHeld2
          clear hHeld2
          (try simp only [Act.put, List.setIfInBounds_toArray, List.set_cons_zero, List.set_cons_succ])
          replace HSz : Hid (LtB w.heap.size Un3u1) := HSz.out.below hb
          clear hb
          refine wpAnyH_take (i := 6) (oi := ⟨some 28, _, _, _, _, _⟩) (v := ?vn3u_5x6) rfl (by kernel_rfl) (by kernel_rfl) (by kernel_rfl) (fun _ _ _ h => h) (Or.inl ⟨by rfl, ?hyn3u_5x6⟩) hHeld ?restn3u_5x6
          case hyn3u_5x6 => (intro w hSw; (try dsimp only at hSw); obtain ⟨hk, hlg⟩ := hSw; obtain ⟨k_0, k_1, k_2, k_3, k_4, k_5, k_6, k_7, k_8, k_9, k_10, k_11, k_12⟩ := hk.all; have lc1 := hlg.cell1; have hlk : (Instr.lookup 74 (.map (some mb)) (plV ar sq) true).run Try.prog w = .ok (.tuple #[.agg #[.int .i64 ac2, .int .i64 ar2, .int .i64 sq2, .slice a2 ds2.length c2, .int .i64 kd2, .int .i64 nc2, .int .i64 nr2, .int .i64 pc2, .int .i64 pr2, .int .i64 fc2, .int .i64 fr2, .string nm2, .string vl2], .bool true]) w := (by have h0 := look_pl hlg.hmap ar sq; rw [HGD.out] at h0; exact h0); go_simp; try with_reducible rfl)
          simp only [Act.put, List.setIfInBounds_toArray, List.set_cons_zero, List.set_cons_succ]
          refine wpAnyH_take (i := 7) (oi := ⟨some 21, _, _, _, _, _⟩) (v := ?vn3u_5x7) rfl (by kernel_rfl) (by kernel_rfl) (by kernel_rfl) (fun _ _ _ h => h) (Or.inl ⟨by rfl, ?hyn3u_5x7⟩) hHeld ?restn3u_5x7
          case hyn3u_5x7 => (intro w _; go_simp; try with_reducible rfl)
          simp only [Act.put, List.setIfInBounds_toArray, List.set_cons_zero, List.set_cons_succ]
          refine wpAnyH_take (i := 8) (oi := ⟨some 29, _, _, _, _, _⟩) (v := ?vn3u_5x8) rfl (by kernel_rfl) (by kernel_rfl) (by kernel_rfl) (fun _ _ _ h => h) (Or.inl ⟨by rfl, ?hyn3u_5x8⟩) hHeld ?restn3u_5x8
          case hyn3u_5x8 => (intro w _; go_simp; try with_reducible rfl)
          simp only [Act.put, List.setIfInBounds_toArray, List.set_cons_zero, List.set_cons_succ]
          refine wpAnyH_take (i := 9) (oi := ⟨some 30, _, _, _, _, _⟩) (v := ?vn3u_5x9) rfl (by kernel_rfl) (by kernel_rfl) (by kernel_rfl) (fun _ _ _ h => h) (Or.inl ⟨by rfl, ?hyn3u_5x9⟩) hHeld ?restn3u_5x9
          case hyn3u_5x9 => (intro w _; go_simp; try with_reducible rfl)
          simp only [Act.put, List.setIfInBounds_toArray, List.set_cons_zero, List.set_cons_succ]
          refine wpAnyH_ready (rs := [10]) (by kernel_rfl) (by simp) ?_
          refine AllReadyH.cons (o := ⟨some 9, _, _, _, _, _⟩) rfl (fun K hK => ?_) AllReadyH.nil
          have HZn : Hid (w.heap.size < Un3u1.heap.size) := HSz.out
          go_simp
          refine hK.out _ _ (⟨hHeld.1.step ((Below.refl _ _).alloc (Nat.le_refl _) _), hHeld.2.below ((Below.refl _ _).alloc (Nat.le_refl _) _)⟩) (fun hHeld2 => ?_)
          clear hK K hHeld
          have hHeld := hHeld2
          clear hHeld2
          (try simp only [Act.put, List.setIfInBounds_toArray, List.set_cons_zero, List.set_cons_succ])
          obtain ⟨Un3u2, eW⟩ : ∃ X, X = Un3u1.alloc (.cells #[.int .i64 0, .int .i64 0, .int .i64 0, .slice none 0 0, .int .i64 0, .int .i64 0, .int .i64 0, .int .i64 0, .int .i64 0, .int .i64 0, .int .i64 0, .string ⟨#[]⟩, .string ⟨#[]⟩] 35) := ⟨_, rfl⟩
          have hb : Below Un3u1.heap.size Un3u1 Un3u2 := by rw [eW]; exact (Below.refl _ _).alloc (Nat.le_refl _) _
          replace HSz : Hid (LtB w.heap.size Un3u2) := HSz.out.below hb
          have HZ : Hid (HasB Un3u2 Un3u1.heap.size #[.int .i64 0, .int .i64 0, .int .i64 0, .slice none 0 0, .int .i64 0, .int .i64 0, .int .i64 0, .int .i64 0, .int .i64 0, .int .i64 0, .int .i64 0, .string ⟨#[]⟩, .string ⟨#[]⟩]) := by rw [eW]; exact heap_alloc_new _ _
          rw [← eW] at hHeld ⊢
          clear eW
          obtain ⟨nb, enb⟩ : ∃ b, b = Un3u1.heap.size := ⟨_, rfl⟩
          rw [← enb] at HZ HZn ⊢
          clear enb
          clear hb
          refine wpAnyH_ready (rs := [11]) (by kernel_rfl) (by simp) ?_
          refine AllReadyH.cons (o := ⟨none, _, _, _, _, _⟩) rfl (fun K hK => ?_) AllReadyH.nil
          refine step_store_row rfl 35 (.tmp 9) (.tmp 29) rfl nb 35 #[.int .i64 0, .int .i64 0, .int .i64 0, .slice none 0 0, .int .i64 0, .int .i64 0, .int .i64 0, .int .i64 0, .int .i64 0, .int .i64 0, .int .i64 0, .string ⟨#[]⟩, .string ⟨#[]⟩] #[.int .i64 ac2, .int .i64 ar2, .int .i64 sq2, .slice a2 ds2.length c2, .int .i64 kd2, .int .i64 nc2, .int .i64 nr2, .int .i64 pc2, .int .i64 pr2, .int .i64 fc2, .int .i64 fr2, .string nm2, .string vl2] rfl rfl HZ.out sizeChange rfl (by simp [Value.oneCell']) ?_
          obtain ⟨Un3u3, eW⟩ : ∃ Y, Y = Un3u2.setRow nb #[.int .i64 ac2, .int .i64 ar2, .int .i64 sq2, .slice a2 ds2.length c2, .int .i64 kd2, .int .i64 nc2, .int .i64 nr2, .int .i64 pc2, .int .i64 pr2, .int .i64 fc2, .int .i64 fr2, .string nm2, .string vl2] := ⟨_, rfl⟩
          have ht : Touch (fun k => k = nb) Un3u2 Un3u3 := by rw [eW]; exact touch_setRow _ _ _
          rw [← eW]
          have hS2 : KeptC w w.heap.size [.int .i64 ac, .int .i64 ar, .int .i64 sq, .slice a1 ds.length c1, .int .i64 kd, .int .i64 nc, .int .i64 nr, .int .i64 pc, .int .i64 pr, .int .i64 fc, .int .i64 fr, .string nm, .string vl] Un3u3 ∧ BufIs F Un3u3 bb room mb D := ⟨keptC_touch hHeld.1 ht (fun e => by have := HZn.out; omega) (fun k e => by have := HZn.out; omega), hHeld.2.keep (ht.keeps fun k hk => ⟨hHeld.2.lt k hk, fun e => by have h1 := HFl.out k hk; have := HZn.out; omega⟩)⟩
          refine hK.out _ _ (hS2) (fun hHeld2 => ?_)
          clear hK K hHeld
          have hHeld := hHeld2
          clear hHeld2
          (try simp only [Act.put, List.setIfInBounds_toArray, List.set_cons_zero, List.set_cons_succ])
          clear eW ht hS2 HZ HZn
          refine wpAnyH_take (i := 12) (oi := ⟨some 10, _, _, _, _, _⟩) (v := ?vn3u_5_10_11x12) rfl (by kernel_rfl) (by kernel_rfl) (by kernel_rfl) (fun _ _ _ h => h) (Or.inl ⟨by rfl, ?hyn3u_5_10_11x12⟩) hHeld ?restn3u_5_10_11x12
          case hyn3u_5_10_11x12 => (intro w _; go_simp; try with_reducible rfl)
          simp only [Act.put, List.setIfInBounds_toArray, List.set_cons_zero, List.set_cons_succ]
          refine wpAnyH_done (by kernel_rfl) ?_ _
          have HK2 : Hid (KeptC w w.heap.size [.int .i64 ac, .int .i64 ar, .int .i64 sq, .slice a1 ds.length c1, .int .i64 kd, .int .i64 nc, .int .i64 nr, .int .i64 pc, .int .i64 pr, .int .i64 fc, .int .i64 fr, .string nm, .string vl] Un3u3) := hHeld.1
          have HL2 : Hid (BufIs F Un3u3 bb room mb D) := hHeld.2
          clear hHeld
          obtain ⟨k_0, k_1, k_2, k_3, k_4, k_5, k_6, k_7, k_8, k_9, k_10, k_11, k_12⟩ := HK2.out.all
          go_wp2
          go_ret
          exact ⟨ret_int (by rw [HE.out]; simp [hc, HGD.out]), HK2.out.2.2⟩
        · have HZn : Hid (w.heap.size < Un3u0.heap.size) := HSz.out
          go_simp
          refine hK.out _ _ (⟨hHeld.1.step ((Below.refl _ _).alloc (Nat.le_refl _) _), hHeld.2.below ((Below.refl _ _).alloc (Nat.le_refl _) _)⟩) (fun hHeld2 => ?_)
          clear hK K hHeld
          have hHeld := hHeld2
          clear hHeld2
          (try simp only [Act.put, List.setIfInBounds_toArray, List.set_cons_zero, List.set_cons_succ])
          obtain ⟨Un3u4, eW⟩ : ∃ X, X = Un3u0.alloc (.cells #[.int .i64 0, .int .i64 0, .int .i64 0, .slice none 0 0, .int .i64 0, .int .i64 0, .int .i64 0, .int .i64 0, .int .i64 0, .int .i64 0, .int .i64 0, .string ⟨#[]⟩, .string ⟨#[]⟩] 35) := ⟨_, rfl⟩
          have hb : Below Un3u0.heap.size Un3u0 Un3u4 := by rw [eW]; exact (Below.refl _ _).alloc (Nat.le_refl _) _
          replace HSz : Hid (LtB w.heap.size Un3u4) := HSz.out.below hb
          have HZ : Hid (HasB Un3u4 Un3u0.heap.size #[.int .i64 0, .int .i64 0, .int .i64 0, .slice none 0 0, .int .i64 0, .int .i64 0, .int .i64 0, .int .i64 0, .int .i64 0, .int .i64 0, .int .i64 0, .string ⟨#[]⟩, .string ⟨#[]⟩]) := by rw [eW]; exact heap_alloc_new _ _
          rw [← eW] at hHeld ⊢
          clear eW
          obtain ⟨nb, enb⟩ : ∃ b, b = Un3u0.heap.size := ⟨_, rfl⟩
          rw [← enb] at HZ HZn ⊢
          clear enb
          clear hb
          refine wpAnyH_ready (rs := [5]) (by kernel_rfl) (by simp) ?_
          refine AllReadyH.cons (o := ⟨some 27, _, _, _, _, _⟩) rfl (fun K hK => ?_) AllReadyH.nil
          go_simp
          refine (placeOf_any ac ar sq (.slice a1 ds.length c1) kd nc nr pc pr fc fr nm vl _).mono ?_
          rintro e Un3u5 ⟨rfl, hb⟩
          (try go_wp2_with fail)
          refine hK.out _ _ (⟨hHeld.1.step hb, hHeld.2.below hb⟩) (fun hHeld2 => ?_)
          clear hK K hHeld
          have hHeld := hHeld2
          clear hHeld2
          (try simp only [Act.put, List.setIfInBounds_toArray, List.set_cons_zero, List.set_cons_succ])
          replace HSz : Hid (LtB w.heap.size Un3u5) := HSz.out.below hb
          replace HZ : Hid (HasB Un3u5 nb #[.int .i64 0, .int .i64 0, .int .i64 0, .slice none 0 0, .int .i64 0, .int .i64 0, .int .i64 0, .int .i64 0, .int .i64 0, .int .i64 0, .int .i64 0, .string ⟨#[]⟩, .string ⟨#[]⟩]) := HZ.out.below hb
          clear hb
          refine wpAnyH_take (i := 6) (oi := ⟨some 28, _, _, _, _, _⟩) (v := ?vn3u_10_5x6) rfl (by kernel_rfl) (by kernel_rfl) (by kernel_rfl) (fun _ _ _ h => h) (Or.inl ⟨by rfl, ?hyn3u_10_5x6⟩) hHeld ?restn3u_10_5x6
          case hyn3u_10_5x6 => (intro w hSw; (try dsimp only at hSw); obtain ⟨hk, hlg⟩ := hSw; obtain ⟨k_0, k_1, k_2, k_3, k_4, k_5, k_6, k_7, k_8, k_9, k_10, k_11, k_12⟩ := hk.all; have lc1 := hlg.cell1; have hlk : (Instr.lookup 74 (.map (some mb)) (plV ar sq) true).run Try.prog w = .ok (.tuple #[.agg #[.int .i64 ac2, .int .i64 ar2, .int .i64 sq2, .slice a2 ds2.length c2, .int .i64 kd2, .int .i64 nc2, .int .i64 nr2, .int .i64 pc2, .int .i64 pr2, .int .i64 fc2, .int .i64 fr2, .string nm2, .string vl2], .bool true]) w := (by have h0 := look_pl hlg.hmap ar sq; rw [HGD.out] at h0; exact h0); go_simp; try with_reducible rfl)
          simp only [Act.put, List.setIfInBounds_toArray, List.set_cons_zero, List.set_cons_succ]
          refine wpAnyH_take (i := 7) (oi := ⟨some 21, _, _, _, _, _⟩) (v := ?vn3u_10_5x7) rfl (by kernel_rfl) (by kernel_rfl) (by kernel_rfl) (fun _ _ _ h => h) (Or.inl ⟨by rfl, ?hyn3u_10_5x7⟩) hHeld ?restn3u_10_5x7
          case hyn3u_10_5x7 => (intro w _; go_simp; try with_reducible rfl)
          simp only [Act.put, List.setIfInBounds_toArray, List.set_cons_zero, List.set_cons_succ]
          refine wpAnyH_take (i := 8) (oi := ⟨some 29, _, _, _, _, _⟩) (v := ?vn3u_10_5x8) rfl (by kernel_rfl) (by kernel_rfl) (by kernel_rfl) (fun _ _ _ h => h) (Or.inl ⟨by rfl, ?hyn3u_10_5x8⟩) hHeld ?restn3u_10_5x8
          case hyn3u_10_5x8 => (intro w _; go_simp; try with_reducible rfl)
          simp only [Act.put, List.setIfInBounds_toArray, List.set_cons_zero, List.set_cons_succ]
          refine wpAnyH_take (i := 9) (oi := ⟨some 30, _, _, _, _, _⟩) (v := ?vn3u_10_5x9) rfl (by kernel_rfl) (by kernel_rfl) (by kernel_rfl) (fun _ _ _ h => h) (Or.inl ⟨by rfl, ?hyn3u_10_5x9⟩) hHeld ?restn3u_10_5x9
          case hyn3u_10_5x9 => (intro w _; go_simp; try with_reducible rfl)
          simp only [Act.put, List.setIfInBounds_toArray, List.set_cons_zero, List.set_cons_succ]
          refine wpAnyH_ready (rs := [11]) (by kernel_rfl) (by simp) ?_
          refine AllReadyH.cons (o := ⟨none, _, _, _, _, _⟩) rfl (fun K hK => ?_) AllReadyH.nil
          refine step_store_row rfl 35 (.tmp 9) (.tmp 29) rfl nb 35 #[.int .i64 0, .int .i64 0, .int .i64 0, .slice none 0 0, .int .i64 0, .int .i64 0, .int .i64 0, .int .i64 0, .int .i64 0, .int .i64 0, .int .i64 0, .string ⟨#[]⟩, .string ⟨#[]⟩] #[.int .i64 ac2, .int .i64 ar2, .int .i64 sq2, .slice a2 ds2.length c2, .int .i64 kd2, .int .i64 nc2, .int .i64 nr2, .int .i64 pc2, .int .i64 pr2, .int .i64 fc2, .int .i64 fr2, .string nm2, .string vl2] rfl rfl HZ.out sizeChange rfl (by simp [Value.oneCell']) ?_
          obtain ⟨Un3u6, eW⟩ : ∃ Y, Y = Un3u5.setRow nb #[.int .i64 ac2, .int .i64 ar2, .int .i64 sq2, .slice a2 ds2.length c2, .int .i64 kd2, .int .i64 nc2, .int .i64 nr2, .int .i64 pc2, .int .i64 pr2, .int .i64 fc2, .int .i64 fr2, .string nm2, .string vl2] := ⟨_, rfl⟩
          have ht : Touch (fun k => k = nb) Un3u5 Un3u6 := by rw [eW]; exact touch_setRow _ _ _
          rw [← eW]
          have hS2 : KeptC w w.heap.size [.int .i64 ac, .int .i64 ar, .int .i64 sq, .slice a1 ds.length c1, .int .i64 kd, .int .i64 nc, .int .i64 nr, .int .i64 pc, .int .i64 pr, .int .i64 fc, .int .i64 fr, .string nm, .string vl] Un3u6 ∧ BufIs F Un3u6 bb room mb D := ⟨keptC_touch hHeld.1 ht (fun e => by have := HZn.out; omega) (fun k e => by have := HZn.out; omega), hHeld.2.keep (ht.keeps fun k hk => ⟨hHeld.2.lt k hk, fun e => by have h1 := HFl.out k hk; have := HZn.out; omega⟩)⟩
          refine hK.out _ _ (hS2) (fun hHeld2 => ?_)
          clear hK K hHeld
          have hHeld := hHeld2
          clear hHeld2
          (try simp only [Act.put, List.setIfInBounds_toArray, List.set_cons_zero, List.set_cons_succ])
          clear eW ht hS2 HZ HZn
          refine wpAnyH_take (i := 12) (oi := ⟨some 10, _, _, _, _, _⟩) (v := ?vn3u_10_5_11x12) rfl (by kernel_rfl) (by kernel_rfl) (by kernel_rfl) (fun _ _ _ h => h) (Or.inl ⟨by rfl, ?hyn3u_10_5_11x12⟩) hHeld ?restn3u_10_5_11x12
          case hyn3u_10_5_11x12 => (intro w _; go_simp; try with_reducible rfl)
          simp only [Act.put, List.setIfInBounds_toArray, List.set_cons_zero, List.set_cons_succ]
          refine wpAnyH_done (by kernel_rfl) ?_ _
          have HK2 : Hid (KeptC w w.heap.size [.int .i64 ac, .int .i64 ar, .int .i64 sq, .slice a1 ds.length c1, .int .i64 kd, .int .i64 nc, .int .i64 nr, .int .i64 pc, .int .i64 pr, .int .i64 fc, .int .i64 fr, .string nm, .string vl] Un3u6) := hHeld.1
          have HL2 : Hid (BufIs F Un3u6 bb room mb D) := hHeld.2
          clear hHeld
          obtain ⟨k_0, k_1, k_2, k_3, k_4, k_5, k_6, k_7, k_8, k_9, k_10, k_11, k_12⟩ := HK2.out.all
          go_wp2
          go_ret
          exact ⟨ret_int (by rw [HE.out]; simp [hc, HGD.out]), HK2.out.2.2⟩
      | none =>
        have HGD : Hid (getP D ar sq = none) := hgd
        clear hgd
        refine wp_region_held_drew (S := fun W' => KeptC w w.heap.size [.int .i64 ac, .int .i64 ar, .int .i64 sq, .slice a1 ds.length c1, .int .i64 kd, .int .i64 nc, .int .i64 nr, .int .i64 pc, .int .i64 pr, .int .i64 fc, .int .i64 fr, .string nm, .string vl] W' ∧ BufIs F W' bb room mb D) (by kernel_rfl) ⟨HK.out.drew, HL2.out.below (Below.refl _ _).drew⟩ (fun hHeld => ?_)
        obtain ⟨Um4u0, eW⟩ : ∃ X, X = w2.drew := ⟨_, rfl⟩
        have hb : Below w2.heap.size w2 Um4u0 := by rw [eW]; exact (Below.refl _ _).drew
        replace HSz : Hid (LtB w.heap.size Um4u0) := HSz.out.below hb
        rw [← eW] at hHeld ⊢
        clear eW hb
        refine wpAnyH_take (i := 0) (oi := ⟨some 22, _, _, _, _, _⟩) (v := ?vm4ux0) rfl (by kernel_rfl) (by kernel_rfl) (by kernel_rfl) (fun _ _ _ h => h) (Or.inl ⟨by rfl, ?hym4ux0⟩) hHeld ?restm4ux0
        case hym4ux0 => (intro w _; go_simp; try with_reducible rfl)
        simp only [Act.put, List.setIfInBounds_toArray, List.set_cons_zero, List.set_cons_succ]
        refine wpAnyH_take (i := 1) (oi := ⟨some 23, _, _, _, _, _⟩) (v := ?vm4ux1) rfl (by kernel_rfl) (by kernel_rfl) (by kernel_rfl) (fun _ _ _ h => h) (Or.inl ⟨by rfl, ?hym4ux1⟩) hHeld ?restm4ux1
        case hym4ux1 => (intro w hSw; (try dsimp only at hSw); obtain ⟨hk, hlg⟩ := hSw; obtain ⟨k_0, k_1, k_2, k_3, k_4, k_5, k_6, k_7, k_8, k_9, k_10, k_11, k_12⟩ := hk.all; have lc1 := hlg.cell1; have hlk : (Instr.lookup 74 (.map (some mb)) (plV ar sq) true).run Try.prog w = .ok (.tuple #[.agg #[.int .i64 0, .int .i64 0, .int .i64 0, .slice none 0 0, .int .i64 0, .int .i64 0, .int .i64 0, .int .i64 0, .int .i64 0, .int .i64 0, .int .i64 0, .string ⟨#[]⟩, .string ⟨#[]⟩], .bool false]) w := (by have h0 := look_pl hlg.hmap ar sq; rw [HGD.out] at h0; exact h0); go_simp; try with_reducible rfl)
        simp only [Act.put, List.setIfInBounds_toArray, List.set_cons_zero, List.set_cons_succ]
        refine wpAnyH_take (i := 2) (oi := ⟨some 24, _, _, _, _, _⟩) (v := ?vm4ux2) rfl (by kernel_rfl) (by kernel_rfl) (by kernel_rfl) (fun _ _ _ h => h) (Or.inl ⟨by rfl, ?hym4ux2⟩) hHeld ?restm4ux2
        case hym4ux2 => (intro w _; go_simp; try with_reducible rfl)
        simp only [Act.put, List.setIfInBounds_toArray, List.set_cons_zero, List.set_cons_succ]
        refine wpAnyH_take (i := 3) (oi := ⟨some 25, _, _, _, _, _⟩) (v := ?vm4ux3) rfl (by kernel_rfl) (by kernel_rfl) (by kernel_rfl) (fun _ _ _ h => h) (Or.inl ⟨by rfl, ?hym4ux3⟩) hHeld ?restm4ux3
        case hym4ux3 => (intro w hSw; (try dsimp only at hSw); obtain ⟨hk, hlg⟩ := hSw; obtain ⟨k_0, k_1, k_2, k_3, k_4, k_5, k_6, k_7, k_8, k_9, k_10, k_11, k_12⟩ := hk.all; have lc1 := hlg.cell1; have hlk : (Instr.lookup 74 (.map (some mb)) (plV ar sq) true).run Try.prog w = .ok (.tuple #[.agg #[.int .i64 0, .int .i64 0, .int .i64 0, .slice none 0 0, .int .i64 0, .int .i64 0, .int .i64 0, .int .i64 0, .int .i64 0, .int .i64 0, .int .i64 0, .string ⟨#[]⟩, .string ⟨#[]⟩], .bool false]) w := (by have h0 := look_pl hlg.hmap ar sq; rw [HGD.out] at h0; exact h0); go_simp; try with_reducible rfl)
        simp only [Act.put, List.setIfInBounds_toArray, List.set_cons_zero, List.set_cons_succ]
        refine wpAnyH_take (i := 4) (oi := ⟨some 26, _, _, _, _, _⟩) (v := ?vm4ux4) rfl (by kernel_rfl) (by kernel_rfl) (by kernel_rfl) (fun _ _ _ h => h) (Or.inl ⟨by rfl, ?hym4ux4⟩) hHeld ?restm4ux4
        case hym4ux4 => (intro w hSw; (try dsimp only at hSw); obtain ⟨hk, hlg⟩ := hSw; obtain ⟨k_0, k_1, k_2, k_3, k_4, k_5, k_6, k_7, k_8, k_9, k_10, k_11, k_12⟩ := hk.all; have lc1 := hlg.cell1; have hlk : (Instr.lookup 74 (.map (some mb)) (plV ar sq) true).run Try.prog w = .ok (.tuple #[.agg #[.int .i64 0, .int .i64 0, .int .i64 0, .slice none 0 0, .int .i64 0, .int .i64 0, .int .i64 0, .int .i64 0, .int .i64 0, .int .i64 0, .int .i64 0, .string ⟨#[]⟩, .string ⟨#[]⟩], .bool false]) w := (by have h0 := look_pl hlg.hmap ar sq; rw [HGD.out] at h0; exact h0); go_simp; try with_reducible rfl)
        simp only [Act.put, List.setIfInBounds_toArray, List.set_cons_zero, List.set_cons_succ]
        refine wpAnyH_ready (rs := [5, 10]) (by kernel_rfl) (by simp) ?_
        refine AllReadyH.cons (o := ⟨some 27, _, _, _, _, _⟩) rfl (fun K hK => ?_) (AllReadyH.cons (o := ⟨some 9, _, _, _, _, _⟩) rfl (fun K hK => ?_) AllReadyH.nil)
        · go_simp
          refine (placeOf_any ac ar sq (.slice a1 ds.length c1) kd nc nr pc pr fc fr nm vl _).mono ?_
          rintro e Um4u1 ⟨rfl, hb⟩
          (try go_wp2_with fail)
          refine hK.out _ _ (⟨hHeld.1.step hb, hHeld.2.below hb⟩) (fun hHeld2 => ?_)
          clear hK K hHeld
          have hHeld := hHeld2
          clear hHeld2
          (try simp only [Act.put, List.setIfInBounds_toArray, List.set_cons_zero, List.set_cons_succ])
          replace HSz : Hid (LtB w.heap.size Um4u1) := HSz.out.below hb
          clear hb
          refine wpAnyH_take (i := 6) (oi := ⟨some 28, _, _, _, _, _⟩) (v := ?vm4u_5x6) rfl (by kernel_rfl) (by kernel_rfl) (by kernel_rfl) (fun _ _ _ h => h) (Or.inl ⟨by rfl, ?hym4u_5x6⟩) hHeld ?restm4u_5x6
          case hym4u_5x6 => (intro w hSw; (try dsimp only at hSw); obtain ⟨hk, hlg⟩ := hSw; obtain ⟨k_0, k_1, k_2, k_3, k_4, k_5, k_6, k_7, k_8, k_9, k_10, k_11, k_12⟩ := hk.all; have lc1 := hlg.cell1; have hlk : (Instr.lookup 74 (.map (some mb)) (plV ar sq) true).run Try.prog w = .ok (.tuple #[.agg #[.int .i64 0, .int .i64 0, .int .i64 0, .slice none 0 0, .int .i64 0, .int .i64 0, .int .i64 0, .int .i64 0, .int .i64 0, .int .i64 0, .int .i64 0, .string ⟨#[]⟩, .string ⟨#[]⟩], .bool false]) w := (by have h0 := look_pl hlg.hmap ar sq; rw [HGD.out] at h0; exact h0); go_simp; try with_reducible rfl)
          simp only [Act.put, List.setIfInBounds_toArray, List.set_cons_zero, List.set_cons_succ]
          refine wpAnyH_take (i := 7) (oi := ⟨some 21, _, _, _, _, _⟩) (v := ?vm4u_5x7) rfl (by kernel_rfl) (by kernel_rfl) (by kernel_rfl) (fun _ _ _ h => h) (Or.inl ⟨by rfl, ?hym4u_5x7⟩) hHeld ?restm4u_5x7
          case hym4u_5x7 => (intro w _; go_simp; try with_reducible rfl)
          simp only [Act.put, List.setIfInBounds_toArray, List.set_cons_zero, List.set_cons_succ]
          refine wpAnyH_take (i := 8) (oi := ⟨some 29, _, _, _, _, _⟩) (v := ?vm4u_5x8) rfl (by kernel_rfl) (by kernel_rfl) (by kernel_rfl) (fun _ _ _ h => h) (Or.inl ⟨by rfl, ?hym4u_5x8⟩) hHeld ?restm4u_5x8
          case hym4u_5x8 => (intro w _; go_simp; try with_reducible rfl)
          simp only [Act.put, List.setIfInBounds_toArray, List.set_cons_zero, List.set_cons_succ]
          refine wpAnyH_take (i := 9) (oi := ⟨some 30, _, _, _, _, _⟩) (v := ?vm4u_5x9) rfl (by kernel_rfl) (by kernel_rfl) (by kernel_rfl) (fun _ _ _ h => h) (Or.inl ⟨by rfl, ?hym4u_5x9⟩) hHeld ?restm4u_5x9
          case hym4u_5x9 => (intro w _; go_simp; try with_reducible rfl)
          simp only [Act.put, List.setIfInBounds_toArray, List.set_cons_zero, List.set_cons_succ]
          refine wpAnyH_ready (rs := [10]) (by kernel_rfl) (by simp) ?_
          refine AllReadyH.cons (o := ⟨some 9, _, _, _, _, _⟩) rfl (fun K hK => ?_) AllReadyH.nil
          have HZn : Hid (w.heap.size < Um4u1.heap.size) := HSz.out
          go_simp
          refine hK.out _ _ (⟨hHeld.1.step ((Below.refl _ _).alloc (Nat.le_refl _) _), hHeld.2.below ((Below.refl _ _).alloc (Nat.le_refl _) _)⟩) (fun hHeld2 => ?_)
          clear hK K hHeld
          have hHeld := hHeld2
          clear hHeld2
          (try simp only [Act.put, List.setIfInBounds_toArray, List.set_cons_zero, List.set_cons_succ])
          obtain ⟨Um4u2, eW⟩ : ∃ X, X = Um4u1.alloc (.cells #[.int .i64 0, .int .i64 0, .int .i64 0, .slice none 0 0, .int .i64 0, .int .i64 0, .int .i64 0, .int .i64 0, .int .i64 0, .int .i64 0, .int .i64 0, .string ⟨#[]⟩, .string ⟨#[]⟩] 35) := ⟨_, rfl⟩
          have hb : Below Um4u1.heap.size Um4u1 Um4u2 := by rw [eW]; exact (Below.refl _ _).alloc (Nat.le_refl _) _
          replace HSz : Hid (LtB w.heap.size Um4u2) := HSz.out.below hb
          have HZ : Hid (HasB Um4u2 Um4u1.heap.size #[.int .i64 0, .int .i64 0, .int .i64 0, .slice none 0 0, .int .i64 0, .int .i64 0, .int .i64 0, .int .i64 0, .int .i64 0, .int .i64 0, .int .i64 0, .string ⟨#[]⟩, .string ⟨#[]⟩]) := by rw [eW]; exact heap_alloc_new _ _
          rw [← eW] at hHeld ⊢
          clear eW
          obtain ⟨nb, enb⟩ : ∃ b, b = Um4u1.heap.size := ⟨_, rfl⟩
          rw [← enb] at HZ HZn ⊢
          clear enb
          clear hb
          refine wpAnyH_ready (rs := [11]) (by kernel_rfl) (by simp) ?_
          refine AllReadyH.cons (o := ⟨none, _, _, _, _, _⟩) rfl (fun K hK => ?_) AllReadyH.nil
          refine step_store_row rfl 35 (.tmp 9) (.tmp 29) rfl nb 35 #[.int .i64 0, .int .i64 0, .int .i64 0, .slice none 0 0, .int .i64 0, .int .i64 0, .int .i64 0, .int .i64 0, .int .i64 0, .int .i64 0, .int .i64 0, .string ⟨#[]⟩, .string ⟨#[]⟩] #[.int .i64 0, .int .i64 0, .int .i64 0, .slice none 0 0, .int .i64 0, .int .i64 0, .int .i64 0, .int .i64 0, .int .i64 0, .int .i64 0, .int .i64 0, .string ⟨#[]⟩, .string ⟨#[]⟩] rfl rfl HZ.out sizeChange rfl (by simp [Value.oneCell']) ?_
          obtain ⟨Um4u3, eW⟩ : ∃ Y, Y = Um4u2.setRow nb #[.int .i64 0, .int .i64 0, .int .i64 0, .slice none 0 0, .int .i64 0, .int .i64 0, .int .i64 0, .int .i64 0, .int .i64 0, .int .i64 0, .int .i64 0, .string ⟨#[]⟩, .string ⟨#[]⟩] := ⟨_, rfl⟩
          have ht : Touch (fun k => k = nb) Um4u2 Um4u3 := by rw [eW]; exact touch_setRow _ _ _
          rw [← eW]
          have hS2 : KeptC w w.heap.size [.int .i64 ac, .int .i64 ar, .int .i64 sq, .slice a1 ds.length c1, .int .i64 kd, .int .i64 nc, .int .i64 nr, .int .i64 pc, .int .i64 pr, .int .i64 fc, .int .i64 fr, .string nm, .string vl] Um4u3 ∧ BufIs F Um4u3 bb room mb D := ⟨keptC_touch hHeld.1 ht (fun e => by have := HZn.out; omega) (fun k e => by have := HZn.out; omega), hHeld.2.keep (ht.keeps fun k hk => ⟨hHeld.2.lt k hk, fun e => by have h1 := HFl.out k hk; have := HZn.out; omega⟩)⟩
          refine hK.out _ _ (hS2) (fun hHeld2 => ?_)
          clear hK K hHeld
          have hHeld := hHeld2
          clear hHeld2
          (try simp only [Act.put, List.setIfInBounds_toArray, List.set_cons_zero, List.set_cons_succ])
          clear eW ht hS2 HZ HZn
          refine wpAnyH_take (i := 12) (oi := ⟨some 10, _, _, _, _, _⟩) (v := ?vm4u_5_10_11x12) rfl (by kernel_rfl) (by kernel_rfl) (by kernel_rfl) (fun _ _ _ h => h) (Or.inl ⟨by rfl, ?hym4u_5_10_11x12⟩) hHeld ?restm4u_5_10_11x12
          case hym4u_5_10_11x12 => (intro w _; go_simp; try with_reducible rfl)
          simp only [Act.put, List.setIfInBounds_toArray, List.set_cons_zero, List.set_cons_succ]
          refine wpAnyH_done (by kernel_rfl) ?_ _
          have HK2 : Hid (KeptC w w.heap.size [.int .i64 ac, .int .i64 ar, .int .i64 sq, .slice a1 ds.length c1, .int .i64 kd, .int .i64 nc, .int .i64 nr, .int .i64 pc, .int .i64 pr, .int .i64 fc, .int .i64 fr, .string nm, .string vl] Um4u3) := hHeld.1
          have HL2 : Hid (BufIs F Um4u3 bb room mb D) := hHeld.2
          clear hHeld
          obtain ⟨k_0, k_1, k_2, k_3, k_4, k_5, k_6, k_7, k_8, k_9, k_10, k_11, k_12⟩ := HK2.out.all
          go_wp2_with fail
          refine (isWithin_any ac ar sq (.slice a1 ds.length c1) kd nc nr pc pr fc fr nm vl ds _ kn _ (HIk.out.below HK2.out.2.2)).mono ?_
          rintro e w9 ⟨rfl, hb9⟩
          have HB9 : Hid (Below w.heap.size w w9) := HK2.out.2.2.trans (hb9.mono HK2.out.2.2.size)
          obtain ⟨wb, ewb⟩ : ∃ b, b = withinB (⟨ac, ar, sq, ds, kd, nc, nr, pc, pr, fc, fr, nm, vl⟩ : Ch) kn := ⟨_, rfl⟩
          rw [← ewb] at HE ⊢
          clear ewb hb9 HK2 HL2 k_0 k_1 k_2 k_3 k_4 k_5 k_6 k_7 k_8 k_9 k_10 k_11 k_12
          cases wb
          · go_wp2
            go_ret
            exact ⟨ret_int (by rw [HE.out]; simp [hc, HGD.out]), HB9.out⟩
          · go_wp2
            go_ret
            exact ⟨ret_int (by rw [HE.out]; simp [hc, HGD.out]), HB9.out⟩
        · have HZn : Hid (w.heap.size < Um4u0.heap.size) := HSz.out
          go_simp
          refine hK.out _ _ (⟨hHeld.1.step ((Below.refl _ _).alloc (Nat.le_refl _) _), hHeld.2.below ((Below.refl _ _).alloc (Nat.le_refl _) _)⟩) (fun hHeld2 => ?_)
          clear hK K hHeld
          have hHeld := hHeld2
          clear hHeld2
          (try simp only [Act.put, List.setIfInBounds_toArray, List.set_cons_zero, List.set_cons_succ])
          obtain ⟨Um4u4, eW⟩ : ∃ X, X = Um4u0.alloc (.cells #[.int .i64 0, .int .i64 0, .int .i64 0, .slice none 0 0, .int .i64 0, .int .i64 0, .int .i64 0, .int .i64 0, .int .i64 0, .int .i64 0, .int .i64 0, .string ⟨#[]⟩, .string ⟨#[]⟩] 35) := ⟨_, rfl⟩
          have hb : Below Um4u0.heap.size Um4u0 Um4u4 := by rw [eW]; exact (Below.refl _ _).alloc (Nat.le_refl _) _
          replace HSz : Hid (LtB w.heap.size Um4u4) := HSz.out.below hb
          have HZ : Hid (HasB Um4u4 Um4u0.heap.size #[.int .i64 0, .int .i64 0, .int .i64 0, .slice none 0 0, .int .i64 0, .int .i64 0, .int .i64 0, .int .i64 0, .int .i64 0, .int .i64 0, .int .i64 0, .string ⟨#[]⟩, .string ⟨#[]⟩]) := by rw [eW]; exact heap_alloc_new _ _
          rw [← eW] at hHeld ⊢
          clear eW
          obtain ⟨nb, enb⟩ : ∃ b, b = Um4u0.heap.size := ⟨_, rfl⟩
          rw [← enb] at HZ HZn ⊢
          clear enb
          clear hb
          refine wpAnyH_ready (rs := [5]) (by kernel_rfl) (by simp) ?_
          refine AllReadyH.cons (o := ⟨some 27, _, _, _, _, _⟩) rfl (fun K hK => ?_) AllReadyH.nil
          go_simp
          refine (placeOf_any ac ar sq (.slice a1 ds.length c1) kd nc nr pc pr fc fr nm vl _).mono ?_
          rintro e Um4u5 ⟨rfl, hb⟩
          (try go_wp2_with fail)
          refine hK.out _ _ (⟨hHeld.1.step hb, hHeld.2.below hb⟩) (fun hHeld2 => ?_)
          clear hK K hHeld
          have hHeld := hHeld2
          clear hHeld2
          (try simp only [Act.put, List.setIfInBounds_toArray, List.set_cons_zero, List.set_cons_succ])
          replace HSz : Hid (LtB w.heap.size Um4u5) := HSz.out.below hb
          replace HZ : Hid (HasB Um4u5 nb #[.int .i64 0, .int .i64 0, .int .i64 0, .slice none 0 0, .int .i64 0, .int .i64 0, .int .i64 0, .int .i64 0, .int .i64 0, .int .i64 0, .int .i64 0, .string ⟨#[]⟩, .string ⟨#[]⟩]) := HZ.out.below hb
          clear hb
          refine wpAnyH_take (i := 6) (oi := ⟨some 28, _, _, _, _, _⟩) (v := ?vm4u_10_5x6) rfl (by kernel_rfl) (by kernel_rfl) (by kernel_rfl) (fun _ _ _ h => h) (Or.inl ⟨by rfl, ?hym4u_10_5x6⟩) hHeld ?restm4u_10_5x6
          case hym4u_10_5x6 => (intro w hSw; (try dsimp only at hSw); obtain ⟨hk, hlg⟩ := hSw; obtain ⟨k_0, k_1, k_2, k_3, k_4, k_5, k_6, k_7, k_8, k_9, k_10, k_11, k_12⟩ := hk.all; have lc1 := hlg.cell1; have hlk : (Instr.lookup 74 (.map (some mb)) (plV ar sq) true).run Try.prog w = .ok (.tuple #[.agg #[.int .i64 0, .int .i64 0, .int .i64 0, .slice none 0 0, .int .i64 0, .int .i64 0, .int .i64 0, .int .i64 0, .int .i64 0, .int .i64 0, .int .i64 0, .string ⟨#[]⟩, .string ⟨#[]⟩], .bool false]) w := (by have h0 := look_pl hlg.hmap ar sq; rw [HGD.out] at h0; exact h0); go_simp; try with_reducible rfl)
          simp only [Act.put, List.setIfInBounds_toArray, List.set_cons_zero, List.set_cons_succ]
          refine wpAnyH_take (i := 7) (oi := ⟨some 21, _, _, _, _, _⟩) (v := ?vm4u_10_5x7) rfl (by kernel_rfl) (by kernel_rfl) (by kernel_rfl) (fun _ _ _ h => h) (Or.inl ⟨by rfl, ?hym4u_10_5x7⟩) hHeld ?restm4u_10_5x7
          case hym4u_10_5x7 => (intro w _; go_simp; try with_reducible rfl)
          simp only [Act.put, List.setIfInBounds_toArray, List.set_cons_zero, List.set_cons_succ]
          refine wpAnyH_take (i := 8) (oi := ⟨some 29, _, _, _, _, _⟩) (v := ?vm4u_10_5x8) rfl (by kernel_rfl) (by kernel_rfl) (by kernel_rfl) (fun _ _ _ h => h) (Or.inl ⟨by rfl, ?hym4u_10_5x8⟩) hHeld ?restm4u_10_5x8
          case hym4u_10_5x8 => (intro w _; go_simp; try with_reducible rfl)
          simp only [Act.put, List.setIfInBounds_toArray, List.set_cons_zero, List.set_cons_succ]
          refine wpAnyH_take (i := 9) (oi := ⟨some 30, _, _, _, _, _⟩) (v := ?vm4u_10_5x9) rfl (by kernel_rfl) (by kernel_rfl) (by kernel_rfl) (fun _ _ _ h => h) (Or.inl ⟨by rfl, ?hym4u_10_5x9⟩) hHeld ?restm4u_10_5x9
          case hym4u_10_5x9 => (intro w _; go_simp; try with_reducible rfl)
          simp only [Act.put, List.setIfInBounds_toArray, List.set_cons_zero, List.set_cons_succ]
          refine wpAnyH_ready (rs := [11]) (by kernel_rfl) (by simp) ?_
          refine AllReadyH.cons (o := ⟨none, _, _, _, _, _⟩) rfl (fun K hK => ?_) AllReadyH.nil
          refine step_store_row rfl 35 (.tmp 9) (.tmp 29) rfl nb 35 #[.int .i64 0, .int .i64 0, .int .i64 0, .slice none 0 0, .int .i64 0, .int .i64 0, .int .i64 0, .int .i64 0, .int .i64 0, .int .i64 0, .int .i64 0, .string ⟨#[]⟩, .string ⟨#[]⟩] #[.int .i64 0, .int .i64 0, .int .i64 0, .slice none 0 0, .int .i64 0, .int .i64 0, .int .i64 0, .int .i64 0, .int .i64 0, .int .i64 0, .int .i64 0, .string ⟨#[]⟩, .string ⟨#[]⟩] rfl rfl HZ.out sizeChange rfl (by simp [Value.oneCell']) ?_
          obtain ⟨Um4u6, eW⟩ : ∃ Y, Y = Um4u5.setRow nb #[.int .i64 0, .int .i64 0, .int .i64 0, .slice none 0 0, .int .i64 0, .int .i64 0, .int .i64 0, .int .i64 0, .int .i64 0, .int .i64 0, .int .i64 0, .string ⟨#[]⟩, .string ⟨#[]⟩] := ⟨_, rfl⟩
          have ht : Touch (fun k => k = nb) Um4u5 Um4u6 := by rw [eW]; exact touch_setRow _ _ _
          rw [← eW]
          have hS2 : KeptC w w.heap.size [.int .i64 ac, .int .i64 ar, .int .i64 sq, .slice a1 ds.length c1, .int .i64 kd, .int .i64 nc, .int .i64 nr, .int .i64 pc, .int .i64 pr, .int .i64 fc, .int .i64 fr, .string nm, .string vl] Um4u6 ∧ BufIs F Um4u6 bb room mb D := ⟨keptC_touch hHeld.1 ht (fun e => by have := HZn.out; omega) (fun k e => by have := HZn.out; omega), hHeld.2.keep (ht.keeps fun k hk => ⟨hHeld.2.lt k hk, fun e => by have h1 := HFl.out k hk; have := HZn.out; omega⟩)⟩
          refine hK.out _ _ (hS2) (fun hHeld2 => ?_)
          clear hK K hHeld
          have hHeld := hHeld2
          clear hHeld2
          (try simp only [Act.put, List.setIfInBounds_toArray, List.set_cons_zero, List.set_cons_succ])
          clear eW ht hS2 HZ HZn
          refine wpAnyH_take (i := 12) (oi := ⟨some 10, _, _, _, _, _⟩) (v := ?vm4u_10_5_11x12) rfl (by kernel_rfl) (by kernel_rfl) (by kernel_rfl) (fun _ _ _ h => h) (Or.inl ⟨by rfl, ?hym4u_10_5_11x12⟩) hHeld ?restm4u_10_5_11x12
          case hym4u_10_5_11x12 => (intro w _; go_simp; try with_reducible rfl)
          simp only [Act.put, List.setIfInBounds_toArray, List.set_cons_zero, List.set_cons_succ]
          refine wpAnyH_done (by kernel_rfl) ?_ _
          have HK2 : Hid (KeptC w w.heap.size [.int .i64 ac, .int .i64 ar, .int .i64 sq, .slice a1 ds.length c1, .int .i64 kd, .int .i64 nc, .int .i64 nr, .int .i64 pc, .int .i64 pr, .int .i64 fc, .int .i64 fr, .string nm, .string vl] Um4u6) := hHeld.1
          have HL2 : Hid (BufIs F Um4u6 bb room mb D) := hHeld.2
          clear hHeld
          obtain ⟨k_0, k_1, k_2, k_3, k_4, k_5, k_6, k_7, k_8, k_9, k_10, k_11, k_12⟩ := HK2.out.all
          go_wp2_with fail
          refine (isWithin_any ac ar sq (.slice a1 ds.length c1) kd nc nr pc pr fc fr nm vl ds _ kn _ (HIk.out.below HK2.out.2.2)).mono ?_
          rintro e w9 ⟨rfl, hb9⟩
          have HB9 : Hid (Below w.heap.size w w9) := HK2.out.2.2.trans (hb9.mono HK2.out.2.2.size)
          obtain ⟨wb, ewb⟩ : ∃ b, b = withinB (⟨ac, ar, sq, ds, kd, nc, nr, pc, pr, fc, fr, nm, vl⟩ : Ch) kn := ⟨_, rfl⟩
          rw [← ewb] at HE ⊢
          clear ewb hb9 HK2 HL2 k_0 k_1 k_2 k_3 k_4 k_5 k_6 k_7 k_8 k_9 k_10 k_11 k_12
          cases wb
          · go_wp2
            go_ret
            exact ⟨ret_int (by rw [HE.out]; simp [hc, HGD.out]), HB9.out⟩
          · go_wp2
            go_ret
            exact ⟨ret_int (by rw [HE.out]; simp [hc, HGD.out]), HB9.out⟩
      -- END
    · have hc3 : (ck == 0) = false := by simp [hc2]
      go_wp2
      go_ret
      exact ⟨ret_int (by rw [HE.out]; simp [hc, hc2]), HK.out.2.2⟩
  · have hc3 : (checkL kn == 0) = false := by simp [hc]
    go_wp2
    go_ret
    exact ⟨ret_int (by rw [HE.out]; simp [hc]), HK.out.2.2⟩

end Go.Proofs.Ythndgmnckpimmaa
