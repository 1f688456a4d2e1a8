/- The document's set. -/
import Derived.Test.YtljepindfdhbbaaRfC
namespace Go.Proofs.Ytljepindfdhbbaa
open Go.RowKit
set_option linter.unusedVariables false
set_option linter.unusedSimpArgs false

/-- A node set, round by round. -/
def setStep (p : Pl) (q : List Pl × Bool) (x : Pl) : List Pl × Bool := if x.nd = p.nd then q else if q.2 = false ∧ ltS p.nd x.nd = true then (q.1 ++ [p] ++ [x], true) else (q.1 ++ [x], q.2)
def setTo (p : Pl) (L : List Pl) : List Pl × Bool := L.foldl (setStep p) ([], false)
theorem setTo_next (p : Pl) (L : List Pl) (i : Nat) (h : i < L.length) : setTo p (L.take (i + 1)) = setStep p (setTo p (L.take i)) L[i] := by
  unfold setTo
  rw [List.take_succ_eq_append_getElem h, List.foldl_append]
  rfl
section
variable {p x : Pl} {L D : List Pl} {i : Nat} {dn : Bool}
theorem setTo_skip (h : setTo p (L.take i) = (D, dn)) (hi : i < L.length) (e : x = L[i]) (hx : x.nd = p.nd) : setTo p (L.take (i + 1)) = (D, dn) := by
  rw [setTo_next p L i hi, h, ← e]; unfold setStep; rw [if_pos hx]
theorem setTo_done (h : setTo p (L.take i) = (D, true)) (hi : i < L.length) (e : x = L[i]) (hx : x.nd ≠ p.nd) : setTo p (L.take (i + 1)) = (D ++ [x], true) := by
  rw [setTo_next p L i hi, h, ← e]; unfold setStep; rw [if_neg hx, if_neg (by simp)]
theorem setTo_in (h : setTo p (L.take i) = (D, false)) (hi : i < L.length) (e : x = L[i]) (hx : x.nd ≠ p.nd) (hl : ltS p.nd x.nd = true) : setTo p (L.take (i + 1)) = (D ++ [p] ++ [x], true) := by
  rw [setTo_next p L i hi, h, ← e]; unfold setStep; rw [if_neg hx, if_pos ⟨rfl, hl⟩]
theorem setTo_on (h : setTo p (L.take i) = (D, false)) (hi : i < L.length) (e : x = L[i]) (hx : x.nd ≠ p.nd) (hl : ltS p.nd x.nd = false) : setTo p (L.take (i + 1)) = (D ++ [x], false) := by
  rw [setTo_next p L i hi, h, ← e]; unfold setStep; rw [if_neg hx, if_neg (by rw [hl]; simp)]
end
theorem setTo_len (p : Pl) (L : List Pl) : (setTo p L).1.length ≤ L.length + 1 := by
  suffices h : ∀ (L : List Pl) (q : List Pl × Bool), (L.foldl (setStep p) q).1.length ≤ q.1.length + L.length + (if q.2 then 0 else 1) by
    have h9 := h L ([], false)
    unfold setTo
    simpa using h9
  intro L
  induction L with
  | nil => intro q; simp
  | cons x L ih =>
    intro q
    rw [List.foldl_cons]
    have h1 := ih (setStep p q x)
    unfold setStep at h1 ⊢
    split at h1
    · rename_i hc
      rw [if_pos hc]
      simp at h1 ⊢
      omega
    · rename_i hc
      rw [if_neg hc]
      split at h1
      · rename_i hd
        rw [if_pos hd, hd.1]
        simp at h1 ⊢
        omega
      · rename_i hd
        rw [if_neg hd]
        simp at h1 ⊢
        omega
/-- What all rounds come to. -/
theorem setTo_ins (p : Pl) : ∀ (L : List Pl), SrtT L → setTo p L = (if L.any (fun x => ltS p.nd x.nd) then (setT L p, true) else (L.filter (fun x => ltS x.nd p.nd), false)) ∧ (L.any (fun x => ltS p.nd x.nd) = false → setT L p = L.filter (fun x => ltS x.nd p.nd) ++ [p]) := by
  intro L
  induction h : L.length generalizing L with
  | zero => intro _; have : L = [] := List.eq_nil_of_length_eq_zero h; subst this; exact ⟨rfl, fun _ => rfl⟩
  | succ n ih =>
    intro hs
    obtain ⟨K, x, rfl⟩ : ∃ K x, L = K ++ [x] := ⟨L.dropLast, L.getLast (by intro e; rw [e] at h; simp at h), (List.dropLast_concat_getLast _).symm⟩
    have hK : SrtT K := (List.pairwise_append.1 hs).1
    have hKx : ∀ y ∈ K, ltS y.nd x.nd = true := fun y hy => (List.pairwise_append.1 hs).2.2 y hy x (by simp)
    obtain ⟨i1, i2⟩ := ih K (by simpa using h) hK
    have e1 : setTo p (K ++ [x]) = setStep p (setTo p K) x := by unfold setTo; rw [List.foldl_append]; rfl
    have hnil : ∀ {M : List Pl}, M.any (fun x => ltS p.nd x.nd) = false → M.filter (fun x => ltS p.nd x.nd) = [] := fun h => List.filter_eq_nil_iff.2 fun y hy => by simpa using List.any_eq_false.1 h y hy
    refine ⟨?_, fun h9 => by unfold setT; rw [hnil h9]⟩
    rw [e1, i1]
    by_cases hx : x.nd = p.nd
    · have q1 : ltS x.nd p.nd = false := by rw [hx]; exact ltS_irr _
      have q2 : ltS p.nd x.nd = false := by rw [hx]; exact ltS_irr _
      have e2 : setT (K ++ [x]) p = setT K p := by unfold setT; rw [List.filter_append, List.filter_append]; simp [q1, q2]
      unfold setStep
      rw [if_pos hx, e2, List.any_append, List.filter_append]
      simp [q1, q2]
    · rcases ltS_or hx with q | q
      · have q2 := ltS_asym q
        have ha : K.any (fun x => ltS p.nd x.nd) = false := List.any_eq_false.2 fun y hy => by rw [ltS_asym (ltS_trans (hKx y hy) q)]; simp
        rw [ha, if_neg (by simp), List.any_append, ha]
        unfold setStep
        rw [if_neg hx, if_neg (by rw [q2]; simp), List.filter_append]
        simp [q, q2]
      · have q2 := ltS_asym q
        have e2 : setT (K ++ [x]) p = setT K p ++ [x] := by unfold setT; rw [List.filter_append, List.filter_append]; simp [q, q2]
        rw [List.any_append, e2]
        cases ha : K.any (fun x => ltS p.nd x.nd) with
        | true =>
          rw [if_pos rfl]
          unfold setStep
          rw [if_neg hx, if_neg (by simp)]
          simp
        | false =>
          rw [if_neg (by simp)]
          unfold setStep
          rw [if_neg hx, if_pos ⟨rfl, q⟩, i2 ha]
          simp [q]

set_option maxRecDepth 100000 in
set_option maxHeartbeats 8000000 in
theorem refSet_any (G : Nat → Prop) (v : Value) (L : List Pl) (p : Pl) (w : World) (h : LsE plCells 6 G w v L) (hs : SrtT L) (hl : L.length ≤ 4096) :
    Calls Try.prog 40 #[v, .agg (plCells p).toArray] w fun e w' => ∃ v', e = .returned v' ∧ OwnE plCells 6 43 w.heap.size w' v' (setT L p) ∧ Below w.heap.size w w' := by
  obtain ⟨ipl, hipl, hz0pl, hz1pl, hz2pl⟩ := info_parts infoPlR
  obtain ⟨W0, eW0⟩ : ∃ X, X = w.alloc (.cells (plCells p).toArray 43) := ⟨_, rfl⟩
  have hb0 : Below w.heap.size w W0 := by rw [eW0]; exact (Below.refl _ _).alloc (Nat.le_refl _) _
  have hr1 : W0.heap[w.heap.size]? = some (.cells (plCells p).toArray 43) := by rw [eW0]; exact heap_alloc_new _ _
  obtain ⟨W2, eW2⟩ : ∃ X, X = W0.alloc (.cells #[] 43) := ⟨_, rfl⟩
  have hb2 : Below W0.heap.size W0 W2 := by rw [eW2]; exact (Below.refl _ _).alloc (Nat.le_refl _) _
  obtain ⟨bx, ebx⟩ : ∃ b, b = w.heap.size := ⟨_, rfl⟩
  have hr0 : W0.heap[bx]? = some (.cells (plCells p).toArray 43) := by (rw [ebx]; exact hr1)
  have HBr : Hid (W0.heap[bx]? = some (.cells (plCells p).toArray 43)) := hr0
  have HBl : Hid (bx < W0.heap.size) := row_lt hr0
  have HB0 : Hid (W0.cell? ⟨bx, 0, none⟩ = some (.int .i64 p.nd.1)) := by (show _ = _; rw [cell_of_row W0 _ 0 _ _ _ hr0]; rfl)
  have HB1 : Hid (W0.cell? ⟨bx, 1, none⟩ = some (.int .i64 p.nd.2)) := by (show _ = _; rw [cell_of_row W0 _ 1 _ _ _ hr0]; rfl)
  have HBe : Hid (Below w.heap.size w W0) := hb0
  have HLs0 : Hid (LsE plCells 6 G W0 v L) := h.below hb0
  have HSr : Hid (SrtT L) := hs
  obtain ⟨a1, c1, e1⟩ := h.form
  subst e1
  have HeW : Hid (W2 = (w.alloc (.cells (plCells p).toArray 43)).alloc (.cells #[] 43)) := by (rw [eW2, eW0]; exact rfl)
  have HeS : Hid (W0.heap.size = w.heap.size + 1) := by (show _ = _; rw [eW0]; simp)
  have HeB : Hid (bx = w.heap.size) := ebx
  have HOw : Hid (BuS plCells 6 43 W0 (.slice (some ⟨W0.heap.size, 0, none⟩) 0 0) [] W2) := ⟨hb2, by (rw [eW2]; exact ownE_empty W0 _ (Nat.le_refl _))⟩
  clear h hs hb0 hr1 hb2 hr0 eW0 eW2 ebx
  go_enter Try.func40, Try.ntmps40
  go_wp2
  rw [← HeW.out, ← HeB.out]
  rw [HeS.out, ← HeB.out] at HOw
  clear HeW HeS
  go_loopw [5, 6, 7] (fun ov dv iv wr => ∃ (i : Nat) (D : List Pl) (dn : Bool), iv = .int .i64 (i : Int) ∧ dv = .bool dn ∧ i ≤ L.length ∧ Hid (setTo p (L.take i) = (D, dn)) ∧ Hid (BuS plCells 6 43 W0 ov D wr)) (fun _ _ iv _ => L.length - (intOf iv).toNat)
  case atStart => exact ⟨0, [], false, rfl, rfl, Nat.zero_le _, rfl, HOw⟩
  case round =>
    clear HOw
    obtain ⟨i, D, dn, rfl, rfl, hi, HDn, HBu⟩ := hrel
    obtain ⟨a0, c0, e0⟩ := HBu.out.own.form
    subst e0
    have hDl : D.length ≤ i + 1 := by
      have h1 := setTo_len p (L.take i)
      rw [HDn.out] at h1
      have h2 := List.length_take_le i L
      simp only at h1
      omega
    by_cases hil : i < L.length
    · obtain ⟨b, o, cap, ev, hcap, hgb, hlt, hrow⟩ := HLs0.out.at (i := i) hil
      injection ev with ev1 ev2 ev3
      subst ev1
      subst ev3
      obtain ⟨x, ex⟩ : ∃ x, x = L[i] := ⟨_, rfl⟩
      rw [← ex] at hrow
      have HXe : Hid (x = L[i]) := ex
      have HX : Hid (W0.rangeAt b (o + i * 6) (plCells x)) := hrow
      have HGl : Hid (b < W0.heap.size) := hlt
      have HX0 : Hid (W0.cell? ⟨b, o + i * 6, none⟩ = some (.int .i64 x.nd.1)) := hrow 0 _ rfl
      have HX1 : Hid (W0.cell? ⟨b, o + i * 6 + 1, none⟩ = some (.int .i64 x.nd.2)) := hrow 1 _ rfl
      have k1 : (i : Int) < (L.length : Int) := by omega
      have k0 : (0 : Int) ≤ (i : Int) := by omega
      clear ex hrow hlt hgb HLs0 ev2
      go_wp2_with fail
      refine wp_region_held_drew (S := fun W' => Below W0.heap.size W0 W') (by kernel_rfl) HBu.out.bel.drew (fun hHeld => ?_)
      obtain ⟨Ua1u0, eW⟩ : ∃ X, X = wr.drew := ⟨_, rfl⟩
      have hb : Below wr.heap.size wr Ua1u0 := by rw [eW]; exact (Below.refl _ _).drew
      replace HBu : Hid (BuS plCells 6 43 W0 (.slice a0 D.length c0) D Ua1u0) := HBu.out.below hb
      rw [← eW] at hHeld ⊢
      clear eW hb
      refine tkW 0 (some 15) (v := ?_) ?_ hHeld ?_
      rotate_left
      · (intro ww _; go_simp; try with_reducible rfl)
      refine tkW 1 (some 16) (v := ?_) ?_ hHeld ?_
      rotate_left
      · (intro ww _; go_simp; try with_reducible rfl)
      refine tkW 2 (some 17) (v := ?_) ?_ hHeld ?_
      rotate_left
      · (intro ww hSw; (try dsimp only at hSw); have hbw := hSw; have b0 := (hbw.cell (p := ⟨bx, 0, none⟩) HBl.out).trans HB0.out; have b1 := (hbw.cell (p := ⟨bx, 1, none⟩) HBl.out).trans HB1.out; have r0 := (hbw.cell (p := ⟨b, o + i * 6, none⟩) HGl.out).trans HX0.out; have r1 := (hbw.cell (p := ⟨b, o + i * 6 + 1, none⟩) HGl.out).trans HX1.out; go_simp; try with_reducible rfl)
      refine tkW 3 (some 18) (v := ?_) ?_ hHeld ?_
      rotate_left
      · (intro ww _; go_simp; try with_reducible rfl)
      refine tkW 4 (some 19) (v := ?_) ?_ hHeld ?_
      rotate_left
      · (intro ww hSw; (try dsimp only at hSw); have hbw := hSw; have b0 := (hbw.cell (p := ⟨bx, 0, none⟩) HBl.out).trans HB0.out; have b1 := (hbw.cell (p := ⟨bx, 1, none⟩) HBl.out).trans HB1.out; have r0 := (hbw.cell (p := ⟨b, o + i * 6, none⟩) HGl.out).trans HX0.out; have r1 := (hbw.cell (p := ⟨b, o + i * 6 + 1, none⟩) HGl.out).trans HX1.out; go_simp; try with_reducible rfl)
      refine tkW 5 (some 20) (v := ?_) ?_ hHeld ?_
      rotate_left
      · (intro ww _; go_simp; try with_reducible rfl)
      refine tkW 6 (some 21) (v := ?_) ?_ hHeld ?_
      rotate_left
      · (intro ww hSw; (try dsimp only at hSw); have hbw := hSw; have b0 := (hbw.cell (p := ⟨bx, 0, none⟩) HBl.out).trans HB0.out; have b1 := (hbw.cell (p := ⟨bx, 1, none⟩) HBl.out).trans HB1.out; have r0 := (hbw.cell (p := ⟨b, o + i * 6, none⟩) HGl.out).trans HX0.out; have r1 := (hbw.cell (p := ⟨b, o + i * 6 + 1, none⟩) HGl.out).trans HX1.out; go_simp; try with_reducible rfl)
      refine tkW 7 (some 22) (v := .bool (decide ((x.nd.1, x.nd.2) = (p.nd.1, p.nd.2)))) ?_ hHeld ?_
      · (intro ww hSw; (try dsimp only at hSw); have hbw := hSw; have b0 := (hbw.cell (p := ⟨bx, 0, none⟩) HBl.out).trans HB0.out; have b1 := (hbw.cell (p := ⟨bx, 1, none⟩) HBl.out).trans HB1.out; have r0 := (hbw.cell (p := ⟨b, o + i * 6, none⟩) HGl.out).trans HX0.out; have r1 := (hbw.cell (p := ⟨b, o + i * 6 + 1, none⟩) HGl.out).trans HX1.out; go_simp; by_cases e1 : x.nd.1 = p.nd.1 <;> by_cases e2 : x.nd.2 = p.nd.2 <;> simp [e1, e2])
      refine wpAnyH_done (by kernel_rfl) ?_ _
      have HBu6 : Hid (BuS plCells 6 43 W0 (.slice a0 D.length c0) D Ua1u0) := HBu.out
      clear hHeld HBu
      by_cases hxm : x.nd = p.nd
      · have hxd : decide ((x.nd.1, x.nd.2) = (p.nd.1, p.nd.2)) = true := decide_eq_true hxm
        have HDn2 : Hid (setTo p (L.take (i + 1)) = (D, dn)) := setTo_skip HDn.out hil HXe.out hxm
        clear hxm
        rw [hxd]
        clear hxd
        go_wp2
        go_roundw
        case rel => exact ⟨i + 1, D, dn, by go_num, rfl, by omega, HDn2, HBu6⟩
        case measure => simp [intOf]; omega
      · have hxd : decide ((x.nd.1, x.nd.2) = (p.nd.1, p.nd.2)) = false := decide_eq_false hxm
        have HXm : Hid (x.nd ≠ p.nd) := hxm
        clear hxm
        rw [hxd]
        clear hxd
        obtain ⟨wr7, ewr⟩ : ∃ X, X = Ua1u0 := ⟨_, rfl⟩
        have HBu : Hid (BuS plCells 6 43 W0 (.slice a0 D.length c0) D wr7) := by (rw [ewr]; exact HBu6.out)
        rw [← ewr]
        clear ewr HBu6
        cases dn with
        | true =>
          have HDn2 : Hid (setTo p (L.take (i + 1)) = (D ++ [x], true)) := setTo_done HDn.out hil HXe.out HXm.out
          go_wp2_with fail
          refine wp_region_held_drew (S := fun W' => Below W0.heap.size W0 W') (by kernel_rfl) HBu.out.bel.drew (fun hHeld => ?_)
          obtain ⟨Ub2u0, eW⟩ : ∃ X, X = wr7.drew := ⟨_, rfl⟩
          have hb : Below wr7.heap.size wr7 Ub2u0 := by rw [eW]; exact (Below.refl _ _).drew
          replace HBu : Hid (BuS plCells 6 43 W0 (.slice a0 D.length c0) D Ub2u0) := HBu.out.below hb
          rw [← eW] at hHeld ⊢
          clear eW hb
          refine tkW 0 (some 23) (v := ?_) ?_ hHeld ?_
          rotate_left
          · (intro ww _; go_simp; try with_reducible rfl)
          refine tkW 1 (some 24) (v := ?_) ?_ hHeld ?_
          rotate_left
          · (intro ww _; go_simp; try with_reducible rfl)
          refine tkW 2 (some 25) (v := ?_) ?_ hHeld ?_
          rotate_left
          · (intro ww _; go_simp; try with_reducible rfl)
          refine tkU 3 (some 26) hHeld ?_
          refine tkU 4 (some 27) hHeld ?_
          refine tkU 5 (some 28) hHeld ?_
          refine tkU 6 (some 29) hHeld ?_
          refine tkU 7 (some 30) hHeld ?_
          refine tkU 8 (some 31) hHeld ?_
          refine tkU 9 (some 32) hHeld ?_
          refine tkU 10 (some 33) hHeld ?_
          refine tkW 11 (some 34) (v := ?_) ?_ hHeld ?_
          rotate_left
          · (intro ww _; go_simp; try with_reducible rfl)
          refine wpAnyH_done (by kernel_rfl) ?_ _
          have HB7 : Hid (BuS plCells 6 43 W0 (.slice a0 D.length c0) D Ub2u0) := HBu.out
          clear hHeld HBu
          have hxr : Ub2u0.rangeAt b (o + i * 6) (plCells x) := rangeAt_keep HX.out (HB7.out.bel.block _ HGl.out)
          have x0 : Ub2u0.cell? ⟨b, o + i * 6, none⟩ = some (.int .i64 x.nd.1) := hxr 0 _ rfl
          have x1 : Ub2u0.cell? ⟨b, o + i * 6 + 1, none⟩ = some (.int .i64 x.nd.2) := hxr 1 _ rfl
          have x2 : Ub2u0.cell? ⟨b, o + i * 6 + 2, none⟩ = some (.int .i64 x.pr.1) := hxr 2 _ rfl
          have x3 : Ub2u0.cell? ⟨b, o + i * 6 + 3, none⟩ = some (.int .i64 x.pr.2) := hxr 3 _ rfl
          have x4 : Ub2u0.cell? ⟨b, o + i * 6 + 4, none⟩ = some (.int .i64 x.sl.1) := hxr 4 _ rfl
          have x5 : Ub2u0.cell? ⟨b, o + i * 6 + 5, none⟩ = some (.int .i64 x.sl.2) := hxr 5 _ rfl
          clear hxr
          have halq : Below Ub2u0.heap.size Ub2u0 (Ub2u0.alloc (.cells #[.int .i64 x.nd.1, .int .i64 x.nd.2, .int .i64 x.pr.1, .int .i64 x.pr.2, .int .i64 x.sl.1, .int .i64 x.sl.2] 43)) := (Below.refl _ _).alloc (Nat.le_refl _) _
          have HBaq : Hid (BuS plCells 6 43 W0 (.slice a0 D.length c0) (D) (Ub2u0.alloc (.cells #[.int .i64 x.nd.1, .int .i64 x.nd.2, .int .i64 x.pr.1, .int .i64 x.pr.2, .int .i64 x.sl.1, .int .i64 x.sl.2] 43))) := HB7.out.below halq
          have HNwq : Hid (∀ j u, ([.int .i64 x.nd.1, .int .i64 x.nd.2, .int .i64 x.pr.1, .int .i64 x.pr.2, .int .i64 x.sl.1, .int .i64 x.sl.2] : List Value)[j]? = some u → (Ub2u0.alloc (.cells #[.int .i64 x.nd.1, .int .i64 x.nd.2, .int .i64 x.pr.1, .int .i64 x.pr.2, .int .i64 x.sl.1, .int .i64 x.sl.2] 43)).cell? ((⟨Ub2u0.heap.size, 0, none⟩ : Addr).add j) = some u) := fun j u hj => (by rw [Addr.add_lit, cell_of_row _ _ _ _ _ _ (heap_alloc_new Ub2u0 _)]; simpa using hj)
          have hszq : W0.heap.size ≤ (Ub2u0.alloc (.cells #[.int .i64 x.nd.1, .int .i64 x.nd.2, .int .i64 x.pr.1, .int .i64 x.pr.2, .int .i64 x.sl.1, .int .i64 x.sl.2] 43)).heap.size := HBaq.out.bel.size
          clear halq
          go_wp2_with (at_builtin; refine wpList_append_own_at _ rfl _ _ 39 rfl W0.heap.size 43 ipl (.agg #[.int .i64 0, .int .i64 0, .int .i64 0, .int .i64 0, .int .i64 0, .int .i64 0]) 6 48 Try.underlying39 hipl hz0pl hz1pl hz2pl rfl (by decide) _ _ _ rfl HBaq.out.own ⟨Ub2u0.heap.size, 0, none⟩ 1 1 [.int .i64 x.nd.1, .int .i64 x.nd.2, .int .i64 x.pr.1, .int .i64 x.pr.2, .int .i64 x.sl.1, .int .i64 x.sl.2] rfl rfl HNwq.out (plCells_oneR x) (by unfold maxLen; omega) (by omega) hszq ?_; intro v3 w9 hown3 hgrow3 hnil3 hat3; obtain ⟨gq, cq, e3⟩ := own_succ hown3; subst e3; have HB9 : Hid (BuS plCells 6 43 W0 (.slice (some ⟨gq, 0, none⟩) (D.length + 1) cq) (D ++ [x]) w9) := HBaq.out.push hown3 hgrow3; clear hown3 hgrow3 hnil3 hat3 HBaq HNwq hszq; clear x0 x1 x2 x3 x4 x5)
          go_roundw
          case rel => exact ⟨i + 1, D ++ [x], true, by go_num, rfl, by omega, HDn2, by (first | exact HB9 | (have h9 := HB9; simp only [List.length_append, List.length_cons, List.length_nil] at h9 ⊢; exact h9))⟩
          case measure => simp [intOf]; omega
        | false =>
          cases hls : ltS p.nd x.nd with
          | true =>
            have HLs : Hid (lessS p.nd.1 p.nd.2 x.nd.1 x.nd.2 = true) := hls
            have HDn2 : Hid (setTo p (L.take (i + 1)) = (D ++ [p] ++ [x], true)) := setTo_in HDn.out hil HXe.out HXm.out hls
            clear hls
            go_wp2_with fail
            refine wp_region_held_drew (S := fun W' => Below W0.heap.size W0 W') (by kernel_rfl) HBu.out.bel.drew (fun hHeld => ?_)
            obtain ⟨Ub3u0, eW⟩ : ∃ X, X = wr7.drew := ⟨_, rfl⟩
            have hb : Below wr7.heap.size wr7 Ub3u0 := by rw [eW]; exact (Below.refl _ _).drew
            replace HBu : Hid (BuS plCells 6 43 W0 (.slice a0 D.length c0) D Ub3u0) := HBu.out.below hb
            rw [← eW] at hHeld ⊢
            clear eW hb
            refine tkW 0 (some 23) (v := ?_) ?_ hHeld ?_
            rotate_left
            · (intro ww _; go_simp; try with_reducible rfl)
            refine tkW 1 (some 24) (v := ?_) ?_ hHeld ?_
            rotate_left
            · (intro ww _; go_simp; try with_reducible rfl)
            refine tkW 2 (some 25) (v := ?_) ?_ hHeld ?_
            rotate_left
            · (intro ww _; go_simp; try with_reducible rfl)
            refine tkW 3 (some 26) (v := ?_) ?_ hHeld ?_
            rotate_left
            · (intro ww _; go_simp; try with_reducible rfl)
            refine tkW 4 (some 27) (v := ?_) ?_ hHeld ?_
            rotate_left
            · (intro ww hSw; (try dsimp only at hSw); have hbw := hSw; have b0 := (hbw.cell (p := ⟨bx, 0, none⟩) HBl.out).trans HB0.out; have b1 := (hbw.cell (p := ⟨bx, 1, none⟩) HBl.out).trans HB1.out; have r0 := (hbw.cell (p := ⟨b, o + i * 6, none⟩) HGl.out).trans HX0.out; have r1 := (hbw.cell (p := ⟨b, o + i * 6 + 1, none⟩) HGl.out).trans HX1.out; go_simp; try with_reducible rfl)
            refine tkW 5 (some 28) (v := ?_) ?_ hHeld ?_
            rotate_left
            · (intro ww _; go_simp; try with_reducible rfl)
            refine tkW 6 (some 29) (v := ?_) ?_ hHeld ?_
            rotate_left
            · (intro ww _; go_simp; try with_reducible rfl)
            refine tkW 7 (some 30) (v := ?_) ?_ hHeld ?_
            rotate_left
            · (intro ww hSw; (try dsimp only at hSw); have hbw := hSw; have b0 := (hbw.cell (p := ⟨bx, 0, none⟩) HBl.out).trans HB0.out; have b1 := (hbw.cell (p := ⟨bx, 1, none⟩) HBl.out).trans HB1.out; have r0 := (hbw.cell (p := ⟨b, o + i * 6, none⟩) HGl.out).trans HX0.out; have r1 := (hbw.cell (p := ⟨b, o + i * 6 + 1, none⟩) HGl.out).trans HX1.out; go_simp; try with_reducible rfl)
            refine tkW 8 (some 31) (v := ?_) ?_ hHeld ?_
            rotate_left
            · (intro ww _; go_simp; try with_reducible rfl)
            refine tkW 9 (some 32) (v := ?_) ?_ hHeld ?_
            rotate_left
            · (intro ww hSw; (try dsimp only at hSw); have hbw := hSw; have b0 := (hbw.cell (p := ⟨bx, 0, none⟩) HBl.out).trans HB0.out; have b1 := (hbw.cell (p := ⟨bx, 1, none⟩) HBl.out).trans HB1.out; have r0 := (hbw.cell (p := ⟨b, o + i * 6, none⟩) HGl.out).trans HX0.out; have r1 := (hbw.cell (p := ⟨b, o + i * 6 + 1, none⟩) HGl.out).trans HX1.out; go_simp; try with_reducible rfl)
            refine wpAnyH_ready (rs := [10]) (by kernel_rfl) (by simp) ?_
            refine AllReadyH.cons (o := ⟨some 33, _, _, _, _, _⟩) rfl (fun K hK => ?_) AllReadyH.nil
            go_simp
            refine (refLess_bel _ _ _ _ _).mono ?_
            rintro e Ub3u1 ⟨rfl, hb⟩
            (try go_wp2_with fail)
            replace HBu : Hid (BuS plCells 6 43 W0 (.slice a0 D.length c0) D Ub3u1) := HBu.out.below hb
            rw [show lessS p.nd.1 p.nd.2 x.nd.1 x.nd.2 = true from HLs.out]
            refine hK.out _ _ (hHeld.trans (hb.mono hHeld.size)) (fun hHeld2 => ?_)
            clear hK K hHeld
            have hHeld := hHeld2
            clear hHeld2
            (try simp only [Act.put, List.setIfInBounds_toArray, List.set_cons_zero, List.set_cons_succ])
            clear hb
            refine tkW 11 (some 34) (v := ?_) ?_ hHeld ?_
            rotate_left
            · (intro ww _; go_simp; try with_reducible rfl)
            refine wpAnyH_done (by kernel_rfl) ?_ _
            have HB7 : Hid (BuS plCells 6 43 W0 (.slice a0 D.length c0) D Ub3u1) := HBu.out
            clear hHeld HBu
            have m0 : Ub3u1.cell? ⟨bx, 0, none⟩ = some (.int .i64 p.nd.1) := by rw [cell_of_row Ub3u1 bx 0 _ _ _ ((HB7.out.bel.block _ HBl.out).trans HBr.out)]; rfl
            have m1 : Ub3u1.cell? ⟨bx, 1, none⟩ = some (.int .i64 p.nd.2) := by rw [cell_of_row Ub3u1 bx 1 _ _ _ ((HB7.out.bel.block _ HBl.out).trans HBr.out)]; rfl
            have m2 : Ub3u1.cell? ⟨bx, 2, none⟩ = some (.int .i64 p.pr.1) := by rw [cell_of_row Ub3u1 bx 2 _ _ _ ((HB7.out.bel.block _ HBl.out).trans HBr.out)]; rfl
            have m3 : Ub3u1.cell? ⟨bx, 3, none⟩ = some (.int .i64 p.pr.2) := by rw [cell_of_row Ub3u1 bx 3 _ _ _ ((HB7.out.bel.block _ HBl.out).trans HBr.out)]; rfl
            have m4 : Ub3u1.cell? ⟨bx, 4, none⟩ = some (.int .i64 p.sl.1) := by rw [cell_of_row Ub3u1 bx 4 _ _ _ ((HB7.out.bel.block _ HBl.out).trans HBr.out)]; rfl
            have m5 : Ub3u1.cell? ⟨bx, 5, none⟩ = some (.int .i64 p.sl.2) := by rw [cell_of_row Ub3u1 bx 5 _ _ _ ((HB7.out.bel.block _ HBl.out).trans HBr.out)]; rfl
            have halp : Below Ub3u1.heap.size Ub3u1 (Ub3u1.alloc (.cells #[.int .i64 p.nd.1, .int .i64 p.nd.2, .int .i64 p.pr.1, .int .i64 p.pr.2, .int .i64 p.sl.1, .int .i64 p.sl.2] 43)) := (Below.refl _ _).alloc (Nat.le_refl _) _
            have HBap : Hid (BuS plCells 6 43 W0 (.slice a0 D.length c0) (D) (Ub3u1.alloc (.cells #[.int .i64 p.nd.1, .int .i64 p.nd.2, .int .i64 p.pr.1, .int .i64 p.pr.2, .int .i64 p.sl.1, .int .i64 p.sl.2] 43))) := HB7.out.below halp
            have HNwp : Hid (∀ j u, ([.int .i64 p.nd.1, .int .i64 p.nd.2, .int .i64 p.pr.1, .int .i64 p.pr.2, .int .i64 p.sl.1, .int .i64 p.sl.2] : List Value)[j]? = some u → (Ub3u1.alloc (.cells #[.int .i64 p.nd.1, .int .i64 p.nd.2, .int .i64 p.pr.1, .int .i64 p.pr.2, .int .i64 p.sl.1, .int .i64 p.sl.2] 43)).cell? ((⟨Ub3u1.heap.size, 0, none⟩ : Addr).add j) = some u) := fun j u hj => (by rw [Addr.add_lit, cell_of_row _ _ _ _ _ _ (heap_alloc_new Ub3u1 _)]; simpa using hj)
            have hszp : W0.heap.size ≤ (Ub3u1.alloc (.cells #[.int .i64 p.nd.1, .int .i64 p.nd.2, .int .i64 p.pr.1, .int .i64 p.pr.2, .int .i64 p.sl.1, .int .i64 p.sl.2] 43)).heap.size := HBap.out.bel.size
            clear halp
            go_wp2_with (first
              | (at_builtin; refine wpList_append_own_at _ rfl _ _ 39 rfl W0.heap.size 43 ipl (.agg #[.int .i64 0, .int .i64 0, .int .i64 0, .int .i64 0, .int .i64 0, .int .i64 0]) 6 48 Try.underlying39 hipl hz0pl hz1pl hz2pl rfl (by decide) _ _ _ rfl HBap.out.own ⟨Ub3u1.heap.size, 0, none⟩ 1 1 [.int .i64 p.nd.1, .int .i64 p.nd.2, .int .i64 p.pr.1, .int .i64 p.pr.2, .int .i64 p.sl.1, .int .i64 p.sl.2] rfl rfl HNwp.out (plCells_oneR p) (by unfold maxLen; omega) (by omega) hszp ?_; intro v3 w8 hown3 hgrow3 hnil3 hat3; obtain ⟨gp, cp, e3⟩ := own_succ hown3; subst e3; have HB8 : Hid (BuS plCells 6 43 W0 (.slice (some ⟨gp, 0, none⟩) (D.length + 1) cp) (D ++ [p]) w8) := HBap.out.push hown3 hgrow3; clear hown3 hgrow3 hnil3 hat3 HBap HNwp hszp; clear m0 m1 m2 m3 m4 m5; have hEl : (D ++ [p]).length ≤ 4098 := (by simp only [List.length_append, List.length_cons, List.length_nil]; omega); have hxr : w8.rangeAt b (o + i * 6) (plCells x) := rangeAt_keep HX.out (HB8.out.bel.block _ HGl.out); have x0 : w8.cell? ⟨b, o + i * 6, none⟩ = some (.int .i64 x.nd.1) := hxr 0 _ rfl; have x1 : w8.cell? ⟨b, o + i * 6 + 1, none⟩ = some (.int .i64 x.nd.2) := hxr 1 _ rfl; have x2 : w8.cell? ⟨b, o + i * 6 + 2, none⟩ = some (.int .i64 x.pr.1) := hxr 2 _ rfl; have x3 : w8.cell? ⟨b, o + i * 6 + 3, none⟩ = some (.int .i64 x.pr.2) := hxr 3 _ rfl; have x4 : w8.cell? ⟨b, o + i * 6 + 4, none⟩ = some (.int .i64 x.sl.1) := hxr 4 _ rfl; have x5 : w8.cell? ⟨b, o + i * 6 + 5, none⟩ = some (.int .i64 x.sl.2) := hxr 5 _ rfl; clear hxr; have halq : Below w8.heap.size w8 (w8.alloc (.cells #[.int .i64 x.nd.1, .int .i64 x.nd.2, .int .i64 x.pr.1, .int .i64 x.pr.2, .int .i64 x.sl.1, .int .i64 x.sl.2] 43)) := (Below.refl _ _).alloc (Nat.le_refl _) _; have HBaq : Hid (BuS plCells 6 43 W0 (.slice (some ⟨gp, 0, none⟩) (D.length + 1) cp) (D ++ [p]) (w8.alloc (.cells #[.int .i64 x.nd.1, .int .i64 x.nd.2, .int .i64 x.pr.1, .int .i64 x.pr.2, .int .i64 x.sl.1, .int .i64 x.sl.2] 43))) := HB8.out.below halq; have HNwq : Hid (∀ j u, ([.int .i64 x.nd.1, .int .i64 x.nd.2, .int .i64 x.pr.1, .int .i64 x.pr.2, .int .i64 x.sl.1, .int .i64 x.sl.2] : List Value)[j]? = some u → (w8.alloc (.cells #[.int .i64 x.nd.1, .int .i64 x.nd.2, .int .i64 x.pr.1, .int .i64 x.pr.2, .int .i64 x.sl.1, .int .i64 x.sl.2] 43)).cell? ((⟨w8.heap.size, 0, none⟩ : Addr).add j) = some u) := fun j u hj => (by rw [Addr.add_lit, cell_of_row _ _ _ _ _ _ (heap_alloc_new w8 _)]; simpa using hj); have hszq : W0.heap.size ≤ (w8.alloc (.cells #[.int .i64 x.nd.1, .int .i64 x.nd.2, .int .i64 x.pr.1, .int .i64 x.pr.2, .int .i64 x.sl.1, .int .i64 x.sl.2] 43)).heap.size := HBaq.out.bel.size; clear halq)
              | (at_builtin; refine wpList_append_own_at _ rfl _ _ 39 rfl W0.heap.size 43 ipl (.agg #[.int .i64 0, .int .i64 0, .int .i64 0, .int .i64 0, .int .i64 0, .int .i64 0]) 6 48 Try.underlying39 hipl hz0pl hz1pl hz2pl rfl (by decide) _ _ _ rfl HBaq.out.own ⟨w8.heap.size, 0, none⟩ 1 1 [.int .i64 x.nd.1, .int .i64 x.nd.2, .int .i64 x.pr.1, .int .i64 x.pr.2, .int .i64 x.sl.1, .int .i64 x.sl.2] rfl rfl HNwq.out (plCells_oneR x) (by unfold maxLen; omega) (by omega) hszq ?_; intro v3 w9 hown3 hgrow3 hnil3 hat3; obtain ⟨gq, cq, e3⟩ := own_succ hown3; subst e3; have HB9 : Hid (BuS plCells 6 43 W0 (.slice (some ⟨gq, 0, none⟩) ((D ++ [p]).length + 1) cq) (D ++ [p] ++ [x]) w9) := HBaq.out.push hown3 hgrow3; clear hown3 hgrow3 hnil3 hat3 HBaq HNwq hszq; clear x0 x1 x2 x3 x4 x5))
            go_roundw
            case rel => exact ⟨i + 1, D ++ [p] ++ [x], true, by go_num, rfl, by omega, HDn2, by (first | exact HB9 | (have h9 := HB9; simp only [List.length_append, List.length_cons, List.length_nil] at h9 ⊢; exact h9))⟩
            case measure => simp [intOf]; omega
          | false =>
            have HLs : Hid (lessS p.nd.1 p.nd.2 x.nd.1 x.nd.2 = false) := hls
            have HDn2 : Hid (setTo p (L.take (i + 1)) = (D ++ [x], false)) := setTo_on HDn.out hil HXe.out HXm.out hls
            clear hls
            go_wp2_with fail
            refine wp_region_held_drew (S := fun W' => Below W0.heap.size W0 W') (by kernel_rfl) HBu.out.bel.drew (fun hHeld => ?_)
            obtain ⟨Ub4u0, eW⟩ : ∃ X, X = wr7.drew := ⟨_, rfl⟩
            have hb : Below wr7.heap.size wr7 Ub4u0 := by rw [eW]; exact (Below.refl _ _).drew
            replace HBu : Hid (BuS plCells 6 43 W0 (.slice a0 D.length c0) D Ub4u0) := HBu.out.below hb
            rw [← eW] at hHeld ⊢
            clear eW hb
            refine tkW 0 (some 23) (v := ?_) ?_ hHeld ?_
            rotate_left
            · (intro ww _; go_simp; try with_reducible rfl)
            refine tkW 1 (some 24) (v := ?_) ?_ hHeld ?_
            rotate_left
            · (intro ww _; go_simp; try with_reducible rfl)
            refine tkW 2 (some 25) (v := ?_) ?_ hHeld ?_
            rotate_left
            · (intro ww _; go_simp; try with_reducible rfl)
            refine tkW 3 (some 26) (v := ?_) ?_ hHeld ?_
            rotate_left
            · (intro ww _; go_simp; try with_reducible rfl)
            refine tkW 4 (some 27) (v := ?_) ?_ hHeld ?_
            rotate_left
            · (intro ww hSw; (try dsimp only at hSw); have hbw := hSw; have b0 := (hbw.cell (p := ⟨bx, 0, none⟩) HBl.out).trans HB0.out; have b1 := (hbw.cell (p := ⟨bx, 1, none⟩) HBl.out).trans HB1.out; have r0 := (hbw.cell (p := ⟨b, o + i * 6, none⟩) HGl.out).trans HX0.out; have r1 := (hbw.cell (p := ⟨b, o + i * 6 + 1, none⟩) HGl.out).trans HX1.out; go_simp; try with_reducible rfl)
            refine tkW 5 (some 28) (v := ?_) ?_ hHeld ?_
            rotate_left
            · (intro ww _; go_simp; try with_reducible rfl)
            refine tkW 6 (some 29) (v := ?_) ?_ hHeld ?_
            rotate_left
            · (intro ww _; go_simp; try with_reducible rfl)
            refine tkW 7 (some 30) (v := ?_) ?_ hHeld ?_
            rotate_left
            · (intro ww hSw; (try dsimp only at hSw); have hbw := hSw; have b0 := (hbw.cell (p := ⟨bx, 0, none⟩) HBl.out).trans HB0.out; have b1 := (hbw.cell (p := ⟨bx, 1, none⟩) HBl.out).trans HB1.out; have r0 := (hbw.cell (p := ⟨b, o + i * 6, none⟩) HGl.out).trans HX0.out; have r1 := (hbw.cell (p := ⟨b, o + i * 6 + 1, none⟩) HGl.out).trans HX1.out; go_simp; try with_reducible rfl)
            refine tkW 8 (some 31) (v := ?_) ?_ hHeld ?_
            rotate_left
            · (intro ww _; go_simp; try with_reducible rfl)
            refine tkW 9 (some 32) (v := ?_) ?_ hHeld ?_
            rotate_left
            · (intro ww hSw; (try dsimp only at hSw); have hbw := hSw; have b0 := (hbw.cell (p := ⟨bx, 0, none⟩) HBl.out).trans HB0.out; have b1 := (hbw.cell (p := ⟨bx, 1, none⟩) HBl.out).trans HB1.out; have r0 := (hbw.cell (p := ⟨b, o + i * 6, none⟩) HGl.out).trans HX0.out; have r1 := (hbw.cell (p := ⟨b, o + i * 6 + 1, none⟩) HGl.out).trans HX1.out; go_simp; try with_reducible rfl)
            refine wpAnyH_ready (rs := [10]) (by kernel_rfl) (by simp) ?_
            refine AllReadyH.cons (o := ⟨some 33, _, _, _, _, _⟩) rfl (fun K hK => ?_) AllReadyH.nil
            go_simp
            refine (refLess_bel _ _ _ _ _).mono ?_
            rintro e Ub4u1 ⟨rfl, hb⟩
            (try go_wp2_with fail)
            replace HBu : Hid (BuS plCells 6 43 W0 (.slice a0 D.length c0) D Ub4u1) := HBu.out.below hb
            rw [show lessS p.nd.1 p.nd.2 x.nd.1 x.nd.2 = false from HLs.out]
            refine hK.out _ _ (hHeld.trans (hb.mono hHeld.size)) (fun hHeld2 => ?_)
            clear hK K hHeld
            have hHeld := hHeld2
            clear hHeld2
            (try simp only [Act.put, List.setIfInBounds_toArray, List.set_cons_zero, List.set_cons_succ])
            clear hb
            refine tkW 11 (some 34) (v := ?_) ?_ hHeld ?_
            rotate_left
            · (intro ww _; go_simp; try with_reducible rfl)
            refine wpAnyH_done (by kernel_rfl) ?_ _
            have HB7 : Hid (BuS plCells 6 43 W0 (.slice a0 D.length c0) D Ub4u1) := HBu.out
            clear hHeld HBu
            have hxr : Ub4u1.rangeAt b (o + i * 6) (plCells x) := rangeAt_keep HX.out (HB7.out.bel.block _ HGl.out)
            have x0 : Ub4u1.cell? ⟨b, o + i * 6, none⟩ = some (.int .i64 x.nd.1) := hxr 0 _ rfl
            have x1 : Ub4u1.cell? ⟨b, o + i * 6 + 1, none⟩ = some (.int .i64 x.nd.2) := hxr 1 _ rfl
            have x2 : Ub4u1.cell? ⟨b, o + i * 6 + 2, none⟩ = some (.int .i64 x.pr.1) := hxr 2 _ rfl
            have x3 : Ub4u1.cell? ⟨b, o + i * 6 + 3, none⟩ = some (.int .i64 x.pr.2) := hxr 3 _ rfl
            have x4 : Ub4u1.cell? ⟨b, o + i * 6 + 4, none⟩ = some (.int .i64 x.sl.1) := hxr 4 _ rfl
            have x5 : Ub4u1.cell? ⟨b, o + i * 6 + 5, none⟩ = some (.int .i64 x.sl.2) := hxr 5 _ rfl
            clear hxr
            have halq : Below Ub4u1.heap.size Ub4u1 (Ub4u1.alloc (.cells #[.int .i64 x.nd.1, .int .i64 x.nd.2, .int .i64 x.pr.1, .int .i64 x.pr.2, .int .i64 x.sl.1, .int .i64 x.sl.2] 43)) := (Below.refl _ _).alloc (Nat.le_refl _) _
            have HBaq : Hid (BuS plCells 6 43 W0 (.slice a0 D.length c0) (D) (Ub4u1.alloc (.cells #[.int .i64 x.nd.1, .int .i64 x.nd.2, .int .i64 x.pr.1, .int .i64 x.pr.2, .int .i64 x.sl.1, .int .i64 x.sl.2] 43))) := HB7.out.below halq
            have HNwq : Hid (∀ j u, ([.int .i64 x.nd.1, .int .i64 x.nd.2, .int .i64 x.pr.1, .int .i64 x.pr.2, .int .i64 x.sl.1, .int .i64 x.sl.2] : List Value)[j]? = some u → (Ub4u1.alloc (.cells #[.int .i64 x.nd.1, .int .i64 x.nd.2, .int .i64 x.pr.1, .int .i64 x.pr.2, .int .i64 x.sl.1, .int .i64 x.sl.2] 43)).cell? ((⟨Ub4u1.heap.size, 0, none⟩ : Addr).add j) = some u) := fun j u hj => (by rw [Addr.add_lit, cell_of_row _ _ _ _ _ _ (heap_alloc_new Ub4u1 _)]; simpa using hj)
            have hszq : W0.heap.size ≤ (Ub4u1.alloc (.cells #[.int .i64 x.nd.1, .int .i64 x.nd.2, .int .i64 x.pr.1, .int .i64 x.pr.2, .int .i64 x.sl.1, .int .i64 x.sl.2] 43)).heap.size := HBaq.out.bel.size
            clear halq
            go_wp2_with (at_builtin; refine wpList_append_own_at _ rfl _ _ 39 rfl W0.heap.size 43 ipl (.agg #[.int .i64 0, .int .i64 0, .int .i64 0, .int .i64 0, .int .i64 0, .int .i64 0]) 6 48 Try.underlying39 hipl hz0pl hz1pl hz2pl rfl (by decide) _ _ _ rfl HBaq.out.own ⟨Ub4u1.heap.size, 0, none⟩ 1 1 [.int .i64 x.nd.1, .int .i64 x.nd.2, .int .i64 x.pr.1, .int .i64 x.pr.2, .int .i64 x.sl.1, .int .i64 x.sl.2] rfl rfl HNwq.out (plCells_oneR x) (by unfold maxLen; omega) (by omega) hszq ?_; intro v3 w9 hown3 hgrow3 hnil3 hat3; obtain ⟨gq, cq, e3⟩ := own_succ hown3; subst e3; have HB9 : Hid (BuS plCells 6 43 W0 (.slice (some ⟨gq, 0, none⟩) (D.length + 1) cq) (D ++ [x]) w9) := HBaq.out.push hown3 hgrow3; clear hown3 hgrow3 hnil3 hat3 HBaq HNwq hszq; clear x0 x1 x2 x3 x4 x5)
            go_roundw
            case rel => exact ⟨i + 1, D ++ [x], false, by go_num, rfl, by omega, HDn2, by (first | exact HB9 | (have h9 := HB9; simp only [List.length_append, List.length_cons, List.length_nil] at h9 ⊢; exact h9))⟩
            case measure => simp [intOf]; omega
    · obtain rfl : i = L.length := by omega
      obtain ⟨hp1, hp2⟩ := setTo_ins p L HSr.out
      rw [List.take_length, hp1] at HDn
      cases ha : L.any (fun x => ltS p.nd x.nd) with
      | true =>
        rw [ha, if_pos rfl] at HDn
        have h9 := HDn.out
        injection h9 with h8 h7
        subst h8
        subst h7
        clear HDn hp1 hp2 ha
        go_wp2
        go_ret
        exact ⟨_, rfl, HBu.out.own.low HBe.out.size, HBe.out.trans (HBu.out.bel.mono HBe.out.size)⟩
      | false =>
        have hp3 := hp2 ha
        rw [ha, if_neg (by simp)] at HDn
        have h9 := HDn.out
        injection h9 with h8 h7
        rw [h8] at hp3
        have HIn : Hid (setT L p = D ++ [p]) := hp3
        subst h7
        clear HDn hp1 hp2 hp3 ha h8
        have HB7 : Hid (BuS plCells 6 43 W0 (.slice a0 D.length c0) D wr) := HBu
        clear HBu
        have m0 : wr.cell? ⟨bx, 0, none⟩ = some (.int .i64 p.nd.1) := by rw [cell_of_row wr bx 0 _ _ _ ((HB7.out.bel.block _ HBl.out).trans HBr.out)]; rfl
        have m1 : wr.cell? ⟨bx, 1, none⟩ = some (.int .i64 p.nd.2) := by rw [cell_of_row wr bx 1 _ _ _ ((HB7.out.bel.block _ HBl.out).trans HBr.out)]; rfl
        have m2 : wr.cell? ⟨bx, 2, none⟩ = some (.int .i64 p.pr.1) := by rw [cell_of_row wr bx 2 _ _ _ ((HB7.out.bel.block _ HBl.out).trans HBr.out)]; rfl
        have m3 : wr.cell? ⟨bx, 3, none⟩ = some (.int .i64 p.pr.2) := by rw [cell_of_row wr bx 3 _ _ _ ((HB7.out.bel.block _ HBl.out).trans HBr.out)]; rfl
        have m4 : wr.cell? ⟨bx, 4, none⟩ = some (.int .i64 p.sl.1) := by rw [cell_of_row wr bx 4 _ _ _ ((HB7.out.bel.block _ HBl.out).trans HBr.out)]; rfl
        have m5 : wr.cell? ⟨bx, 5, none⟩ = some (.int .i64 p.sl.2) := by rw [cell_of_row wr bx 5 _ _ _ ((HB7.out.bel.block _ HBl.out).trans HBr.out)]; rfl
        have halp : Below wr.heap.size wr (wr.alloc (.cells #[.int .i64 p.nd.1, .int .i64 p.nd.2, .int .i64 p.pr.1, .int .i64 p.pr.2, .int .i64 p.sl.1, .int .i64 p.sl.2] 43)) := (Below.refl _ _).alloc (Nat.le_refl _) _
        have HBap : Hid (BuS plCells 6 43 W0 (.slice a0 D.length c0) (D) (wr.alloc (.cells #[.int .i64 p.nd.1, .int .i64 p.nd.2, .int .i64 p.pr.1, .int .i64 p.pr.2, .int .i64 p.sl.1, .int .i64 p.sl.2] 43))) := HB7.out.below halp
        have HNwp : Hid (∀ j u, ([.int .i64 p.nd.1, .int .i64 p.nd.2, .int .i64 p.pr.1, .int .i64 p.pr.2, .int .i64 p.sl.1, .int .i64 p.sl.2] : List Value)[j]? = some u → (wr.alloc (.cells #[.int .i64 p.nd.1, .int .i64 p.nd.2, .int .i64 p.pr.1, .int .i64 p.pr.2, .int .i64 p.sl.1, .int .i64 p.sl.2] 43)).cell? ((⟨wr.heap.size, 0, none⟩ : Addr).add j) = some u) := fun j u hj => (by rw [Addr.add_lit, cell_of_row _ _ _ _ _ _ (heap_alloc_new wr _)]; simpa using hj)
        have hszp : W0.heap.size ≤ (wr.alloc (.cells #[.int .i64 p.nd.1, .int .i64 p.nd.2, .int .i64 p.pr.1, .int .i64 p.pr.2, .int .i64 p.sl.1, .int .i64 p.sl.2] 43)).heap.size := HBap.out.bel.size
        clear halp
        go_wp2_with (at_builtin; refine wpList_append_own_at _ rfl _ _ 39 rfl W0.heap.size 43 ipl (.agg #[.int .i64 0, .int .i64 0, .int .i64 0, .int .i64 0, .int .i64 0, .int .i64 0]) 6 48 Try.underlying39 hipl hz0pl hz1pl hz2pl rfl (by decide) _ _ _ rfl HBap.out.own ⟨wr.heap.size, 0, none⟩ 1 1 [.int .i64 p.nd.1, .int .i64 p.nd.2, .int .i64 p.pr.1, .int .i64 p.pr.2, .int .i64 p.sl.1, .int .i64 p.sl.2] rfl rfl HNwp.out (plCells_oneR p) (by unfold maxLen; omega) (by omega) hszp ?_; intro v3 w8 hown3 hgrow3 hnil3 hat3; obtain ⟨gp, cp, e3⟩ := own_succ hown3; subst e3; have HB8 : Hid (BuS plCells 6 43 W0 (.slice (some ⟨gp, 0, none⟩) (D.length + 1) cp) (D ++ [p]) w8) := HBap.out.push hown3 hgrow3; clear hown3 hgrow3 hnil3 hat3 HBap HNwp hszp; clear m0 m1 m2 m3 m4 m5)
        go_ret
        exact ⟨_, rfl, by (have h9 := HB8.out.own; rw [HIn.out]; exact h9.low HBe.out.size), HBe.out.trans (HB8.out.bel.mono HBe.out.size)⟩

end Go.Proofs.Ytljepindfdhbbaa
