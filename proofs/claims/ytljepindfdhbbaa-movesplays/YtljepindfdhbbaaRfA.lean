/- Rows that the document builds; its Put. -/
import Derived.Test.YtljepindfdhbbaaTrL
import Derived.Test.YtljepindfdhbbaaIdE
namespace Go.Proofs.Ytljepindfdhbbaa
open Go.RowKit
set_option linter.unusedVariables false
set_option linter.unusedSimpArgs false

/-- A row that is being built in new memory. -/
structure BuS {α : Type} (enc : α → List Value) (n : Nat) (T : TypeId) (W0 : World) (ov : Value) (D : List α) (W : World) : Prop where
  bel : Below W0.heap.size W0 W
  own : OwnE enc n T W0.heap.size W ov D
theorem BuS.below {α : Type} {enc : α → List Value} {n : Nat} {T : TypeId} {W0 : World} {ov : Value} {D : List α} {W W' : World} (h : BuS enc n T W0 ov D W) (hb : Below W.heap.size W W') : BuS enc n T W0 ov D W' := ⟨h.bel.trans (hb.mono h.bel.size), h.own.below hb⟩
theorem BuS.push {α : Type} {enc : α → List Value} {n : Nat} {T : TypeId} {W0 : World} {ov : Value} {D : List α} {W W' : World} (h : BuS enc n T W0 ov D W) {v : Value} {x : α} (ho : W'.ownsRow W0.heap.size T n v (D.length + 1) (flatE enc D ++ enc x)) (hg : W.grownBy W' ov.ownBlock) : BuS enc n T W0 v (D ++ [x]) W' :=
  ⟨h.bel.grown hg h.bel.size (fun k e => (h.own.lt k e).1), OwnE.snoc rfl ho⟩
theorem infoMc : (Try.prog.info? 55).map (fun i => (i.zero, i.size, i.bytes)) = some (some (.agg #[.int .i64 0, .int .i64 0, .int .i64 0, .int .i64 0, .int .i64 0, .int .i64 0, .bool false]), 7, 56) := by kernel_rfl
theorem sizeMc : (Try.prog.info? 55).map (·.size) = some 7 := by kernel_rfl
theorem infoPlR : (Try.prog.info? 43).map (fun i => (i.zero, i.size, i.bytes)) = some (some (.agg #[.int .i64 0, .int .i64 0, .int .i64 0, .int .i64 0, .int .i64 0, .int .i64 0]), 6, 48) := by kernel_rfl
theorem mcCells_one (x : Mv × Bool) : ∀ v ∈ mcCells x, v.oneCell' = true := by
  intro v hv
  simp only [mcCells, List.mem_cons, List.not_mem_nil, or_false] at hv
  rcases hv with rfl | rfl | rfl | rfl | rfl | rfl | rfl <;> rfl
theorem plCells_oneR (x : Pl) : ∀ v ∈ plCells x, v.oneCell' = true := by
  intro v hv
  simp only [plCells, List.mem_cons, List.not_mem_nil, or_false] at hv
  rcases hv with rfl | rfl | rfl | rfl | rfl | rfl <;> rfl
theorem stCells_one (x : St) : ∀ v ∈ stCells x, v.oneCell' = true := by
  intro v hv
  simp only [stCells, List.mem_cons, List.not_mem_nil, or_false] at hv
  rcases hv with rfl | rfl <;> rfl
theorem LsE.at {α : Type} {enc : α → List Value} {n : Nat} {G : Nat → Prop} {w : World} {v : Value} {D : List α} (h : LsE enc n G w v D) {i : Nat} (hi : i < D.length) : ∃ b o cap, v = .slice (some ⟨b, o, none⟩) D.length cap ∧ D.length ≤ cap ∧ G b ∧ b < w.heap.size ∧ w.rangeAt b (o + i * n) (enc D[i]) := by
  obtain ⟨a, cap, e, hc, hl, h⟩ := h
  rcases h with rfl | ⟨b, o, rfl, hg, hlt, hr⟩
  · simp at hi
  · exact ⟨b, o, cap, e, hc, hg, hlt, fun j u hj => hr i hi j u hj⟩
/-- Moves of which none is marked. -/
def fl (L : List Mv) : List (Mv × Bool) := L.map fun m => (m, false)
theorem fl_length (L : List Mv) : (fl L).length = L.length := by simp [fl]
theorem fl_get {L : List Mv} {i : Nat} (h : i < L.length) : (fl L)[i]'(by rw [fl_length]; exact h) = (L[i], false) := by simp [fl]
/-- A move put in, round by round. -/
def putStep (m : Mv) (p : List Mv × Bool) (x : Mv) : List Mv × Bool := if p.2 = false ∧ ltS m.ts x.ts = true then (p.1 ++ [m] ++ [x], true) else (p.1 ++ [x], p.2)
def putTo (m : Mv) (L : List Mv) : List Mv × Bool := L.foldl (putStep m) ([], false)
theorem putTo_next (m : Mv) (L : List Mv) (i : Nat) (h : i < L.length) : putTo m (L.take (i + 1)) = putStep m (putTo m (L.take i)) L[i] := by
  unfold putTo
  rw [List.take_succ_eq_append_getElem h, List.foldl_append]
  rfl
theorem putTo_done {m x : Mv} {L D : List Mv} {i : Nat} (h : putTo m (L.take i) = (D, true)) (hi : i < L.length) (e : x = L[i]) : putTo m (L.take (i + 1)) = (D ++ [x], true) := by
  rw [putTo_next m L i hi, h, e]; unfold putStep; rw [if_neg (by simp)]
theorem putTo_in {m x : Mv} {L D : List Mv} {i : Nat} (h : putTo m (L.take i) = (D, false)) (hi : i < L.length) (e : x = L[i]) (hl : ltS m.ts x.ts = true) : putTo m (L.take (i + 1)) = (D ++ [m] ++ [x], true) := by
  rw [e] at hl ⊢
  rw [putTo_next m L i hi, h]; unfold putStep; rw [if_pos ⟨rfl, hl⟩]
theorem putTo_on {m x : Mv} {L D : List Mv} {i : Nat} (h : putTo m (L.take i) = (D, false)) (hi : i < L.length) (e : x = L[i]) (hl : ltS m.ts x.ts = false) : putTo m (L.take (i + 1)) = (D ++ [x], false) := by
  rw [e] at hl ⊢
  rw [putTo_next m L i hi, h]; unfold putStep; rw [if_neg (by rw [hl]; simp)]
theorem nexts {m x : Mv} {L : List Mv} {i : Nat} (h : ∀ j (h : j < L.length), j < i → L[j].ts ≠ m.ts) (hi : i < L.length) (e : x = L[i]) (hx : x.ts ≠ m.ts) : ∀ j (h : j < L.length), j < i + 1 → L[j].ts ≠ m.ts := fun j hj hji => by
  rcases Nat.lt_or_ge j i with h1 | h1
  · exact h j hj h1
  · obtain rfl : j = i := by omega
    rw [← e]; exact hx
/-- What all rounds come to. -/
theorem putTo_ins (m : Mv) : ∀ (L : List Mv), SrtM L → (∀ x ∈ L, x.ts ≠ m.ts) → putTo m L = (if L.any (fun x => ltS m.ts x.ts) then (insM L m, true) else (L, false)) ∧ (L.any (fun x => ltS m.ts x.ts) = false → insM L m = L ++ [m]) := by
  intro L
  induction h : L.length generalizing L with
  | zero => intro _ _; have : L = [] := List.eq_nil_of_length_eq_zero h; subst this; exact ⟨rfl, fun _ => rfl⟩
  | succ n ih =>
    intro hs hn
    obtain ⟨K, x, rfl⟩ : ∃ K x, L = K ++ [x] := ⟨L.dropLast, L.getLast (by intro e; rw [e] at h; simp at h), (List.dropLast_concat_getLast _).symm⟩
    have hK : SrtM K := (List.pairwise_append.1 hs).1
    have hKx : ∀ y ∈ K, ltS y.ts x.ts = true := fun y hy => (List.pairwise_append.1 hs).2.2 y hy x (by simp)
    have hnK : ∀ y ∈ K, y.ts ≠ m.ts := fun y hy => hn y (by simp [hy])
    obtain ⟨i1, i2⟩ := ih K (by simpa using h) hK hnK
    have e1 : putTo m (K ++ [x]) = putStep m (putTo m K) x := by unfold putTo; rw [List.foldl_append]; rfl
    have hlo : ∀ (hx : ltS m.ts x.ts = true), insM (K ++ [x]) m = insM K m ++ [x] := fun hx => by
      unfold insM
      rw [List.filter_append, List.filter_append]
      simp [hx, ltS_asym hx]
    rw [e1, i1]
    cases ha : K.any (fun x => ltS m.ts x.ts) with
    | true =>
      obtain ⟨y, hy, hym⟩ := List.any_eq_true.1 ha
      have hx : ltS m.ts x.ts = true := ltS_trans hym (hKx y hy)
      have ha2 : (K ++ [x]).any (fun x => ltS m.ts x.ts) = true := by rw [List.any_append, ha]; rfl
      rw [ha2]
      refine ⟨?_, fun h => by cases h⟩
      rw [if_pos rfl, if_pos rfl, hlo hx]
      unfold putStep
      rw [if_neg (by simp)]
    | false =>
      rw [if_neg (by simp)]
      cases hx : ltS m.ts x.ts with
      | true =>
        have ha2 : (K ++ [x]).any (fun x => ltS m.ts x.ts) = true := by rw [List.any_append]; simp [hx]
        rw [ha2]
        refine ⟨?_, fun h => by cases h⟩
        rw [if_pos rfl, hlo hx, i2 ha]
        unfold putStep
        rw [if_pos ⟨rfl, hx⟩]
      | false =>
        have ha2 : (K ++ [x]).any (fun x => ltS m.ts x.ts) = false := by rw [List.any_append, ha]; simp [hx]
        rw [ha2]
        have hxm : ltS x.ts m.ts = true := by
          rcases ltS_or (hn x (by simp)) with h9 | h9
          · exact h9
          · rw [hx] at h9; cases h9
        refine ⟨?_, fun _ => ?_⟩
        · unfold putStep
          rw [if_neg (by rw [hx]; simp)]
          simp
        · have i3 := i2 ha
          unfold insM at i3 ⊢
          rw [List.filter_append, List.filter_append]
          have hK1 : K.filter (fun y => ltS y.ts m.ts) = K := List.filter_eq_self.2 fun y hy => by
            rcases ltS_or (hnK y hy) with h9 | h9
            · exact h9
            · have := List.any_eq_false.1 ha y hy; rw [h9] at this; simp at this
          have hK2 : K.filter (fun y => ltS m.ts y.ts) = [] := List.filter_eq_nil_iff.2 fun y hy => by simpa using List.any_eq_false.1 ha y hy
          rw [hK1, hK2]
          simp [hx, hxm]
theorem putTo_len (m : Mv) (L : List Mv) : (putTo m L).1.length ≤ L.length + 1 := by
  suffices h : ∀ (L : List Mv) (p : List Mv × Bool), (L.foldl (putStep m) p).1.length ≤ p.1.length + L.length + (if p.2 then 0 else 1) by
    have h9 := h L ([], false)
    unfold putTo
    simpa using h9
  intro L
  induction L with
  | nil => intro p; simp
  | cons x L ih =>
    intro p
    rw [List.foldl_cons]
    have h1 := ih (putStep m p x)
    unfold putStep at h1 ⊢
    split at h1
    · rename_i hc
      rw [if_pos hc, hc.1]
      simp at h1 ⊢
      omega
    · rename_i hc
      rw [if_neg hc]
      simp at h1 ⊢
      omega
theorem ownE_empty {α : Type} {enc : α → List Value} {n : Nat} {T : TypeId} (w : World) (B : Nat) (hB : B ≤ w.heap.size) : OwnE enc n T B (w.alloc (.cells #[] T)) (.slice (some ⟨w.heap.size, 0, none⟩) 0 0) ([] : List α) :=
  World.ownsRow_made w #[] 0 hB (by unfold maxLen; omega) (by simp [flatE])
/-- What Put answers. -/
def PutP (L : List Mv) (m : Mv) (v : Value) (w : World) (e : Ending) (w' : World) : Prop := (hasM L m.ts = true ∧ e = .returned (.tuple #[v, .bool false]) ∧ Below w.heap.size w w') ∨ (hasM L m.ts = false ∧ ∃ v', e = .returned (.tuple #[v', .bool true]) ∧ OwnE mcCells 7 55 w.heap.size w' v' (fl (insM L m)) ∧ Below w.heap.size w w')

set_option maxRecDepth 100000 in
set_option maxHeartbeats 8000000 in
theorem refPut_any (G : Nat → Prop) (v : Value) (L : List Mv) (m : Mv) (w : World) (h : LsE mcCells 7 G w v (fl L)) (hs : SrtM L) (hl : L.length ≤ 4096) :
    Calls Try.prog 58 #[v, .agg (mcCells (m, false)).toArray] w fun e w' => PutP L m v w e w' := by
  obtain ⟨imc, himc, hz0mc, hz1mc, hz2mc⟩ := info_parts infoMc
  obtain ⟨W0, eW0⟩ : ∃ X, X = w.alloc (.cells (mcCells (m, false)).toArray 55) := ⟨_, rfl⟩
  have hb0 : Below w.heap.size w W0 := by rw [eW0]; exact (Below.refl _ _).alloc (Nat.le_refl _) _
  have hr1 : W0.heap[w.heap.size]? = some (.cells (mcCells (m, false)).toArray 55) := by rw [eW0]; exact heap_alloc_new _ _
  obtain ⟨W2, eW2⟩ : ∃ X, X = W0.alloc (.cells #[] 55) := ⟨_, rfl⟩
  have hb2 : Below W0.heap.size W0 W2 := by rw [eW2]; exact (Below.refl _ _).alloc (Nat.le_refl _) _
  obtain ⟨bx, ebx⟩ : ∃ b, b = w.heap.size := ⟨_, rfl⟩
  have hr0 : W0.heap[bx]? = some (.cells (mcCells (m, false)).toArray 55) := by (rw [ebx]; exact hr1)
  have HBr : Hid (W0.heap[bx]? = some (.cells (mcCells (m, false)).toArray 55)) := hr0
  have HBl : Hid (bx < W0.heap.size) := row_lt hr0
  have HB0 : Hid (W0.cell? ⟨bx, 0, none⟩ = some (.int .i64 m.ts.1)) := by (show _ = _; rw [cell_of_row W0 _ 0 _ _ _ hr0]; rfl)
  have HB1 : Hid (W0.cell? ⟨bx, 1, none⟩ = some (.int .i64 m.ts.2)) := by (show _ = _; rw [cell_of_row W0 _ 1 _ _ _ hr0]; rfl)
  have HBe : Hid (Below w.heap.size w W0) := hb0
  have HLs0 : Hid (LsE mcCells 7 G W0 v (fl L)) := h.below hb0
  have HSr : Hid (SrtM L) := hs
  obtain ⟨a1, c1, e1⟩ := h.form
  rw [fl_length] at e1
  subst e1
  have HeW : Hid (W2 = (w.alloc (.cells (mcCells (m, false)).toArray 55)).alloc (.cells #[] 55)) := by (rw [eW2, eW0]; exact rfl)
  have HeS : Hid (W0.heap.size = w.heap.size + 1) := by (show _ = _; rw [eW0]; simp)
  have HeB : Hid (bx = w.heap.size) := ebx
  have HOw : Hid (BuS mcCells 7 55 W0 (.slice (some ⟨W0.heap.size, 0, none⟩) 0 0) (fl []) W2) := ⟨hb2, by (rw [eW2]; exact ownE_empty W0 _ (Nat.le_refl _))⟩
  clear h hs hb0 hr1 hb2 hr0 eW0 eW2 ebx
  go_enter Try.func58, Try.ntmps58
  go_wp2
  rw [← HeW.out, ← HeB.out]
  rw [HeS.out, ← HeB.out] at HOw
  clear HeW HeS
  go_loopw [6, 7, 8] (fun ov dv iv wr => ∃ (i : Nat) (D : List Mv) (dn : Bool), iv = .int .i64 (i : Int) ∧ dv = .bool dn ∧ i ≤ L.length ∧ Hid (∀ j (h : j < L.length), j < i → L[j].ts ≠ m.ts) ∧ Hid (putTo m (L.take i) = (D, dn)) ∧ Hid (BuS mcCells 7 55 W0 ov (fl D) wr)) (fun _ _ iv _ => L.length - (intOf iv).toNat)
  case atStart => exact ⟨0, [], false, rfl, rfl, Nat.zero_le _, fun j _ h => absurd h (Nat.not_lt_zero _), rfl, HOw⟩
  case round =>
    clear HOw
    obtain ⟨i, D, dn, rfl, rfl, hi, HNe, HDn, HBu⟩ := hrel
    obtain ⟨a0, c0, e0⟩ := HBu.out.own.form
    subst e0
    have hDl : (fl D).length ≤ i + 1 := by
      have h1 := putTo_len m (L.take i)
      rw [HDn.out] at h1
      have h2 := List.length_take_le i L
      rw [fl_length]
      simp only at h1
      omega
    by_cases hil : i < L.length
    · obtain ⟨b, o, cap, ev, hcap, hgb, hlt, hrow⟩ := HLs0.out.at (i := i) (by rw [fl_length]; exact hil)
      injection ev with ev1 ev2 ev3
      subst ev1
      subst ev3
      rw [fl_get hil] at hrow
      obtain ⟨x, ex⟩ : ∃ x, x = L[i] := ⟨_, rfl⟩
      rw [← ex] at hrow
      have HXe : Hid (x = L[i]) := ex
      have HXm : Hid (x ∈ L) := by (rw [ex]; exact List.getElem_mem _)
      have HX : Hid (W0.rangeAt b (o + i * 7) (mcCells (x, false))) := hrow
      have HGl : Hid (b < W0.heap.size) := hlt
      have HX0 : Hid (W0.cell? ⟨b, o + i * 7, none⟩ = some (.int .i64 x.ts.1)) := hrow 0 _ rfl
      have HX1 : Hid (W0.cell? ⟨b, o + i * 7 + 1, none⟩ = some (.int .i64 x.ts.2)) := hrow 1 _ rfl
      have k1 : (i : Int) < (L.length : Int) := by omega
      have k0 : (0 : Int) ≤ (i : Int) := by omega
      clear ex hrow hlt hgb HLs0 ev2
      go_wp2_with fail
      refine wp_region_held_drew (S := fun W' => Below W0.heap.size W0 W') (by kernel_rfl) HBu.out.bel.drew (fun hHeld => ?_)
      obtain ⟨Ua1u0, eW⟩ : ∃ X, X = wr.drew := ⟨_, rfl⟩
      have hb : Below wr.heap.size wr Ua1u0 := by rw [eW]; exact (Below.refl _ _).drew
      replace HBu : Hid (BuS mcCells 7 55 W0 (.slice a0 (fl D).length c0) (fl D) Ua1u0) := HBu.out.below hb
      rw [← eW] at hHeld ⊢
      clear eW hb
      refine tkW 0 (some 16) (v := ?_) ?_ hHeld ?_
      rotate_left
      · (intro ww _; go_simp; try with_reducible rfl)
      refine tkW 1 (some 17) (v := ?_) ?_ hHeld ?_
      rotate_left
      · (intro ww _; go_simp; try with_reducible rfl)
      refine tkW 2 (some 18) (v := ?_) ?_ hHeld ?_
      rotate_left
      · (intro ww hSw; (try dsimp only at hSw); have hbw := hSw; have b0 := (hbw.cell (p := ⟨bx, 0, none⟩) HBl.out).trans HB0.out; have b1 := (hbw.cell (p := ⟨bx, 1, none⟩) HBl.out).trans HB1.out; have r0 := (hbw.cell (p := ⟨b, o + i * 7, none⟩) HGl.out).trans HX0.out; have r1 := (hbw.cell (p := ⟨b, o + i * 7 + 1, none⟩) HGl.out).trans HX1.out; go_simp; try with_reducible rfl)
      refine tkW 3 (some 19) (v := ?_) ?_ hHeld ?_
      rotate_left
      · (intro ww _; go_simp; try with_reducible rfl)
      refine tkW 4 (some 20) (v := ?_) ?_ hHeld ?_
      rotate_left
      · (intro ww hSw; (try dsimp only at hSw); have hbw := hSw; have b0 := (hbw.cell (p := ⟨bx, 0, none⟩) HBl.out).trans HB0.out; have b1 := (hbw.cell (p := ⟨bx, 1, none⟩) HBl.out).trans HB1.out; have r0 := (hbw.cell (p := ⟨b, o + i * 7, none⟩) HGl.out).trans HX0.out; have r1 := (hbw.cell (p := ⟨b, o + i * 7 + 1, none⟩) HGl.out).trans HX1.out; go_simp; try with_reducible rfl)
      refine tkW 5 (some 21) (v := ?_) ?_ hHeld ?_
      rotate_left
      · (intro ww _; go_simp; try with_reducible rfl)
      refine tkW 6 (some 22) (v := ?_) ?_ hHeld ?_
      rotate_left
      · (intro ww hSw; (try dsimp only at hSw); have hbw := hSw; have b0 := (hbw.cell (p := ⟨bx, 0, none⟩) HBl.out).trans HB0.out; have b1 := (hbw.cell (p := ⟨bx, 1, none⟩) HBl.out).trans HB1.out; have r0 := (hbw.cell (p := ⟨b, o + i * 7, none⟩) HGl.out).trans HX0.out; have r1 := (hbw.cell (p := ⟨b, o + i * 7 + 1, none⟩) HGl.out).trans HX1.out; go_simp; try with_reducible rfl)
      refine tkW 7 (some 23) (v := .bool (decide ((x.ts.1, x.ts.2) = (m.ts.1, m.ts.2)))) ?_ hHeld ?_
      · (intro ww hSw; (try dsimp only at hSw); have hbw := hSw; have b0 := (hbw.cell (p := ⟨bx, 0, none⟩) HBl.out).trans HB0.out; have b1 := (hbw.cell (p := ⟨bx, 1, none⟩) HBl.out).trans HB1.out; have r0 := (hbw.cell (p := ⟨b, o + i * 7, none⟩) HGl.out).trans HX0.out; have r1 := (hbw.cell (p := ⟨b, o + i * 7 + 1, none⟩) HGl.out).trans HX1.out; go_simp; by_cases e1 : x.ts.1 = m.ts.1 <;> by_cases e2 : x.ts.2 = m.ts.2 <;> simp [e1, e2])
      refine wpAnyH_done (by kernel_rfl) ?_ _
      have HBu6 : Hid (BuS mcCells 7 55 W0 (.slice a0 (fl D).length c0) (fl D) Ua1u0) := HBu.out
      clear hHeld HBu
      by_cases hxm : x.ts = m.ts
      · have hxd : decide ((x.ts.1, x.ts.2) = (m.ts.1, m.ts.2)) = true := decide_eq_true hxm
        have HHas : Hid (hasM L m.ts = true) := hasM_iff.2 ⟨x, HXm.out, hxm⟩
        clear hxm
        rw [hxd]
        clear hxd
        go_wp2
        go_ret2
        exact .inl ⟨HHas.out, rfl, HBe.out.trans (HBu6.out.bel.mono HBe.out.size)⟩
      · have hxd : decide ((x.ts.1, x.ts.2) = (m.ts.1, m.ts.2)) = false := decide_eq_false hxm
        have HNe2 : Hid (∀ j (h : j < L.length), j < i + 1 → L[j].ts ≠ m.ts) := nexts HNe.out hil HXe.out hxm
        clear hxm
        rw [hxd]
        clear hxd
        obtain ⟨wr7, ewr⟩ : ∃ X, X = Ua1u0 := ⟨_, rfl⟩
        have HBu : Hid (BuS mcCells 7 55 W0 (.slice a0 (fl D).length c0) (fl D) wr7) := by (rw [ewr]; exact HBu6.out)
        rw [← ewr]
        clear ewr HBu6
        cases dn with
        | true =>
          have HDn2 : Hid (putTo m (L.take (i + 1)) = (D ++ [x], true)) := putTo_done HDn.out hil HXe.out
          go_wp2_with fail
          refine wp_region_held_drew (S := fun W' => Below W0.heap.size W0 W') (by kernel_rfl) HBu.out.bel.drew (fun hHeld => ?_)
          obtain ⟨Ub2u0, eW⟩ : ∃ X, X = wr7.drew := ⟨_, rfl⟩
          have hb : Below wr7.heap.size wr7 Ub2u0 := by rw [eW]; exact (Below.refl _ _).drew
          replace HBu : Hid (BuS mcCells 7 55 W0 (.slice a0 (fl D).length c0) (fl D) Ub2u0) := HBu.out.below hb
          rw [← eW] at hHeld ⊢
          clear eW hb
          refine tkW 0 (some 25) (v := ?_) ?_ hHeld ?_
          rotate_left
          · (intro ww _; go_simp; try with_reducible rfl)
          refine tkW 1 (some 26) (v := ?_) ?_ hHeld ?_
          rotate_left
          · (intro ww _; go_simp; try with_reducible rfl)
          refine tkW 2 (some 27) (v := ?_) ?_ hHeld ?_
          rotate_left
          · (intro ww _; go_simp; try with_reducible rfl)
          refine tkU 3 (some 28) hHeld ?_
          refine tkU 4 (some 29) hHeld ?_
          refine tkU 5 (some 30) hHeld ?_
          refine tkU 6 (some 31) hHeld ?_
          refine tkU 7 (some 32) hHeld ?_
          refine tkU 8 (some 33) hHeld ?_
          refine tkU 9 (some 34) hHeld ?_
          refine tkU 10 (some 35) hHeld ?_
          refine tkW 11 (some 36) (v := ?_) ?_ hHeld ?_
          rotate_left
          · (intro ww _; go_simp; try with_reducible rfl)
          refine wpAnyH_done (by kernel_rfl) ?_ _
          have HB7 : Hid (BuS mcCells 7 55 W0 (.slice a0 (fl D).length c0) (fl D) Ub2u0) := HBu.out
          clear hHeld HBu
          have hxr : Ub2u0.rangeAt b (o + i * 7) (mcCells (x, false)) := rangeAt_keep HX.out (HB7.out.bel.block _ HGl.out)
          have x0 : Ub2u0.cell? ⟨b, o + i * 7, none⟩ = some (.int .i64 x.ts.1) := hxr 0 _ rfl
          have x1 : Ub2u0.cell? ⟨b, o + i * 7 + 1, none⟩ = some (.int .i64 x.ts.2) := hxr 1 _ rfl
          have x2 : Ub2u0.cell? ⟨b, o + i * 7 + 2, none⟩ = some (.int .i64 x.nd.1) := hxr 2 _ rfl
          have x3 : Ub2u0.cell? ⟨b, o + i * 7 + 3, none⟩ = some (.int .i64 x.nd.2) := hxr 3 _ rfl
          have x4 : Ub2u0.cell? ⟨b, o + i * 7 + 4, none⟩ = some (.int .i64 x.pr.1) := hxr 4 _ rfl
          have x5 : Ub2u0.cell? ⟨b, o + i * 7 + 5, none⟩ = some (.int .i64 x.pr.2) := hxr 5 _ rfl
          have x6 : Ub2u0.cell? ⟨b, o + i * 7 + 6, none⟩ = some (.bool false) := hxr 6 _ rfl
          clear hxr
          have halq : Below Ub2u0.heap.size Ub2u0 (Ub2u0.alloc (.cells #[.int .i64 x.ts.1, .int .i64 x.ts.2, .int .i64 x.nd.1, .int .i64 x.nd.2, .int .i64 x.pr.1, .int .i64 x.pr.2, .bool false] 55)) := (Below.refl _ _).alloc (Nat.le_refl _) _
          have HBaq : Hid (BuS mcCells 7 55 W0 (.slice a0 (fl D).length c0) (fl D) (Ub2u0.alloc (.cells #[.int .i64 x.ts.1, .int .i64 x.ts.2, .int .i64 x.nd.1, .int .i64 x.nd.2, .int .i64 x.pr.1, .int .i64 x.pr.2, .bool false] 55))) := HB7.out.below halq
          have HNwq : Hid (∀ j u, ([.int .i64 x.ts.1, .int .i64 x.ts.2, .int .i64 x.nd.1, .int .i64 x.nd.2, .int .i64 x.pr.1, .int .i64 x.pr.2, .bool false] : List Value)[j]? = some u → (Ub2u0.alloc (.cells #[.int .i64 x.ts.1, .int .i64 x.ts.2, .int .i64 x.nd.1, .int .i64 x.nd.2, .int .i64 x.pr.1, .int .i64 x.pr.2, .bool false] 55)).cell? ((⟨Ub2u0.heap.size, 0, none⟩ : Addr).add j) = some u) := fun j u hj => (by rw [Addr.add_lit, cell_of_row _ _ _ _ _ _ (heap_alloc_new Ub2u0 _)]; simpa using hj)
          have hszq : W0.heap.size ≤ (Ub2u0.alloc (.cells #[.int .i64 x.ts.1, .int .i64 x.ts.2, .int .i64 x.nd.1, .int .i64 x.nd.2, .int .i64 x.pr.1, .int .i64 x.pr.2, .bool false] 55)).heap.size := HBaq.out.bel.size
          clear halq
          go_wp2_with (at_builtin; refine wpList_append_own_at _ rfl _ _ 25 rfl W0.heap.size 55 imc (.agg #[.int .i64 0, .int .i64 0, .int .i64 0, .int .i64 0, .int .i64 0, .int .i64 0, .bool false]) 7 56 Try.underlying25 himc hz0mc hz1mc hz2mc rfl (by decide) _ _ _ rfl HBaq.out.own ⟨Ub2u0.heap.size, 0, none⟩ 1 1 [.int .i64 x.ts.1, .int .i64 x.ts.2, .int .i64 x.nd.1, .int .i64 x.nd.2, .int .i64 x.pr.1, .int .i64 x.pr.2, .bool false] rfl rfl HNwq.out (mcCells_one (x, false)) (by unfold maxLen; omega) (by omega) hszq ?_; intro v3 w9 hown3 hgrow3 hnil3 hat3; obtain ⟨gq, cq, e3⟩ := own_succ hown3; subst e3; have HB9 : Hid (BuS mcCells 7 55 W0 (.slice (some ⟨gq, 0, none⟩) ((fl D).length + 1) cq) (fl D ++ [(x, false)]) w9) := HBaq.out.push hown3 hgrow3; clear hown3 hgrow3 hnil3 hat3 HBaq HNwq hszq; clear x0 x1 x2 x3 x4 x5 x6)
          go_roundw
          case rel => exact ⟨i + 1, D ++ [x], true, by go_num, rfl, by omega, HNe2, HDn2, by (have h9 := HB9; simp only [fl, List.map_append, List.map_cons, List.map_nil, List.length_append, List.length_cons, List.length_nil] at h9 ⊢; exact h9)⟩
          case measure => simp [intOf]; omega
        | false =>
          cases hls : ltS m.ts x.ts with
          | true =>
            have HLs : Hid (lessS m.ts.1 m.ts.2 x.ts.1 x.ts.2 = true) := hls
            have HDn2 : Hid (putTo m (L.take (i + 1)) = (D ++ [m] ++ [x], true)) := putTo_in HDn.out hil HXe.out hls
            clear hls
            go_wp2_with fail
            refine wp_region_held_drew (S := fun W' => Below W0.heap.size W0 W') (by kernel_rfl) HBu.out.bel.drew (fun hHeld => ?_)
            obtain ⟨Ub3u0, eW⟩ : ∃ X, X = wr7.drew := ⟨_, rfl⟩
            have hb : Below wr7.heap.size wr7 Ub3u0 := by rw [eW]; exact (Below.refl _ _).drew
            replace HBu : Hid (BuS mcCells 7 55 W0 (.slice a0 (fl D).length c0) (fl D) Ub3u0) := HBu.out.below hb
            rw [← eW] at hHeld ⊢
            clear eW hb
            refine tkW 0 (some 25) (v := ?_) ?_ hHeld ?_
            rotate_left
            · (intro ww _; go_simp; try with_reducible rfl)
            refine tkW 1 (some 26) (v := ?_) ?_ hHeld ?_
            rotate_left
            · (intro ww _; go_simp; try with_reducible rfl)
            refine tkW 2 (some 27) (v := ?_) ?_ hHeld ?_
            rotate_left
            · (intro ww _; go_simp; try with_reducible rfl)
            refine tkW 3 (some 28) (v := ?_) ?_ hHeld ?_
            rotate_left
            · (intro ww _; go_simp; try with_reducible rfl)
            refine tkW 4 (some 29) (v := ?_) ?_ hHeld ?_
            rotate_left
            · (intro ww hSw; (try dsimp only at hSw); have hbw := hSw; have b0 := (hbw.cell (p := ⟨bx, 0, none⟩) HBl.out).trans HB0.out; have b1 := (hbw.cell (p := ⟨bx, 1, none⟩) HBl.out).trans HB1.out; have r0 := (hbw.cell (p := ⟨b, o + i * 7, none⟩) HGl.out).trans HX0.out; have r1 := (hbw.cell (p := ⟨b, o + i * 7 + 1, none⟩) HGl.out).trans HX1.out; go_simp; try with_reducible rfl)
            refine tkW 5 (some 30) (v := ?_) ?_ hHeld ?_
            rotate_left
            · (intro ww _; go_simp; try with_reducible rfl)
            refine tkW 6 (some 31) (v := ?_) ?_ hHeld ?_
            rotate_left
            · (intro ww _; go_simp; try with_reducible rfl)
            refine tkW 7 (some 32) (v := ?_) ?_ hHeld ?_
            rotate_left
            · (intro ww hSw; (try dsimp only at hSw); have hbw := hSw; have b0 := (hbw.cell (p := ⟨bx, 0, none⟩) HBl.out).trans HB0.out; have b1 := (hbw.cell (p := ⟨bx, 1, none⟩) HBl.out).trans HB1.out; have r0 := (hbw.cell (p := ⟨b, o + i * 7, none⟩) HGl.out).trans HX0.out; have r1 := (hbw.cell (p := ⟨b, o + i * 7 + 1, none⟩) HGl.out).trans HX1.out; go_simp; try with_reducible rfl)
            refine tkW 8 (some 33) (v := ?_) ?_ hHeld ?_
            rotate_left
            · (intro ww _; go_simp; try with_reducible rfl)
            refine tkW 9 (some 34) (v := ?_) ?_ hHeld ?_
            rotate_left
            · (intro ww hSw; (try dsimp only at hSw); have hbw := hSw; have b0 := (hbw.cell (p := ⟨bx, 0, none⟩) HBl.out).trans HB0.out; have b1 := (hbw.cell (p := ⟨bx, 1, none⟩) HBl.out).trans HB1.out; have r0 := (hbw.cell (p := ⟨b, o + i * 7, none⟩) HGl.out).trans HX0.out; have r1 := (hbw.cell (p := ⟨b, o + i * 7 + 1, none⟩) HGl.out).trans HX1.out; go_simp; try with_reducible rfl)
            refine wpAnyH_ready (rs := [10]) (by kernel_rfl) (by simp) ?_
            refine AllReadyH.cons (o := ⟨some 35, _, _, _, _, _⟩) rfl (fun K hK => ?_) AllReadyH.nil
            go_simp
            refine (refLess_bel _ _ _ _ _).mono ?_
            rintro e Ub3u1 ⟨rfl, hb⟩
            (try go_wp2_with fail)
            replace HBu : Hid (BuS mcCells 7 55 W0 (.slice a0 (fl D).length c0) (fl D) Ub3u1) := HBu.out.below hb
            rw [show lessS m.ts.1 m.ts.2 x.ts.1 x.ts.2 = true from HLs.out]
            refine hK.out _ _ (hHeld.trans (hb.mono hHeld.size)) (fun hHeld2 => ?_)
            clear hK K hHeld
            have hHeld := hHeld2
            clear hHeld2
            (try simp only [Act.put, List.setIfInBounds_toArray, List.set_cons_zero, List.set_cons_succ])
            clear hb
            refine tkW 11 (some 36) (v := ?_) ?_ hHeld ?_
            rotate_left
            · (intro ww _; go_simp; try with_reducible rfl)
            refine wpAnyH_done (by kernel_rfl) ?_ _
            have HB7 : Hid (BuS mcCells 7 55 W0 (.slice a0 (fl D).length c0) (fl D) Ub3u1) := HBu.out
            clear hHeld HBu
            have m0 : Ub3u1.cell? ⟨bx, 0, none⟩ = some (.int .i64 m.ts.1) := by rw [cell_of_row Ub3u1 bx 0 _ _ _ ((HB7.out.bel.block _ HBl.out).trans HBr.out)]; rfl
            have m1 : Ub3u1.cell? ⟨bx, 1, none⟩ = some (.int .i64 m.ts.2) := by rw [cell_of_row Ub3u1 bx 1 _ _ _ ((HB7.out.bel.block _ HBl.out).trans HBr.out)]; rfl
            have m2 : Ub3u1.cell? ⟨bx, 2, none⟩ = some (.int .i64 m.nd.1) := by rw [cell_of_row Ub3u1 bx 2 _ _ _ ((HB7.out.bel.block _ HBl.out).trans HBr.out)]; rfl
            have m3 : Ub3u1.cell? ⟨bx, 3, none⟩ = some (.int .i64 m.nd.2) := by rw [cell_of_row Ub3u1 bx 3 _ _ _ ((HB7.out.bel.block _ HBl.out).trans HBr.out)]; rfl
            have m4 : Ub3u1.cell? ⟨bx, 4, none⟩ = some (.int .i64 m.pr.1) := by rw [cell_of_row Ub3u1 bx 4 _ _ _ ((HB7.out.bel.block _ HBl.out).trans HBr.out)]; rfl
            have m5 : Ub3u1.cell? ⟨bx, 5, none⟩ = some (.int .i64 m.pr.2) := by rw [cell_of_row Ub3u1 bx 5 _ _ _ ((HB7.out.bel.block _ HBl.out).trans HBr.out)]; rfl
            have m6 : Ub3u1.cell? ⟨bx, 6, none⟩ = some (.bool false) := by rw [cell_of_row Ub3u1 bx 6 _ _ _ ((HB7.out.bel.block _ HBl.out).trans HBr.out)]; rfl
            have halp : Below Ub3u1.heap.size Ub3u1 (Ub3u1.alloc (.cells #[.int .i64 m.ts.1, .int .i64 m.ts.2, .int .i64 m.nd.1, .int .i64 m.nd.2, .int .i64 m.pr.1, .int .i64 m.pr.2, .bool false] 55)) := (Below.refl _ _).alloc (Nat.le_refl _) _
            have HBap : Hid (BuS mcCells 7 55 W0 (.slice a0 (fl D).length c0) (fl D) (Ub3u1.alloc (.cells #[.int .i64 m.ts.1, .int .i64 m.ts.2, .int .i64 m.nd.1, .int .i64 m.nd.2, .int .i64 m.pr.1, .int .i64 m.pr.2, .bool false] 55))) := HB7.out.below halp
            have HNwp : Hid (∀ j u, ([.int .i64 m.ts.1, .int .i64 m.ts.2, .int .i64 m.nd.1, .int .i64 m.nd.2, .int .i64 m.pr.1, .int .i64 m.pr.2, .bool false] : List Value)[j]? = some u → (Ub3u1.alloc (.cells #[.int .i64 m.ts.1, .int .i64 m.ts.2, .int .i64 m.nd.1, .int .i64 m.nd.2, .int .i64 m.pr.1, .int .i64 m.pr.2, .bool false] 55)).cell? ((⟨Ub3u1.heap.size, 0, none⟩ : Addr).add j) = some u) := fun j u hj => (by rw [Addr.add_lit, cell_of_row _ _ _ _ _ _ (heap_alloc_new Ub3u1 _)]; simpa using hj)
            have hszp : W0.heap.size ≤ (Ub3u1.alloc (.cells #[.int .i64 m.ts.1, .int .i64 m.ts.2, .int .i64 m.nd.1, .int .i64 m.nd.2, .int .i64 m.pr.1, .int .i64 m.pr.2, .bool false] 55)).heap.size := HBap.out.bel.size
            clear halp
            go_wp2_with (first
              | (at_builtin; refine wpList_append_own_at _ rfl _ _ 25 rfl W0.heap.size 55 imc (.agg #[.int .i64 0, .int .i64 0, .int .i64 0, .int .i64 0, .int .i64 0, .int .i64 0, .bool false]) 7 56 Try.underlying25 himc hz0mc hz1mc hz2mc rfl (by decide) _ _ _ rfl HBap.out.own ⟨Ub3u1.heap.size, 0, none⟩ 1 1 [.int .i64 m.ts.1, .int .i64 m.ts.2, .int .i64 m.nd.1, .int .i64 m.nd.2, .int .i64 m.pr.1, .int .i64 m.pr.2, .bool false] rfl rfl HNwp.out (mcCells_one (m, false)) (by unfold maxLen; omega) (by omega) hszp ?_; intro v3 w8 hown3 hgrow3 hnil3 hat3; obtain ⟨gp, cp, e3⟩ := own_succ hown3; subst e3; have HB8 : Hid (BuS mcCells 7 55 W0 (.slice (some ⟨gp, 0, none⟩) ((fl D).length + 1) cp) (fl D ++ [(m, false)]) w8) := HBap.out.push hown3 hgrow3; clear hown3 hgrow3 hnil3 hat3 HBap HNwp hszp; clear m0 m1 m2 m3 m4 m5 m6; have hEl : (fl D ++ [(m, false)]).length ≤ 4098 := (by simp only [List.length_append, List.length_cons, List.length_nil]; omega); have hxr : w8.rangeAt b (o + i * 7) (mcCells (x, false)) := rangeAt_keep HX.out (HB8.out.bel.block _ HGl.out); have x0 : w8.cell? ⟨b, o + i * 7, none⟩ = some (.int .i64 x.ts.1) := hxr 0 _ rfl; have x1 : w8.cell? ⟨b, o + i * 7 + 1, none⟩ = some (.int .i64 x.ts.2) := hxr 1 _ rfl; have x2 : w8.cell? ⟨b, o + i * 7 + 2, none⟩ = some (.int .i64 x.nd.1) := hxr 2 _ rfl; have x3 : w8.cell? ⟨b, o + i * 7 + 3, none⟩ = some (.int .i64 x.nd.2) := hxr 3 _ rfl; have x4 : w8.cell? ⟨b, o + i * 7 + 4, none⟩ = some (.int .i64 x.pr.1) := hxr 4 _ rfl; have x5 : w8.cell? ⟨b, o + i * 7 + 5, none⟩ = some (.int .i64 x.pr.2) := hxr 5 _ rfl; have x6 : w8.cell? ⟨b, o + i * 7 + 6, none⟩ = some (.bool false) := hxr 6 _ rfl; clear hxr; have halq : Below w8.heap.size w8 (w8.alloc (.cells #[.int .i64 x.ts.1, .int .i64 x.ts.2, .int .i64 x.nd.1, .int .i64 x.nd.2, .int .i64 x.pr.1, .int .i64 x.pr.2, .bool false] 55)) := (Below.refl _ _).alloc (Nat.le_refl _) _; have HBaq : Hid (BuS mcCells 7 55 W0 (.slice (some ⟨gp, 0, none⟩) ((fl D).length + 1) cp) (fl D ++ [(m, false)]) (w8.alloc (.cells #[.int .i64 x.ts.1, .int .i64 x.ts.2, .int .i64 x.nd.1, .int .i64 x.nd.2, .int .i64 x.pr.1, .int .i64 x.pr.2, .bool false] 55))) := HB8.out.below halq; have HNwq : Hid (∀ j u, ([.int .i64 x.ts.1, .int .i64 x.ts.2, .int .i64 x.nd.1, .int .i64 x.nd.2, .int .i64 x.pr.1, .int .i64 x.pr.2, .bool false] : List Value)[j]? = some u → (w8.alloc (.cells #[.int .i64 x.ts.1, .int .i64 x.ts.2, .int .i64 x.nd.1, .int .i64 x.nd.2, .int .i64 x.pr.1, .int .i64 x.pr.2, .bool false] 55)).cell? ((⟨w8.heap.size, 0, none⟩ : Addr).add j) = some u) := fun j u hj => (by rw [Addr.add_lit, cell_of_row _ _ _ _ _ _ (heap_alloc_new w8 _)]; simpa using hj); have hszq : W0.heap.size ≤ (w8.alloc (.cells #[.int .i64 x.ts.1, .int .i64 x.ts.2, .int .i64 x.nd.1, .int .i64 x.nd.2, .int .i64 x.pr.1, .int .i64 x.pr.2, .bool false] 55)).heap.size := HBaq.out.bel.size; clear halq)
              | (at_builtin; refine wpList_append_own_at _ rfl _ _ 25 rfl W0.heap.size 55 imc (.agg #[.int .i64 0, .int .i64 0, .int .i64 0, .int .i64 0, .int .i64 0, .int .i64 0, .bool false]) 7 56 Try.underlying25 himc hz0mc hz1mc hz2mc rfl (by decide) _ _ _ rfl HBaq.out.own ⟨w8.heap.size, 0, none⟩ 1 1 [.int .i64 x.ts.1, .int .i64 x.ts.2, .int .i64 x.nd.1, .int .i64 x.nd.2, .int .i64 x.pr.1, .int .i64 x.pr.2, .bool false] rfl rfl HNwq.out (mcCells_one (x, false)) (by unfold maxLen; omega) (by omega) hszq ?_; intro v3 w9 hown3 hgrow3 hnil3 hat3; obtain ⟨gq, cq, e3⟩ := own_succ hown3; subst e3; have HB9 : Hid (BuS mcCells 7 55 W0 (.slice (some ⟨gq, 0, none⟩) ((fl D ++ [(m, false)]).length + 1) cq) (fl D ++ [(m, false)] ++ [(x, false)]) w9) := HBaq.out.push hown3 hgrow3; clear hown3 hgrow3 hnil3 hat3 HBaq HNwq hszq; clear x0 x1 x2 x3 x4 x5 x6))
            go_roundw
            case rel => exact ⟨i + 1, D ++ [m] ++ [x], true, by go_num, rfl, by omega, HNe2, HDn2, by (have h9 := HB9; simp only [fl, List.map_append, List.map_cons, List.map_nil, List.length_append, List.length_cons, List.length_nil] at h9 ⊢; exact h9)⟩
            case measure => simp [intOf]; omega
          | false =>
            have HLs : Hid (lessS m.ts.1 m.ts.2 x.ts.1 x.ts.2 = false) := hls
            have HDn2 : Hid (putTo m (L.take (i + 1)) = (D ++ [x], false)) := putTo_on HDn.out hil HXe.out hls
            clear hls
            go_wp2_with fail
            refine wp_region_held_drew (S := fun W' => Below W0.heap.size W0 W') (by kernel_rfl) HBu.out.bel.drew (fun hHeld => ?_)
            obtain ⟨Ub4u0, eW⟩ : ∃ X, X = wr7.drew := ⟨_, rfl⟩
            have hb : Below wr7.heap.size wr7 Ub4u0 := by rw [eW]; exact (Below.refl _ _).drew
            replace HBu : Hid (BuS mcCells 7 55 W0 (.slice a0 (fl D).length c0) (fl D) Ub4u0) := HBu.out.below hb
            rw [← eW] at hHeld ⊢
            clear eW hb
            refine tkW 0 (some 25) (v := ?_) ?_ hHeld ?_
            rotate_left
            · (intro ww _; go_simp; try with_reducible rfl)
            refine tkW 1 (some 26) (v := ?_) ?_ hHeld ?_
            rotate_left
            · (intro ww _; go_simp; try with_reducible rfl)
            refine tkW 2 (some 27) (v := ?_) ?_ hHeld ?_
            rotate_left
            · (intro ww _; go_simp; try with_reducible rfl)
            refine tkW 3 (some 28) (v := ?_) ?_ hHeld ?_
            rotate_left
            · (intro ww _; go_simp; try with_reducible rfl)
            refine tkW 4 (some 29) (v := ?_) ?_ hHeld ?_
            rotate_left
            · (intro ww hSw; (try dsimp only at hSw); have hbw := hSw; have b0 := (hbw.cell (p := ⟨bx, 0, none⟩) HBl.out).trans HB0.out; have b1 := (hbw.cell (p := ⟨bx, 1, none⟩) HBl.out).trans HB1.out; have r0 := (hbw.cell (p := ⟨b, o + i * 7, none⟩) HGl.out).trans HX0.out; have r1 := (hbw.cell (p := ⟨b, o + i * 7 + 1, none⟩) HGl.out).trans HX1.out; go_simp; try with_reducible rfl)
            refine tkW 5 (some 30) (v := ?_) ?_ hHeld ?_
            rotate_left
            · (intro ww _; go_simp; try with_reducible rfl)
            refine tkW 6 (some 31) (v := ?_) ?_ hHeld ?_
            rotate_left
            · (intro ww _; go_simp; try with_reducible rfl)
            refine tkW 7 (some 32) (v := ?_) ?_ hHeld ?_
            rotate_left
            · (intro ww hSw; (try dsimp only at hSw); have hbw := hSw; have b0 := (hbw.cell (p := ⟨bx, 0, none⟩) HBl.out).trans HB0.out; have b1 := (hbw.cell (p := ⟨bx, 1, none⟩) HBl.out).trans HB1.out; have r0 := (hbw.cell (p := ⟨b, o + i * 7, none⟩) HGl.out).trans HX0.out; have r1 := (hbw.cell (p := ⟨b, o + i * 7 + 1, none⟩) HGl.out).trans HX1.out; go_simp; try with_reducible rfl)
            refine tkW 8 (some 33) (v := ?_) ?_ hHeld ?_
            rotate_left
            · (intro ww _; go_simp; try with_reducible rfl)
            refine tkW 9 (some 34) (v := ?_) ?_ hHeld ?_
            rotate_left
            · (intro ww hSw; (try dsimp only at hSw); have hbw := hSw; have b0 := (hbw.cell (p := ⟨bx, 0, none⟩) HBl.out).trans HB0.out; have b1 := (hbw.cell (p := ⟨bx, 1, none⟩) HBl.out).trans HB1.out; have r0 := (hbw.cell (p := ⟨b, o + i * 7, none⟩) HGl.out).trans HX0.out; have r1 := (hbw.cell (p := ⟨b, o + i * 7 + 1, none⟩) HGl.out).trans HX1.out; go_simp; try with_reducible rfl)
            refine wpAnyH_ready (rs := [10]) (by kernel_rfl) (by simp) ?_
            refine AllReadyH.cons (o := ⟨some 35, _, _, _, _, _⟩) rfl (fun K hK => ?_) AllReadyH.nil
            go_simp
            refine (refLess_bel _ _ _ _ _).mono ?_
            rintro e Ub4u1 ⟨rfl, hb⟩
            (try go_wp2_with fail)
            replace HBu : Hid (BuS mcCells 7 55 W0 (.slice a0 (fl D).length c0) (fl D) Ub4u1) := HBu.out.below hb
            rw [show lessS m.ts.1 m.ts.2 x.ts.1 x.ts.2 = false from HLs.out]
            refine hK.out _ _ (hHeld.trans (hb.mono hHeld.size)) (fun hHeld2 => ?_)
            clear hK K hHeld
            have hHeld := hHeld2
            clear hHeld2
            (try simp only [Act.put, List.setIfInBounds_toArray, List.set_cons_zero, List.set_cons_succ])
            clear hb
            refine tkW 11 (some 36) (v := ?_) ?_ hHeld ?_
            rotate_left
            · (intro ww _; go_simp; try with_reducible rfl)
            refine wpAnyH_done (by kernel_rfl) ?_ _
            have HB7 : Hid (BuS mcCells 7 55 W0 (.slice a0 (fl D).length c0) (fl D) Ub4u1) := HBu.out
            clear hHeld HBu
            have hxr : Ub4u1.rangeAt b (o + i * 7) (mcCells (x, false)) := rangeAt_keep HX.out (HB7.out.bel.block _ HGl.out)
            have x0 : Ub4u1.cell? ⟨b, o + i * 7, none⟩ = some (.int .i64 x.ts.1) := hxr 0 _ rfl
            have x1 : Ub4u1.cell? ⟨b, o + i * 7 + 1, none⟩ = some (.int .i64 x.ts.2) := hxr 1 _ rfl
            have x2 : Ub4u1.cell? ⟨b, o + i * 7 + 2, none⟩ = some (.int .i64 x.nd.1) := hxr 2 _ rfl
            have x3 : Ub4u1.cell? ⟨b, o + i * 7 + 3, none⟩ = some (.int .i64 x.nd.2) := hxr 3 _ rfl
            have x4 : Ub4u1.cell? ⟨b, o + i * 7 + 4, none⟩ = some (.int .i64 x.pr.1) := hxr 4 _ rfl
            have x5 : Ub4u1.cell? ⟨b, o + i * 7 + 5, none⟩ = some (.int .i64 x.pr.2) := hxr 5 _ rfl
            have x6 : Ub4u1.cell? ⟨b, o + i * 7 + 6, none⟩ = some (.bool false) := hxr 6 _ rfl
            clear hxr
            have halq : Below Ub4u1.heap.size Ub4u1 (Ub4u1.alloc (.cells #[.int .i64 x.ts.1, .int .i64 x.ts.2, .int .i64 x.nd.1, .int .i64 x.nd.2, .int .i64 x.pr.1, .int .i64 x.pr.2, .bool false] 55)) := (Below.refl _ _).alloc (Nat.le_refl _) _
            have HBaq : Hid (BuS mcCells 7 55 W0 (.slice a0 (fl D).length c0) (fl D) (Ub4u1.alloc (.cells #[.int .i64 x.ts.1, .int .i64 x.ts.2, .int .i64 x.nd.1, .int .i64 x.nd.2, .int .i64 x.pr.1, .int .i64 x.pr.2, .bool false] 55))) := HB7.out.below halq
            have HNwq : Hid (∀ j u, ([.int .i64 x.ts.1, .int .i64 x.ts.2, .int .i64 x.nd.1, .int .i64 x.nd.2, .int .i64 x.pr.1, .int .i64 x.pr.2, .bool false] : List Value)[j]? = some u → (Ub4u1.alloc (.cells #[.int .i64 x.ts.1, .int .i64 x.ts.2, .int .i64 x.nd.1, .int .i64 x.nd.2, .int .i64 x.pr.1, .int .i64 x.pr.2, .bool false] 55)).cell? ((⟨Ub4u1.heap.size, 0, none⟩ : Addr).add j) = some u) := fun j u hj => (by rw [Addr.add_lit, cell_of_row _ _ _ _ _ _ (heap_alloc_new Ub4u1 _)]; simpa using hj)
            have hszq : W0.heap.size ≤ (Ub4u1.alloc (.cells #[.int .i64 x.ts.1, .int .i64 x.ts.2, .int .i64 x.nd.1, .int .i64 x.nd.2, .int .i64 x.pr.1, .int .i64 x.pr.2, .bool false] 55)).heap.size := HBaq.out.bel.size
            clear halq
            go_wp2_with (at_builtin; refine wpList_append_own_at _ rfl _ _ 25 rfl W0.heap.size 55 imc (.agg #[.int .i64 0, .int .i64 0, .int .i64 0, .int .i64 0, .int .i64 0, .int .i64 0, .bool false]) 7 56 Try.underlying25 himc hz0mc hz1mc hz2mc rfl (by decide) _ _ _ rfl HBaq.out.own ⟨Ub4u1.heap.size, 0, none⟩ 1 1 [.int .i64 x.ts.1, .int .i64 x.ts.2, .int .i64 x.nd.1, .int .i64 x.nd.2, .int .i64 x.pr.1, .int .i64 x.pr.2, .bool false] rfl rfl HNwq.out (mcCells_one (x, false)) (by unfold maxLen; omega) (by omega) hszq ?_; intro v3 w9 hown3 hgrow3 hnil3 hat3; obtain ⟨gq, cq, e3⟩ := own_succ hown3; subst e3; have HB9 : Hid (BuS mcCells 7 55 W0 (.slice (some ⟨gq, 0, none⟩) ((fl D).length + 1) cq) (fl D ++ [(x, false)]) w9) := HBaq.out.push hown3 hgrow3; clear hown3 hgrow3 hnil3 hat3 HBaq HNwq hszq; clear x0 x1 x2 x3 x4 x5 x6)
            go_roundw
            case rel => exact ⟨i + 1, D ++ [x], false, by go_num, rfl, by omega, HNe2, HDn2, by (have h9 := HB9; simp only [fl, List.map_append, List.map_cons, List.map_nil, List.length_append, List.length_cons, List.length_nil] at h9 ⊢; exact h9)⟩
            case measure => simp [intOf]; omega
    · obtain rfl : i = L.length := by omega
      have HNa : Hid (hasM L m.ts = false) := by
        have h1 := HNe.out
        refine Bool.eq_false_iff.2 fun h => ?_
        obtain ⟨x, hx, hxm⟩ := hasM_iff.1 h
        obtain ⟨j, hj, rfl⟩ := List.mem_iff_getElem.1 hx
        exact h1 j hj hj hxm
      obtain ⟨hp1, hp2⟩ := putTo_ins m L HSr.out (fun x hx e => by have h9 := HNa.out; rw [hasM_iff.2 ⟨x, hx, e⟩] at h9; cases h9)
      rw [List.take_length, hp1] at HDn
      cases ha : L.any (fun x => ltS m.ts x.ts) with
      | true =>
        rw [ha, if_pos rfl] at HDn
        have h9 := HDn.out
        injection h9 with h8 h7
        subst h8
        subst h7
        clear HDn hp1 hp2 ha
        go_wp2
        go_ret2
        exact .inr ⟨HNa.out, _, rfl, HBu.out.own.low HBe.out.size, HBe.out.trans (HBu.out.bel.mono HBe.out.size)⟩
      | false =>
        have hp3 := hp2 ha
        rw [ha, if_neg (by simp)] at HDn
        have h9 := HDn.out
        injection h9 with h8 h7
        subst h8
        subst h7
        have HIn : Hid (insM L m = L ++ [m]) := hp3
        clear HDn hp1 hp2 hp3 ha
        have HB7 : Hid (BuS mcCells 7 55 W0 (.slice a0 (fl L).length c0) (fl L) wr) := HBu
        clear HBu
        have m0 : wr.cell? ⟨bx, 0, none⟩ = some (.int .i64 m.ts.1) := by rw [cell_of_row wr bx 0 _ _ _ ((HB7.out.bel.block _ HBl.out).trans HBr.out)]; rfl
        have m1 : wr.cell? ⟨bx, 1, none⟩ = some (.int .i64 m.ts.2) := by rw [cell_of_row wr bx 1 _ _ _ ((HB7.out.bel.block _ HBl.out).trans HBr.out)]; rfl
        have m2 : wr.cell? ⟨bx, 2, none⟩ = some (.int .i64 m.nd.1) := by rw [cell_of_row wr bx 2 _ _ _ ((HB7.out.bel.block _ HBl.out).trans HBr.out)]; rfl
        have m3 : wr.cell? ⟨bx, 3, none⟩ = some (.int .i64 m.nd.2) := by rw [cell_of_row wr bx 3 _ _ _ ((HB7.out.bel.block _ HBl.out).trans HBr.out)]; rfl
        have m4 : wr.cell? ⟨bx, 4, none⟩ = some (.int .i64 m.pr.1) := by rw [cell_of_row wr bx 4 _ _ _ ((HB7.out.bel.block _ HBl.out).trans HBr.out)]; rfl
        have m5 : wr.cell? ⟨bx, 5, none⟩ = some (.int .i64 m.pr.2) := by rw [cell_of_row wr bx 5 _ _ _ ((HB7.out.bel.block _ HBl.out).trans HBr.out)]; rfl
        have m6 : wr.cell? ⟨bx, 6, none⟩ = some (.bool false) := by rw [cell_of_row wr bx 6 _ _ _ ((HB7.out.bel.block _ HBl.out).trans HBr.out)]; rfl
        have halp : Below wr.heap.size wr (wr.alloc (.cells #[.int .i64 m.ts.1, .int .i64 m.ts.2, .int .i64 m.nd.1, .int .i64 m.nd.2, .int .i64 m.pr.1, .int .i64 m.pr.2, .bool false] 55)) := (Below.refl _ _).alloc (Nat.le_refl _) _
        have HBap : Hid (BuS mcCells 7 55 W0 (.slice a0 (fl L).length c0) (fl L) (wr.alloc (.cells #[.int .i64 m.ts.1, .int .i64 m.ts.2, .int .i64 m.nd.1, .int .i64 m.nd.2, .int .i64 m.pr.1, .int .i64 m.pr.2, .bool false] 55))) := HB7.out.below halp
        have HNwp : Hid (∀ j u, ([.int .i64 m.ts.1, .int .i64 m.ts.2, .int .i64 m.nd.1, .int .i64 m.nd.2, .int .i64 m.pr.1, .int .i64 m.pr.2, .bool false] : List Value)[j]? = some u → (wr.alloc (.cells #[.int .i64 m.ts.1, .int .i64 m.ts.2, .int .i64 m.nd.1, .int .i64 m.nd.2, .int .i64 m.pr.1, .int .i64 m.pr.2, .bool false] 55)).cell? ((⟨wr.heap.size, 0, none⟩ : Addr).add j) = some u) := fun j u hj => (by rw [Addr.add_lit, cell_of_row _ _ _ _ _ _ (heap_alloc_new wr _)]; simpa using hj)
        have hszp : W0.heap.size ≤ (wr.alloc (.cells #[.int .i64 m.ts.1, .int .i64 m.ts.2, .int .i64 m.nd.1, .int .i64 m.nd.2, .int .i64 m.pr.1, .int .i64 m.pr.2, .bool false] 55)).heap.size := HBap.out.bel.size
        clear halp
        go_wp2_with (at_builtin; refine wpList_append_own_at _ rfl _ _ 25 rfl W0.heap.size 55 imc (.agg #[.int .i64 0, .int .i64 0, .int .i64 0, .int .i64 0, .int .i64 0, .int .i64 0, .bool false]) 7 56 Try.underlying25 himc hz0mc hz1mc hz2mc rfl (by decide) _ _ _ rfl HBap.out.own ⟨wr.heap.size, 0, none⟩ 1 1 [.int .i64 m.ts.1, .int .i64 m.ts.2, .int .i64 m.nd.1, .int .i64 m.nd.2, .int .i64 m.pr.1, .int .i64 m.pr.2, .bool false] rfl rfl HNwp.out (mcCells_one (m, false)) (by unfold maxLen; omega) (by omega) hszp ?_; intro v3 w8 hown3 hgrow3 hnil3 hat3; obtain ⟨gp, cp, e3⟩ := own_succ hown3; subst e3; have HB8 : Hid (BuS mcCells 7 55 W0 (.slice (some ⟨gp, 0, none⟩) ((fl L).length + 1) cp) (fl L ++ [(m, false)]) w8) := HBap.out.push hown3 hgrow3; clear hown3 hgrow3 hnil3 hat3 HBap HNwp hszp; clear m0 m1 m2 m3 m4 m5 m6)
        go_ret2
        exact .inr ⟨HNa.out, _, rfl, by (have h9 := HB8.out.own; rw [HIn.out]; simp only [fl, List.map_append, List.map_cons, List.map_nil, List.length_map] at h9 ⊢; exact h9.low HBe.out.size), HBe.out.trans (HB8.out.bel.mono HBe.out.size)⟩

end Go.Proofs.Ytljepindfdhbbaa
