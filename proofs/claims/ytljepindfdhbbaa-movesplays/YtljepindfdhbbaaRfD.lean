/- The document's Same of lists that are equal; what a newest move does. -/
import Derived.Test.YtljepindfdhbbaaRfC
import Derived.Test.YtljepindfdhbbaaSrtA
import Derived.Test.YtljepindfdhbbaaTrL
namespace Go.Proofs.Ytljepindfdhbbaa
open Go.RowKit
set_option linter.unusedVariables false
set_option linter.unusedSimpArgs false

theorem flat_st : ∀ D : List St, flatE stCells D = S.flat D
  | [] => rfl
  | x :: D => by rw [flatE_cons, flat_st D]; rfl
theorem OwnE.stS {B : Nat} {w : World} {v : Value} {D : List St} (h : OwnE stCells 2 27 B w v D) : S.OwnS B w v D := by
  have h2 : w.ownsRow B 27 2 v D.length (flatE stCells D) := h
  rw [flat_st] at h2
  exact h2
theorem row_touch {F : Nat → Prop} {W W' : World} {b : Nat} {o : Obj} (h : W.heap[b]? = some o) (ht : Touch F W W') (hn : ¬ F b) : W'.heap[b]? = some o := (ht.block b (row_lt h) hn).trans h
theorem LsE.did {α : Type} {enc : α → List Value} {n : Nat} {F F' : Nat → Prop} {W W' : World} {v : Value} {D : List α} (h : LsE enc n (fun j => ¬ F j) W v D) (hnew : ∀ k, F' k → F k ∨ W.heap.size ≤ k) (hto : Touch F W W') : LsE enc n (fun j => ¬ F' j) W' v D :=
  (h.lo.touch hto (fun k hk => hk.1)).mono fun k hk hF => (hnew k hF).elim hk.1 (fun h2 => by omega)

set_option maxRecDepth 100000 in
set_option maxHeartbeats 4000000 in
theorem same_eq (G1 G2 : Nat → Prop) (v1 v2 : Value) (D : List Pl) (w : World) (h1 : LsE plCells 6 G1 w v1 D) (h2 : LsE plCells 6 G2 w v2 D) :
    Calls Try.prog 24 #[v1, v2] w fun e w' => e = .returned (.bool true) ∧ Below w.heap.size w w' := by
  obtain ⟨a1, c1, e1⟩ := h1.form
  obtain ⟨a2, c2, e2⟩ := h2.form
  subst e1 e2
  have H1 : Hid (LsE plCells 6 G1 w (.slice a1 D.length c1) D) := h1
  have H2 : Hid (LsE plCells 6 G2 w (.slice a2 D.length c2) D) := h2
  have hlen := h1.len
  clear h1 h2
  go_enter Try.func24, Try.ntmps24
  go_wp2
  go_loopw [5] (fun iv wr => ∃ i : Nat, iv = .int .i64 (i : Int) ∧ i ≤ D.length ∧ Hid (Below w.heap.size w wr)) (fun iv _ => D.length - (intOf iv).toNat)
  case atStart => exact ⟨0, rfl, Nat.zero_le _, Below.refl _ _⟩
  case round =>
    obtain ⟨i, rfl, hi, HB⟩ := hrel
    by_cases hlt : i < D.length
    · obtain ⟨b, o, cap, ev, hcap, hgb, hbl, hrow⟩ := H1.out.at (i := i) hlt
      injection ev with ev1 ev2 ev3
      subst ev1
      subst ev3
      clear ev2
      obtain ⟨d, u, cap2, ev, hcap2, hgd, hdl, hrow2⟩ := H2.out.at (i := i) hlt
      injection ev with ev1 ev2 ev3
      subst ev1
      subst ev3
      clear ev2
      obtain ⟨x, ex⟩ : ∃ x, x = D[i] := ⟨_, rfl⟩
      rw [← ex] at hrow hrow2
      have HGb : Hid (b < w.heap.size) := hbl
      have HGd : Hid (d < w.heap.size) := hdl
      have HX0 : Hid (w.cell? ⟨b, o + i * 6, none⟩ = some (.int .i64 x.nd.1)) := hrow 0 _ rfl
      have HX1 : Hid (w.cell? ⟨b, o + i * 6 + 1, none⟩ = some (.int .i64 x.nd.2)) := hrow 1 _ rfl
      have HX2 : Hid (w.cell? ⟨b, o + i * 6 + 2, none⟩ = some (.int .i64 x.pr.1)) := hrow 2 _ rfl
      have HX3 : Hid (w.cell? ⟨b, o + i * 6 + 3, none⟩ = some (.int .i64 x.pr.2)) := hrow 3 _ rfl
      have HX4 : Hid (w.cell? ⟨b, o + i * 6 + 4, none⟩ = some (.int .i64 x.sl.1)) := hrow 4 _ rfl
      have HX5 : Hid (w.cell? ⟨b, o + i * 6 + 5, none⟩ = some (.int .i64 x.sl.2)) := hrow 5 _ rfl
      have HY0 : Hid (w.cell? ⟨d, u + i * 6, none⟩ = some (.int .i64 x.nd.1)) := hrow2 0 _ rfl
      have HY1 : Hid (w.cell? ⟨d, u + i * 6 + 1, none⟩ = some (.int .i64 x.nd.2)) := hrow2 1 _ rfl
      have HY2 : Hid (w.cell? ⟨d, u + i * 6 + 2, none⟩ = some (.int .i64 x.pr.1)) := hrow2 2 _ rfl
      have HY3 : Hid (w.cell? ⟨d, u + i * 6 + 3, none⟩ = some (.int .i64 x.pr.2)) := hrow2 3 _ rfl
      have HY4 : Hid (w.cell? ⟨d, u + i * 6 + 4, none⟩ = some (.int .i64 x.sl.1)) := hrow2 4 _ rfl
      have HY5 : Hid (w.cell? ⟨d, u + i * 6 + 5, none⟩ = some (.int .i64 x.sl.2)) := hrow2 5 _ rfl
      have k1 : (i : Int) < (D.length : Int) := by omega
      have k0 : (0 : Int) ≤ (i : Int) := by omega
      clear ex hrow hrow2 hbl hdl hgb hgd H1 H2
      go_wp2_with fail
      refine wp_region_held_drew (S := fun W' => Below w.heap.size w W') (by kernel_rfl) HB.out.drew (fun hHeld => ?_)
      obtain ⟨Ua1u0, eW⟩ : ∃ X, X = wr.drew := ⟨_, rfl⟩
      have hb : Below wr.heap.size wr Ua1u0 := by rw [eW]; exact (Below.refl _ _).drew
      rw [← eW] at hHeld ⊢
      clear eW hb
      refine tkW 0 (some 17) (v := ?_) ?_ hHeld ?_
      rotate_left
      · (intro ww _; go_simp; try with_reducible rfl)
      refine tkW 1 (some 18) (v := ?_) ?_ hHeld ?_
      rotate_left
      · (intro ww _; go_simp; try with_reducible rfl)
      refine tkW 2 (some 19) (v := ?_) ?_ hHeld ?_
      rotate_left
      · (intro ww hSw; (try dsimp only at hSw); have hbw := hSw; have r0 := (hbw.cell (p := ⟨b, o + i * 6, none⟩) HGb.out).trans HX0.out; have q0 := (hbw.cell (p := ⟨d, u + i * 6, none⟩) HGd.out).trans HY0.out; have r1 := (hbw.cell (p := ⟨b, o + i * 6 + 1, none⟩) HGb.out).trans HX1.out; have q1 := (hbw.cell (p := ⟨d, u + i * 6 + 1, none⟩) HGd.out).trans HY1.out; have r2 := (hbw.cell (p := ⟨b, o + i * 6 + 2, none⟩) HGb.out).trans HX2.out; have q2 := (hbw.cell (p := ⟨d, u + i * 6 + 2, none⟩) HGd.out).trans HY2.out; have r3 := (hbw.cell (p := ⟨b, o + i * 6 + 3, none⟩) HGb.out).trans HX3.out; have q3 := (hbw.cell (p := ⟨d, u + i * 6 + 3, none⟩) HGd.out).trans HY3.out; have r4 := (hbw.cell (p := ⟨b, o + i * 6 + 4, none⟩) HGb.out).trans HX4.out; have q4 := (hbw.cell (p := ⟨d, u + i * 6 + 4, none⟩) HGd.out).trans HY4.out; have r5 := (hbw.cell (p := ⟨b, o + i * 6 + 5, none⟩) HGb.out).trans HX5.out; have q5 := (hbw.cell (p := ⟨d, u + i * 6 + 5, none⟩) HGd.out).trans HY5.out; go_simp; try with_reducible rfl)
      refine tkW 3 (some 20) (v := .agg #[.int .i64 x.nd.1, .int .i64 x.nd.2, .int .i64 x.pr.1, .int .i64 x.pr.2, .int .i64 x.sl.1, .int .i64 x.sl.2]) ?_ hHeld ?_
      · (intro ww hSw; (try dsimp only at hSw); have hbw := hSw; have r0 := (hbw.cell (p := ⟨b, o + i * 6, none⟩) HGb.out).trans HX0.out; have q0 := (hbw.cell (p := ⟨d, u + i * 6, none⟩) HGd.out).trans HY0.out; have r1 := (hbw.cell (p := ⟨b, o + i * 6 + 1, none⟩) HGb.out).trans HX1.out; have q1 := (hbw.cell (p := ⟨d, u + i * 6 + 1, none⟩) HGd.out).trans HY1.out; have r2 := (hbw.cell (p := ⟨b, o + i * 6 + 2, none⟩) HGb.out).trans HX2.out; have q2 := (hbw.cell (p := ⟨d, u + i * 6 + 2, none⟩) HGd.out).trans HY2.out; have r3 := (hbw.cell (p := ⟨b, o + i * 6 + 3, none⟩) HGb.out).trans HX3.out; have q3 := (hbw.cell (p := ⟨d, u + i * 6 + 3, none⟩) HGd.out).trans HY3.out; have r4 := (hbw.cell (p := ⟨b, o + i * 6 + 4, none⟩) HGb.out).trans HX4.out; have q4 := (hbw.cell (p := ⟨d, u + i * 6 + 4, none⟩) HGd.out).trans HY4.out; have r5 := (hbw.cell (p := ⟨b, o + i * 6 + 5, none⟩) HGb.out).trans HX5.out; have q5 := (hbw.cell (p := ⟨d, u + i * 6 + 5, none⟩) HGd.out).trans HY5.out; go_simp; try with_reducible rfl)
      refine tkW 4 (some 21) (v := ?_) ?_ hHeld ?_
      rotate_left
      · (intro ww _; go_simp; try with_reducible rfl)
      refine tkW 5 (some 22) (v := ?_) ?_ hHeld ?_
      rotate_left
      · (intro ww _; go_simp; try with_reducible rfl)
      refine tkW 6 (some 23) (v := ?_) ?_ hHeld ?_
      rotate_left
      · (intro ww hSw; (try dsimp only at hSw); have hbw := hSw; have r0 := (hbw.cell (p := ⟨b, o + i * 6, none⟩) HGb.out).trans HX0.out; have q0 := (hbw.cell (p := ⟨d, u + i * 6, none⟩) HGd.out).trans HY0.out; have r1 := (hbw.cell (p := ⟨b, o + i * 6 + 1, none⟩) HGb.out).trans HX1.out; have q1 := (hbw.cell (p := ⟨d, u + i * 6 + 1, none⟩) HGd.out).trans HY1.out; have r2 := (hbw.cell (p := ⟨b, o + i * 6 + 2, none⟩) HGb.out).trans HX2.out; have q2 := (hbw.cell (p := ⟨d, u + i * 6 + 2, none⟩) HGd.out).trans HY2.out; have r3 := (hbw.cell (p := ⟨b, o + i * 6 + 3, none⟩) HGb.out).trans HX3.out; have q3 := (hbw.cell (p := ⟨d, u + i * 6 + 3, none⟩) HGd.out).trans HY3.out; have r4 := (hbw.cell (p := ⟨b, o + i * 6 + 4, none⟩) HGb.out).trans HX4.out; have q4 := (hbw.cell (p := ⟨d, u + i * 6 + 4, none⟩) HGd.out).trans HY4.out; have r5 := (hbw.cell (p := ⟨b, o + i * 6 + 5, none⟩) HGb.out).trans HX5.out; have q5 := (hbw.cell (p := ⟨d, u + i * 6 + 5, none⟩) HGd.out).trans HY5.out; go_simp; try with_reducible rfl)
      refine tkW 7 (some 24) (v := .agg #[.int .i64 x.nd.1, .int .i64 x.nd.2, .int .i64 x.pr.1, .int .i64 x.pr.2, .int .i64 x.sl.1, .int .i64 x.sl.2]) ?_ hHeld ?_
      · (intro ww hSw; (try dsimp only at hSw); have hbw := hSw; have r0 := (hbw.cell (p := ⟨b, o + i * 6, none⟩) HGb.out).trans HX0.out; have q0 := (hbw.cell (p := ⟨d, u + i * 6, none⟩) HGd.out).trans HY0.out; have r1 := (hbw.cell (p := ⟨b, o + i * 6 + 1, none⟩) HGb.out).trans HX1.out; have q1 := (hbw.cell (p := ⟨d, u + i * 6 + 1, none⟩) HGd.out).trans HY1.out; have r2 := (hbw.cell (p := ⟨b, o + i * 6 + 2, none⟩) HGb.out).trans HX2.out; have q2 := (hbw.cell (p := ⟨d, u + i * 6 + 2, none⟩) HGd.out).trans HY2.out; have r3 := (hbw.cell (p := ⟨b, o + i * 6 + 3, none⟩) HGb.out).trans HX3.out; have q3 := (hbw.cell (p := ⟨d, u + i * 6 + 3, none⟩) HGd.out).trans HY3.out; have r4 := (hbw.cell (p := ⟨b, o + i * 6 + 4, none⟩) HGb.out).trans HX4.out; have q4 := (hbw.cell (p := ⟨d, u + i * 6 + 4, none⟩) HGd.out).trans HY4.out; have r5 := (hbw.cell (p := ⟨b, o + i * 6 + 5, none⟩) HGb.out).trans HX5.out; have q5 := (hbw.cell (p := ⟨d, u + i * 6 + 5, none⟩) HGd.out).trans HY5.out; go_simp; try with_reducible rfl)
      refine tkW 8 (some 25) (v := .bool false) ?_ hHeld ?_
      · (intro ww hSw; (try dsimp only at hSw); have hbw := hSw; have r0 := (hbw.cell (p := ⟨b, o + i * 6, none⟩) HGb.out).trans HX0.out; have q0 := (hbw.cell (p := ⟨d, u + i * 6, none⟩) HGd.out).trans HY0.out; have r1 := (hbw.cell (p := ⟨b, o + i * 6 + 1, none⟩) HGb.out).trans HX1.out; have q1 := (hbw.cell (p := ⟨d, u + i * 6 + 1, none⟩) HGd.out).trans HY1.out; have r2 := (hbw.cell (p := ⟨b, o + i * 6 + 2, none⟩) HGb.out).trans HX2.out; have q2 := (hbw.cell (p := ⟨d, u + i * 6 + 2, none⟩) HGd.out).trans HY2.out; have r3 := (hbw.cell (p := ⟨b, o + i * 6 + 3, none⟩) HGb.out).trans HX3.out; have q3 := (hbw.cell (p := ⟨d, u + i * 6 + 3, none⟩) HGd.out).trans HY3.out; have r4 := (hbw.cell (p := ⟨b, o + i * 6 + 4, none⟩) HGb.out).trans HX4.out; have q4 := (hbw.cell (p := ⟨d, u + i * 6 + 4, none⟩) HGd.out).trans HY4.out; have r5 := (hbw.cell (p := ⟨b, o + i * 6 + 5, none⟩) HGb.out).trans HX5.out; have q5 := (hbw.cell (p := ⟨d, u + i * 6 + 5, none⟩) HGd.out).trans HY5.out; go_simp; try with_reducible rfl)
      refine wpAnyH_done (by kernel_rfl) ?_ _
      replace HB : Hid (Below w.heap.size w Ua1u0) := hHeld
      clear hHeld
      go_wp2
      go_roundw
      case rel => exact ⟨i + 1, by go_num, by omega, HB⟩
      case measure => simp [intOf]; omega
    · obtain rfl : i = D.length := by omega
      go_wp2
      go_ret
      exact ⟨rfl, HB.out⟩

/-- Moves of the right form. -/
def FmM (m : Mv) : Prop := rightB m.ts.1 m.ts.2 = true ∧ rightB m.nd.1 m.nd.2 = true ∧ nodeB m.pr.1 m.pr.2 = true
theorem doE_ok {L : List Mv} {m : Mv} (h : doE L m = 0) : FmM m ∧ hasM L m.ts = false := by
  unfold doE at h
  split at h
  · rename_i h1
    split at h
    · cases h
    · rename_i h2
      simp only [Bool.and_eq_true] at h1
      exact ⟨⟨h1.1.1, h1.1.2, h1.2⟩, by simpa using h2⟩
  · cases h
theorem doE_ran (L : List Mv) (m : Mv) : doE L m = 2 ∨ doE L m = 5 ∨ doE L m = 0 := by
  unfold doE
  split
  · split
    · exact .inr (.inl rfl)
    · exact .inr (.inr rfl)
  · exact .inl rfl
theorem doL_err {L : List Mv} {m : Mv} (h : doE L m ≠ 0) : doL L m = L := by unfold doL; rw [if_neg h]
theorem doL_ok {L : List Mv} {m : Mv} (h : doE L m = 0) : doL L m = insM L m := by unfold doL; rw [if_pos h]
theorem doL_fm {L : List Mv} (h : ∀ x ∈ L, FmM x) (m : Mv) : ∀ x ∈ doL L m, FmM x := fun x hx => by
  by_cases he : doE L m = 0
  · rw [doL_ok he] at hx
    rcases (mem_insM (doE_ok he).2).1 hx with rfl | hx
    · exact (doE_ok he).1
    · exact h x hx
  · rw [doL_err he] at hx; exact h x hx
theorem madeT_fm (l : List Ma) : ∀ L : List Mv, (∀ x ∈ L, FmM x) → ∀ x ∈ l.foldl madeS L, FmM x := by
  induction l with
  | nil => exact fun L h => h
  | cons a l ih =>
    intro L h
    rw [List.foldl_cons]
    refine ih _ ?_
    unfold madeS
    split
    · exact doL_fm h a.2
    · exact h
theorem madeL_fm (l : List Ma) : ∀ x ∈ madeL l, FmM x := madeT_fm _ [] (fun x hx => by cases hx)
/-- A newest move comes behind all. -/
theorem ins_last {L : List Mv} {m : Mv} (h : ∀ x ∈ L, FmM x) (hm : m.ts = (1099511627776, 63)) (hn : hasM L m.ts = false) : insM L m = L ++ [m] := by
  have h1 : ∀ x ∈ L, ltS x.ts m.ts = true := fun x hx => by
    obtain ⟨hx1, _⟩ := h x hx
    have hne : x.ts ≠ m.ts := hasM_no.1 hn x hx
    unfold rightB at hx1
    have hx2 := of_decide_eq_true hx1
    rw [hm] at hne ⊢
    rw [ltS_iff]
    by_cases e : x.ts.1 = 1099511627776
    · right
      refine ⟨e, ?_⟩
      have : x.ts.2 ≠ 63 := fun e2 => hne (Prod.ext e e2)
      show x.ts.2 < 63
      omega
    · left
      show x.ts.1 < 1099511627776
      omega
  unfold insM
  rw [List.filter_eq_self.2 h1, List.filter_eq_nil_iff.2 (fun x hx => by rw [ltS_asym (h1 x hx)]; simp)]
theorem cntS_snoc {L : List Mv} {m : Mv} (hn : hasM L m.ts = false) : cntS (L ++ [m]) m.ts = cntB (doneT L) m := by
  unfold cntS
  rw [cntF_at m.ts (L ++ [m]) [] L.length (by simp) (fun j hj hji => by rw [List.getElem_append_left hji]; exact hasM_no.1 hn _ (List.getElem_mem _)) (by simp)]
  simp [doneT]
/-- All that a newest move does. -/
theorem newest {L : List Mv} {m : Mv} (h : ∀ x ∈ L, FmM x) (hm : m.ts = (1099511627776, 63)) (he : doE L m = 0) : cntS (doL L m) m.ts = cntB (doneT L) m ∧ doneT (doL L m) = doM (doneT L) m := by
  rw [doL_ok he, ins_last h hm (doE_ok he).2]
  exact ⟨cntS_snoc (doE_ok he).2, doneT_snoc L m⟩

end Go.Proofs.Ytljepindfdhbbaa
