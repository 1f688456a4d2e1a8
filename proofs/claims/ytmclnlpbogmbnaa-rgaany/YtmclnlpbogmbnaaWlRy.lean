/- RgaAny: the order in which slots come says nothing. -/
import Derived.Test.YtmclnlpbogmbnaaRdQ
import Derived.Deep.Cut
namespace Go.Proofs.Ytmclnlpbogmbnaa
open Go.RowKit
set_option linter.unusedVariables false
set_option linter.unusedSimpArgs false

theorem from_lt (x : Int) {n : Nat} (h0 : 0 < n) (h1 : n ≤ 4096) : ∃ f : Nat, f < n ∧ wrap64 ((IntKind.u64.wrap x).tmod (n : Int)) = (f : Int) := by
  have hx : 0 ≤ IntKind.u64.wrap x := by show 0 ≤ x % 18446744073709551616; omega
  rw [Int.tmod_eq_emod_of_nonneg hx]
  have h2 : 0 ≤ IntKind.u64.wrap x % (n : Int) := Int.emod_nonneg _ (by omega)
  have h3 : IntKind.u64.wrap x % (n : Int) < n := Int.emod_lt_of_pos _ (by omega)
  refine ⟨(IntKind.u64.wrap x % (n : Int)).toNat, by omega, ?_⟩
  rw [Int.toNat_of_nonneg h2]
  unfold wrap64
  omega
def slLen : Value → Nat
  | .slice _ n _ => n
  | _ => 0
theorem split_at {R : List Sl} {f : Nat} {x : Sl} (hx : R[f]? = some x) : R = R.take f ++ x :: R.drop (f + 1) := by
  obtain ⟨h, e⟩ := List.getElem?_eq_some_iff.1 hx
  rw [← e, List.getElem_cons_drop]
  exact (List.take_append_drop f R).symm
theorem any_step {L Lx R : List Sl} {f : Nat} {x : Sl} (h : GoodL L) (p : (Lx ++ R).Perm L) (hx : R[f]? = some x) : addC Lx x = 0 ∧ addL Lx x = Lx ++ [x] ∧ ((Lx ++ [x]) ++ (R.take f ++ R.drop (f + 1))).Perm L := by
  have hg := h.perm p.symm
  have hxm : x ∈ R := List.mem_of_getElem? hx
  have ho : okS x = true := hg.ok x (by simp [hxm])
  have hn : hasL Lx x.ts = false := hasL_no.2 fun s hs e => by
    have hnd := hg.nod
    rw [List.map_append, List.nodup_append] at hnd
    exact hnd.2.2 _ (List.mem_map.2 ⟨s, hs, rfl⟩) _ (List.mem_map.2 ⟨x, hxm, rfl⟩) e
  refine ⟨by unfold addC; simp [ho, hn], by unfold addL; simp [ho, hn], ?_⟩
  refine List.Perm.trans ?_ p
  have e := split_at hx
  have h1 : (Lx ++ [x] ++ (R.take f ++ R.drop (f + 1))).Perm (Lx ++ (R.take f ++ x :: R.drop (f + 1))) := by
    rw [List.append_assoc]
    refine List.Perm.append_left Lx ?_
    exact (List.perm_middle (l₁ := R.take f) (l₂ := R.drop (f + 1)) (a := x)).symm
  rw [← e] at h1
  exact h1
theorem rows_at {R : List Sl} {W : World} {b o : Nat} (h : ∀ i (h : i < R.length) j u, (slCells R[i])[j]? = some u → W.cell? ⟨b, o + i * 4 + j, none⟩ = some u) {f : Nat} {x : Sl} (hx : R[f]? = some x) (j : Nat) (u : Value) (hj : (slCells x)[j]? = some u) : W.cell? ⟨b, o + f * 4 + j, none⟩ = some u := by
  obtain ⟨h1, e⟩ := List.getElem?_eq_some_iff.1 hx
  exact h f h1 j u (by rw [e]; exact hj)
theorem rows_at0 {R : List Sl} {W : World} {b o : Nat} (h : ∀ i (h : i < R.length) j u, (slCells R[i])[j]? = some u → W.cell? ⟨b, o + i * 4 + j, none⟩ = some u) {x : Sl} (hx : R[0]? = some x) (j : Nat) (u : Value) (hj : (slCells x)[j]? = some u) : W.cell? ⟨b, o + j, none⟩ = some u := by
  have := rows_at h hx j u hj
  simpa using this
theorem rowsOf {G : Nat → Prop} {W : World} {b o cap : Nat} {R : List Sl} (h : LsE slCells 4 G W (.slice (some ⟨b, o, none⟩) R.length cap) R) (hne : 0 < R.length) : b < W.heap.size ∧ ∀ i (h : i < R.length) j u, (slCells R[i])[j]? = some u → W.cell? ⟨b, o + i * 4 + j, none⟩ = some u := by
  obtain ⟨a, c, e, _, _, h9⟩ := h
  injection e with e1 e2 e3
  subst e1
  obtain ⟨b2, o2, ea, _, hlt, hr⟩ := h9.resolve_left (by intro e; rw [e] at hne; simp at hne)
  cases ea
  exact ⟨hlt, hr⟩
/-- Rows in no block of a row. -/
structure TouR (Fx : Nat → Prop) (b o : Nat) (R : List Sl) (W : World) : Prop where
  row : ∀ i (h : i < R.length) j u, (slCells R[i])[j]? = some u → W.cell? ⟨b, o + i * 4 + j, none⟩ = some u
  lt : b < W.heap.size
  nx : ¬ Fx b
theorem TouR.below {Fx : Nat → Prop} {b o : Nat} {R : List Sl} {W W' : World} (h : TouR Fx b o R W) (hb : Below W.heap.size W W') : TouR Fx b o R W' := ⟨fun i hi j u hj => (hb.cell (p := ⟨b, _, none⟩) h.lt).trans (h.row i hi j u hj), Nat.lt_of_lt_of_le h.lt hb.size, h.nx⟩
theorem TouR.touch {Fx : Nat → Prop} {b o : Nat} {R : List Sl} {W W' : World} (h : TouR Fx b o R W) (ht : Touch Fx W W') : TouR Fx b o R W' := ⟨fun i hi j u hj => (World.cell?_of_block (w := W) (ht.block b h.lt h.nx)).trans (h.row i hi j u hj), Nat.lt_of_lt_of_le h.lt ht.size, h.nx⟩
/-- Two rows, and the slots that are left. -/
structure AnS (w : World) (rb : Nat) (F : Nat → Prop) (L : List Sl) (xb : Nat) (Fx : Nat → Prop) (Lx : List Sl) (rv : Value) (R : List Sl) (W : World) : Prop where
  tt : RowOk F W rb L
  xt : RowOk Fx W xb Lx
  xhi : ∀ j, Fx j → w.heap.size ≤ j
  ap : ∀ j, F j → ¬ Fx j
  re : LsN (fun j => ¬ Fx j) W rv R
  bel : Below w.heap.size w W
section
variable {w W W' : World} {rb xb : Nat} {F Fx : Nat → Prop} {rv rv2 : Value} {L Lx R R2 : List Sl} {m : Sl} {e : Ending}
theorem AnS.below (h : AnS w rb F L xb Fx Lx rv R W) (hb : Below W.heap.size W W') : AnS w rb F L xb Fx Lx rv R W' := ⟨h.tt.below hb, h.xt.below hb, h.xhi, h.ap, h.re.below hb, h.bel.trans (hb.mono h.bel.size)⟩
theorem AnS.did (h : AnS w rb F L xb Fx Lx rv R W) (hd : AddP Fx W xb Lx m e W') : ∃ Fx', AnS w rb F L xb Fx' (addL Lx m) rv R W' := by
  obtain ⟨_, F', ht, hsub, hnew, hto⟩ := hd
  refine ⟨F', h.tt.touch hto h.ap, ht, fun j hj => ?_, fun j hj hj2 => ?_, (h.re.lo.touch hto (fun k hk => hk.1)).mono fun k hk hF => (hnew k hF).elim hk.1 (fun h2 => by omega), h.bel.trans (hto.below h.xhi h.bel.size)⟩
  · rcases hnew j hj with h1 | h1
    · exact h.xhi j h1
    · exact Nat.le_trans h.bel.size h1
  · rcases hnew j hj2 with h1 | h1
    · exact h.ap j hj h1
    · have := h.tt.lt j hj; omega
theorem AnS.rest (h : AnS w rb F L xb Fx Lx rv R W) (hB : BuR slCells 4 32 W rv2 R2 W') (hl : R2.length ≤ 16384) : AnS w rb F L xb Fx Lx rv2 R2 W' :=
  ⟨h.tt.below hB.bel, h.xt.below hB.bel, h.xhi, h.ap, ⟨hB.lsE slCells_len hl (fun j hj hF => by have := h.xt.lt j hF; omega), hB.sm.imp fun g ⟨c, e⟩ => ⟨0, c, e⟩⟩, h.bel.trans (hB.bel.mono h.bel.size)⟩
end

set_option maxRecDepth 100000 in
set_option maxHeartbeats 8000000 in
theorem rgaAny_walk (v : Value) (l : List Sl) (v2 : Value) (od : List Int) (w : World) (h : IsSl w v l) (h2 : IsIn w v2 od) :
    Calls Try.prog 6 #[v, v2] w fun e w' => e = .returned (.bool true) ∧ Below w.heap.size w w' := by
  obtain ⟨isl, hisl, hz0sl, hz1sl, hz2sl⟩ := info_parts infoSlot
  obtain ⟨a0, c0, e0⟩ := h.form
  subst e0
  obtain ⟨ao, co, e2, hoc, hol, hor⟩ := h2
  subst e2
  have HLs : Hid (IsSl w (.slice a0 l.length c0) l) := h
  have HOr : Hid (od = [] ∨ ∃ b o, ao = some ⟨b, o, none⟩ ∧ b < w.heap.size ∧ ∀ i (h : i < od.length), w.cell? ⟨b, o + i, none⟩ = some (.int .i64 od[i])) := hor
  clear h hor
  go_enter Try.func6, Try.ntmps6
  go_wp2_with fail
  refine (laid_any _ l _ HLs.out).mono ?_
  rintro e w1 ⟨rb, F, db, do_, dc, rfl, hM⟩
  have HG : Hid (GoodL (laidL l)) := hM.row.good
  have HLn : Hid ((laidL l).length ≤ 120) := laidL_len l
  obtain ⟨L, eL⟩ : ∃ L, L = laidL l := ⟨_, rfl⟩
  rw [← eL] at hM HG HLn
  rw [← eL]
  clear eL HLs
  have hLl : L.length ≤ 120 := HLn.out
  have HM : Hid (LdS w rb F (.slice (some ⟨db, do_, none⟩) L.length dc) L L w1) := hM
  clear hM
  go_wp2_with fail
  refine (new_any _).mono ?_
  rintro e w2 ⟨xb, Fx0, rfl, hT, hFh, hb1⟩
  have hS2 : AnS w rb F L xb Fx0 [] (.slice (some ⟨0, 0, none⟩) 0 0) [] w2 := ⟨HM.out.row.below hb1, hT, fun j hj => Nat.le_trans HM.out.bel.size (hFh j hj), fun j hj hj2 => by (have h1 := HM.out.row.lt j hj; have h2 := hFh j hj2; omega), ⟨LsE.nil _ _ _, _, _, _, rfl⟩, HM.out.bel.trans (hb1.mono HM.out.bel.size)⟩
  have HS2 : Hid (AnS w rb F L xb Fx0 [] (.slice (some ⟨0, 0, none⟩) 0 0) [] w2) := hS2
  have hbe : Below w2.heap.size w2 (w2.alloc (.cells #[] 32)) := (Below.refl _ _).alloc (Nat.le_refl _) _
  have HB0 : Hid (BuR slCells 4 32 w2 (.slice (some ⟨w2.heap.size, 0, none⟩) 0 0) ([]) (w2.alloc (.cells #[] 32))) := BuR.new w2
  have HC0 : Hid (∀ j u, (flatE slCells L)[j]? = some u → (w2.alloc (.cells #[] 32)).cell? ((⟨db, do_, none⟩ : Addr).add j) = some u) := by
    obtain ⟨a9, cap9, e1, _, _, hr⟩ := (HM.out.doc.ls.below hb1).below hbe
    injection e1 with e2 _ e3
    subst e2
    rcases hr with hr | ⟨b', o', e4, _, hlt, hr⟩
    · intro j u hj; rw [hr] at hj; simp [flatE] at hj
    · cases e4
      intro j u hj
      rw [Addr.add_lit]
      exact rows_flat slCells_len L do_ hr j u hj
  have hsz0 : w2.heap.size ≤ (w2.alloc (.cells #[] 32)).heap.size := hbe.size
  clear hS2 hbe hT hFh hb1 HM
  go_wp2_with (at_builtin; refine wpList_append_own_at _ rfl _ _ 22 rfl w2.heap.size 32 isl (.agg #[.int .i64 0, .int .i64 0, .int .i64 0, .int .i64 0]) 4 32 Try.underlying22 hisl hz0sl hz1sl hz2sl rfl (by decide) _ _ _ rfl HB0.out.own ⟨db, do_, none⟩ L.length dc (flatE slCells L) rfl (flatE_length slCells_len L) HC0.out (flat_sl L) (by unfold maxLen; simp only [List.length_nil]; omega) (by simp only [List.length_nil]; omega) hsz0 ?_; intro v3 w3 hown3 hgrow3 hnil3 hat3; have h0 := HB0.out.pushes hown3 rfl hgrow3 hnil3; rw [List.nil_append] at h0; obtain ⟨g5, c5, e3⟩ := h0.sm; subst e3; have HB1 : Hid (BuR slCells 4 32 w2 (.slice (some ⟨g5, 0, none⟩) L.length c5) (L) w3) := h0; clear h0 hown3 hgrow3 hnil3 hat3 HB0 HC0 hsz0)
  have HS3 : Hid (AnS w rb F L xb Fx0 [] (.slice (some ⟨g5, 0, none⟩) L.length c5) L w3) := HS2.out.rest HB1.out (by omega)
  have HA3 : Hid ((([] : List Sl) ++ L).Perm L) := List.Perm.refl _
  clear HS2 HB1
  go_loopw [8, 9] (fun rv tv wr => ∃ (t : Nat) (R Lx : List Sl) (Fx : Nat → Prop), tv = .int .i64 (t : Int) ∧ t + R.length = L.length ∧ Hid (AnS w rb F L xb Fx Lx rv R wr) ∧ Hid ((Lx ++ R).Perm L)) (fun rv _ _ => slLen rv)
  case atStart => exact ⟨0, L, [], Fx0, rfl, by omega, HS3, HA3⟩
  case round =>
    clear HS3 HA3
    obtain ⟨t, R, Lx, Fx, rfl, htR, HS, HAp⟩ := hrel
    obtain ⟨b, o, cap, e5⟩ := HS.out.re.sm
    subst e5
    have HLx : Hid (Lx.length ≤ 120) := by (show _ ≤ _; have h1 := HAp.out.length_eq; rw [List.length_append] at h1; omega)
    by_cases hR0 : 0 < R.length
    · obtain ⟨hblt, hrr⟩ := rowsOf HS.out.re.ls hR0
      have hnx : ¬ Fx b := by
        obtain ⟨a9, c9, e9, hc9, _, h9⟩ := HS.out.re.ls
        injection e9 with e91 e92 e93
        subst e91
        obtain ⟨b2, o2, ea, hg, _, _⟩ := h9.resolve_left (by intro e; rw [e] at hR0; simp at hR0)
        cases ea
        exact hg
      have hcapR : R.length ≤ cap := by
        obtain ⟨a9, c9, e9, hc9, _, h9⟩ := HS.out.re.ls
        injection e9 with e91 e92 e93
        rw [e93]; exact hc9
      have HR : Hid (TouR Fx b o R wr) := ⟨hrr, hblt, hnx⟩
      have HP : Hid (∀ i (h : i < R.length) j u, (slCells R[i])[j]? = some u → wr.drew.cell? ⟨b, o + i * 4 + j, none⟩ = some u) := hrr
      have hR3 : R.length ≤ 4096 := by omega
      have r0 : (0 : Int) < (R.length : Int) := by omega
      clear hrr hblt hnx
      by_cases hto : t < od.length
      · obtain ⟨b9, o9, rfl, hb9, hrow2⟩ := HOr.out.resolve_left (by intro e; subst e; simp at hto)
        have q9 := (HS.out.bel.cell (p := ⟨b9, o9 + t, none⟩) hb9).trans (hrow2 t hto)
        have t1 : (t : Int) < (od.length : Int) := by omega
        have t0 : (0 : Int) ≤ (t : Int) := by omega
        clear hrow2 hb9
        obtain ⟨f, hf, ef⟩ := from_lt od[t] hR0 hR3
        go_upto_region 12 with fail
        (try rw [ef])
        clear ef q9
        obtain ⟨x, hx⟩ : ∃ x, R[f]? = some x := ⟨_, List.getElem?_eq_getElem hf⟩
        have HXf : Hid (R[f]? = some x) := hx
        have HOk : Hid (addC Lx x = 0) := (any_step HG.out HAp.out hx).1
        have HAl : Hid (addL Lx x = Lx ++ [x]) := (any_step HG.out HAp.out hx).2.1
        have HAn : Hid (((Lx ++ [x]) ++ (R.take f ++ R.drop (f + 1))).Perm L) := (any_step HG.out HAp.out hx).2.2
        have f1 : (f : Int) < (R.length : Int) := by omega
        have f0 : (0 : Int) ≤ (f : Int) := by omega
        have n5 : ((f : Int) + 1).toNat = f + 1 := by omega
        have n12 : IntKind.i64.wrap ((f : Int) + 1) = (f : Int) + 1 := by rw [IntKind.wrap_i64]; omega
        have z1 : (0 : Int) ≤ (f : Int) + 1 := by omega
        have z2 : (f : Int) + 1 ≤ (R.length : Int) := by omega
        have z3 : f ≤ cap := by omega
        have z4 : f + 1 ≤ cap := by omega
        clear hx
        refine wp_region_held_drew (S := fun W' => ∀ i (h : i < R.length) j u, (slCells R[i])[j]? = some u → W'.cell? ⟨b, o + i * 4 + j, none⟩ = some u) (by kernel_rfl) HP.out (fun hHeld => ?_)
        obtain ⟨Ua11u0, eW⟩ : ∃ X, X = wr.drew := ⟨_, rfl⟩
        have hb : Below wr.heap.size wr Ua11u0 := by rw [eW]; exact (Below.refl _ _).drew
        replace HS : Hid (AnS w rb F L xb Fx Lx (.slice (some ⟨b, o, none⟩) R.length cap) R Ua11u0) := HS.out.below hb
        replace HR : Hid (TouR Fx b o R Ua11u0) := HR.out.below hb
        rw [← eW] at hHeld ⊢
        clear eW hb
        refine tkW 0 (some 42) (v := ?_) ?_ hHeld ?_
        rotate_left
        · (intro ww _; go_simp; try with_reducible rfl)
        refine tkW 1 (some 43) (v := ?_) ?_ hHeld ?_
        rotate_left
        · (intro ww _; go_simp; try with_reducible rfl)
        refine tkW 2 (some 44) (v := ?_) ?_ hHeld ?_
        rotate_left
        · (intro ww _; go_simp; try with_reducible rfl)
        refine tkW 3 (some 45) (v := ?_) ?_ hHeld ?_
        rotate_left
        · (intro ww hSw; (try dsimp only at hSw); have hS := hSw; have x0 : ww.cell? ⟨b, o + f * 4, none⟩ = some (.int .i64 x.ts.1) := rows_at hS HXf.out 0 _ rfl; have x1 : ww.cell? ⟨b, o + f * 4 + 1, none⟩ = some (.int .i64 x.ts.2) := rows_at hS HXf.out 1 _ rfl; have x2 : ww.cell? ⟨b, o + f * 4 + 2, none⟩ = some (.int .i64 x.af.1) := rows_at hS HXf.out 2 _ rfl; have x3 : ww.cell? ⟨b, o + f * 4 + 3, none⟩ = some (.int .i64 x.af.2) := rows_at hS HXf.out 3 _ rfl; go_simp; try with_reducible rfl)
        refine tkW 4 (some 46) (v := ?_) ?_ hHeld ?_
        rotate_left
        · (intro ww _; go_simp; try with_reducible rfl)
        refine tkW 5 (some 47) (v := ?_) ?_ hHeld ?_
        rotate_left
        · (intro ww hSw; (try dsimp only at hSw); have hS := hSw; have x0 : ww.cell? ⟨b, o + f * 4, none⟩ = some (.int .i64 x.ts.1) := rows_at hS HXf.out 0 _ rfl; have x1 : ww.cell? ⟨b, o + f * 4 + 1, none⟩ = some (.int .i64 x.ts.2) := rows_at hS HXf.out 1 _ rfl; have x2 : ww.cell? ⟨b, o + f * 4 + 2, none⟩ = some (.int .i64 x.af.1) := rows_at hS HXf.out 2 _ rfl; have x3 : ww.cell? ⟨b, o + f * 4 + 3, none⟩ = some (.int .i64 x.af.2) := rows_at hS HXf.out 3 _ rfl; go_simp; try with_reducible rfl)
        refine tkW 6 (some 48) (v := ?_) ?_ hHeld ?_
        rotate_left
        · (intro ww _; go_simp; try with_reducible rfl)
        refine tkW 7 (some 49) (v := ?_) ?_ hHeld ?_
        rotate_left
        · (intro ww _; go_simp; try with_reducible rfl)
        refine tkW 8 (some 50) (v := ?_) ?_ hHeld ?_
        rotate_left
        · (intro ww hSw; (try dsimp only at hSw); have hS := hSw; have x0 : ww.cell? ⟨b, o + f * 4, none⟩ = some (.int .i64 x.ts.1) := rows_at hS HXf.out 0 _ rfl; have x1 : ww.cell? ⟨b, o + f * 4 + 1, none⟩ = some (.int .i64 x.ts.2) := rows_at hS HXf.out 1 _ rfl; have x2 : ww.cell? ⟨b, o + f * 4 + 2, none⟩ = some (.int .i64 x.af.1) := rows_at hS HXf.out 2 _ rfl; have x3 : ww.cell? ⟨b, o + f * 4 + 3, none⟩ = some (.int .i64 x.af.2) := rows_at hS HXf.out 3 _ rfl; go_simp; try with_reducible rfl)
        refine tkW 9 (some 51) (v := ?_) ?_ hHeld ?_
        rotate_left
        · (intro ww _; go_simp; try with_reducible rfl)
        refine tkW 10 (some 52) (v := ?_) ?_ hHeld ?_
        rotate_left
        · (intro ww hSw; (try dsimp only at hSw); have hS := hSw; have x0 : ww.cell? ⟨b, o + f * 4, none⟩ = some (.int .i64 x.ts.1) := rows_at hS HXf.out 0 _ rfl; have x1 : ww.cell? ⟨b, o + f * 4 + 1, none⟩ = some (.int .i64 x.ts.2) := rows_at hS HXf.out 1 _ rfl; have x2 : ww.cell? ⟨b, o + f * 4 + 2, none⟩ = some (.int .i64 x.af.1) := rows_at hS HXf.out 2 _ rfl; have x3 : ww.cell? ⟨b, o + f * 4 + 3, none⟩ = some (.int .i64 x.af.2) := rows_at hS HXf.out 3 _ rfl; go_simp; try with_reducible rfl)
        refine wpAnyH_ready (rs := [11]) (by kernel_rfl) (by simp) ?_
        refine AllReadyH.cons (o := ⟨some 53, _, _, _, _, _⟩) rfl (fun K hK => ?_) AllReadyH.nil
        go_simp
        refine (add_any Fx xb Lx x _ HS.out.xt (by have := HLx.out; omega)).mono ?_
        rintro e Ua11u1 hd
        obtain ⟨he, hd2⟩ := id hd
        rw [HOk.out] at he
        subst he
        (try go_wp2_with fail)
        obtain ⟨Fy, hS2⟩ := HS.out.did hd
        rw [HAl.out] at hS2
        obtain ⟨_, _, _, _, hto⟩ := hd2
        have hR2 : ∀ i (h : i < R.length) j u, (slCells R[i])[j]? = some u → Ua11u1.cell? ⟨b, o + i * 4 + j, none⟩ = some u := fun i hi j u hj => (HR.out.touch hto).row i hi j u hj
        replace HS : Hid (AnS w rb F L xb Fy (Lx ++ [x]) (.slice (some ⟨b, o, none⟩) R.length cap) R Ua11u1) := hS2
        clear hd hS2 hto
        refine hK.out _ _ (hR2) (fun hHeld2 => ?_)
        clear hK K hHeld
        have hHeld := hHeld2
        clear hHeld2
        (try simp only [Act.put, List.setIfInBounds_toArray, List.set_cons_zero, List.set_cons_succ])
        refine tkW 12 (some 54) (v := ?_) ?_ hHeld ?_
        rotate_left
        · (intro ww hSw; (try dsimp only at hSw); have hS := hSw; have x0 : ww.cell? ⟨b, o + f * 4, none⟩ = some (.int .i64 x.ts.1) := rows_at hS HXf.out 0 _ rfl; have x1 : ww.cell? ⟨b, o + f * 4 + 1, none⟩ = some (.int .i64 x.ts.2) := rows_at hS HXf.out 1 _ rfl; have x2 : ww.cell? ⟨b, o + f * 4 + 2, none⟩ = some (.int .i64 x.af.1) := rows_at hS HXf.out 2 _ rfl; have x3 : ww.cell? ⟨b, o + f * 4 + 3, none⟩ = some (.int .i64 x.af.2) := rows_at hS HXf.out 3 _ rfl; go_simp; try with_reducible rfl)
        refine wpAnyH_done (by kernel_rfl) ?_ _
        clear hHeld
        have hbe : Below Ua11u1.heap.size Ua11u1 (Ua11u1.alloc (.cells #[] 32)) := (Below.refl _ _).alloc (Nat.le_refl _) _
        have HB0 : Hid (BuR slCells 4 32 Ua11u1 (.slice (some ⟨Ua11u1.heap.size, 0, none⟩) 0 0) ([]) (Ua11u1.alloc (.cells #[] 32))) := BuR.new Ua11u1
        obtain ⟨hblt, hpl⟩ : b < Ua11u1.heap.size ∧ (∀ i (h : i < R.length) j u, (slCells R[i])[j]? = some u → Ua11u1.cell? ⟨b, o + i * 4 + j, none⟩ = some u) := rowsOf HS.out.re.ls hR0
        have HC1 : Hid (∀ j u, (flatE slCells (R.take f))[j]? = some u → (Ua11u1.alloc (.cells #[] 32)).cell? ((⟨b, o, none⟩ : Addr).add j) = some u) := fun j u hj => (by rw [Addr.add_lit]; exact (hbe.cell (p := ⟨b, o + j, none⟩) hblt).trans (rows_flat slCells_len R o hpl j u (flat_pre slCells_len hj)))
        have HC2 : Hid (∀ j u, (flatE slCells (R.drop (f + 1)))[j]? = some u → Ua11u1.cell? ⟨b, o + (f + 1) * 4 + j, none⟩ = some u) := fun j u hj => (by rw [Nat.add_assoc]; exact rows_flat slCells_len R o hpl _ u (flat_suf slCells_len (by omega) hj))
        have HT1 : Hid ((R.take f).length = f) := by (show _ = _; rw [List.length_take]; omega)
        have HT2 : Hid ((R.drop (f + 1)).length = R.length - (f + 1)) := by (show _ = _; rw [List.length_drop])
        have HBl : Hid (b < Ua11u1.heap.size) := hblt
        have hsz1 : Ua11u1.heap.size ≤ (Ua11u1.alloc (.cells #[] 32)).heap.size := hbe.size
        obtain ⟨P, eP⟩ : ∃ P, P = R.take f := ⟨_, rfl⟩
        obtain ⟨Q, eQ⟩ : ∃ Q, Q = R.drop (f + 1) := ⟨_, rfl⟩
        rw [← eP] at HC1 HT1
        rw [← eQ] at HC2 HT2
        rw [← eP, ← eQ] at HAn
        clear eP eQ
        obtain ⟨R2, eR2⟩ : ∃ R2, R2 = P ++ Q := ⟨_, rfl⟩
        have HR2 : Hid (P ++ Q = R2) := eR2.symm
        rw [← eR2] at HAn
        have HRn : Hid (R2.length + 1 = R.length) := by (show _ = _; have h1 := HT1.out; have h2 := HT2.out; rw [eR2, List.length_append]; omega)
        clear eR2
        obtain ⟨Ad, hAd, HA2⟩ : ∃ A : Addr, (if cap = f + 1 then some (⟨b, o, none⟩ : Addr) else some ⟨b, o + (f + 1) * 4, none⟩) = some A ∧ Hid (∀ V : World, Below Ua11u1.heap.size Ua11u1 V → ∀ j u, (flatE slCells Q)[j]? = some u → V.cell? (A.add j) = some u) := src2 slCells_len HC2.out HBl.out hcapR HT2.out
        clear hbe hpl hblt HC2
        go_wp2_with (first
          | (at_builtin; refine wpList_append_own_at _ rfl _ _ 22 rfl Ua11u1.heap.size 32 isl (.agg #[.int .i64 0, .int .i64 0, .int .i64 0, .int .i64 0]) 4 32 Try.underlying22 hisl hz0sl hz1sl hz2sl rfl (by decide) _ _ _ rfl HB0.out.own ⟨b, o, none⟩ _ _ (flatE slCells P) rfl (by have h8 := flatE_length slCells_len P; have h9 := HT1.out; rw [h8, h9]; try (first | rfl | (congr 1; omega))) HC1.out (flat_sl _) (by (try simp only [List.length_nil]); have := HT1.out; have := HT2.out; unfold maxLen; omega) (by (try simp only [List.length_nil]); have := HT1.out; have := HT2.out; omega) hsz1 ?_; intro v1 w8 hown3 hgrow3 hnil3 hat3; have h0 := HB0.out.pushes (E := P) hown3 (by have := HT1.out; omega) hgrow3 hnil3; rw [List.nil_append] at h0; obtain ⟨g1, c1, e3⟩ := h0.sm; subst e3; have HB1 : Hid (BuR slCells 4 32 Ua11u1 (.slice (some ⟨g1, 0, none⟩) P.length c1) P w8) := h0; clear h0 hown3 hgrow3 hnil3 hat3; have HC3 : Hid (∀ j u, (flatE slCells Q)[j]? = some u → w8.cell? (Ad.add j) = some u) := HA2.out w8 HB1.out.bel; have hsz2 : Ua11u1.heap.size ≤ w8.heap.size := HB1.out.bel.size; clear HB0 HC1 hsz1)
          | (at_builtin; refine wpList_append_own_at _ rfl _ _ 22 rfl Ua11u1.heap.size 32 isl (.agg #[.int .i64 0, .int .i64 0, .int .i64 0, .int .i64 0]) 4 32 Try.underlying22 hisl hz0sl hz1sl hz2sl rfl (by decide) _ _ _ rfl HB1.out.own Ad _ _ (flatE slCells Q) rfl (by have h8 := flatE_length slCells_len Q; have h9 := HT2.out; rw [h8, h9]; try (first | rfl | (congr 1; omega))) HC3.out (flat_sl _) (by (try simp only [List.length_nil]); have := HT1.out; have := HT2.out; unfold maxLen; omega) (by (try simp only [List.length_nil]); have := HT1.out; have := HT2.out; omega) hsz2 ?_; intro v2 w9 hown3 hgrow3 hnil3 hat3; have h0 := HB1.out.pushes (E := Q) hown3 (by have := HT2.out; omega) hgrow3 hnil3; rw [HR2.out] at h0; obtain ⟨g2, c2, e3⟩ := h0.sm; subst e3; have HB2 : Hid (BuR slCells 4 32 Ua11u1 (.slice (some ⟨g2, 0, none⟩) R2.length c2) R2 w9) := h0; clear h0 hown3 hgrow3 hnil3 hat3; clear HB1 HC3 hsz2))
        have HSn : Hid (AnS w rb F L xb Fy (Lx ++ [x]) (.slice (some ⟨g2, 0, none⟩) R2.length c2) R2 w9) := HS.out.rest HB2.out (by have := HRn.out; omega)
        have hRn := HRn.out
        go_roundw
        case rel => exact ⟨t + 1, R2, _, Fy, by go_num, by omega, HSn, HAn⟩
        case measure => simp only [slLen]; omega
      · have t1 : ¬ (t : Int) < (od.length : Int) := by omega
        go_upto_region 12 with fail
        have z2 : (1 : Int) ≤ (R.length : Int) := by omega
        have z4 : 1 ≤ cap := by omega
        have z5 : 1 ≤ R.length := by omega
        obtain ⟨x, hx⟩ : ∃ x, R[0]? = some x := ⟨_, List.getElem?_eq_getElem hR0⟩
        have HXf : Hid (R[0]? = some x) := hx
        have HOk : Hid (addC Lx x = 0) := (any_step (f := 0) HG.out HAp.out hx).1
        have HAl : Hid (addL Lx x = Lx ++ [x]) := (any_step (f := 0) HG.out HAp.out hx).2.1
        have HAn : Hid (((Lx ++ [x]) ++ (R.take 0 ++ R.drop 1)).Perm L) := (any_step (f := 0) HG.out HAp.out hx).2.2
        clear hx
        refine wp_region_held_drew (S := fun W' => ∀ i (h : i < R.length) j u, (slCells R[i])[j]? = some u → W'.cell? ⟨b, o + i * 4 + j, none⟩ = some u) (by kernel_rfl) HP.out (fun hHeld => ?_)
        obtain ⟨Ua12u0, eW⟩ : ∃ X, X = wr.drew := ⟨_, rfl⟩
        have hb : Below wr.heap.size wr Ua12u0 := by rw [eW]; exact (Below.refl _ _).drew
        replace HS : Hid (AnS w rb F L xb Fx Lx (.slice (some ⟨b, o, none⟩) R.length cap) R Ua12u0) := HS.out.below hb
        replace HR : Hid (TouR Fx b o R Ua12u0) := HR.out.below hb
        rw [← eW] at hHeld ⊢
        clear eW hb
        refine tkW 0 (some 42) (v := ?_) ?_ hHeld ?_
        rotate_left
        · (intro ww _; go_simp; try with_reducible rfl)
        refine tkW 1 (some 43) (v := ?_) ?_ hHeld ?_
        rotate_left
        · (intro ww _; go_simp; try with_reducible rfl)
        refine tkW 2 (some 44) (v := ?_) ?_ hHeld ?_
        rotate_left
        · (intro ww _; go_simp; try with_reducible rfl)
        refine tkW 3 (some 45) (v := ?_) ?_ hHeld ?_
        rotate_left
        · (intro ww hSw; (try dsimp only at hSw); have hS := hSw; have x0 : ww.cell? ⟨b, o, none⟩ = some (.int .i64 x.ts.1) := rows_at0 hS HXf.out 0 _ rfl; have x1 : ww.cell? ⟨b, o + 1, none⟩ = some (.int .i64 x.ts.2) := rows_at0 hS HXf.out 1 _ rfl; have x2 : ww.cell? ⟨b, o + 2, none⟩ = some (.int .i64 x.af.1) := rows_at0 hS HXf.out 2 _ rfl; have x3 : ww.cell? ⟨b, o + 3, none⟩ = some (.int .i64 x.af.2) := rows_at0 hS HXf.out 3 _ rfl; go_simp; try with_reducible rfl)
        refine tkW 4 (some 46) (v := ?_) ?_ hHeld ?_
        rotate_left
        · (intro ww _; go_simp; try with_reducible rfl)
        refine tkW 5 (some 47) (v := ?_) ?_ hHeld ?_
        rotate_left
        · (intro ww hSw; (try dsimp only at hSw); have hS := hSw; have x0 : ww.cell? ⟨b, o, none⟩ = some (.int .i64 x.ts.1) := rows_at0 hS HXf.out 0 _ rfl; have x1 : ww.cell? ⟨b, o + 1, none⟩ = some (.int .i64 x.ts.2) := rows_at0 hS HXf.out 1 _ rfl; have x2 : ww.cell? ⟨b, o + 2, none⟩ = some (.int .i64 x.af.1) := rows_at0 hS HXf.out 2 _ rfl; have x3 : ww.cell? ⟨b, o + 3, none⟩ = some (.int .i64 x.af.2) := rows_at0 hS HXf.out 3 _ rfl; go_simp; try with_reducible rfl)
        refine tkW 6 (some 48) (v := ?_) ?_ hHeld ?_
        rotate_left
        · (intro ww _; go_simp; try with_reducible rfl)
        refine tkW 7 (some 49) (v := ?_) ?_ hHeld ?_
        rotate_left
        · (intro ww _; go_simp; try with_reducible rfl)
        refine tkW 8 (some 50) (v := ?_) ?_ hHeld ?_
        rotate_left
        · (intro ww hSw; (try dsimp only at hSw); have hS := hSw; have x0 : ww.cell? ⟨b, o, none⟩ = some (.int .i64 x.ts.1) := rows_at0 hS HXf.out 0 _ rfl; have x1 : ww.cell? ⟨b, o + 1, none⟩ = some (.int .i64 x.ts.2) := rows_at0 hS HXf.out 1 _ rfl; have x2 : ww.cell? ⟨b, o + 2, none⟩ = some (.int .i64 x.af.1) := rows_at0 hS HXf.out 2 _ rfl; have x3 : ww.cell? ⟨b, o + 3, none⟩ = some (.int .i64 x.af.2) := rows_at0 hS HXf.out 3 _ rfl; go_simp; try with_reducible rfl)
        refine tkW 9 (some 51) (v := ?_) ?_ hHeld ?_
        rotate_left
        · (intro ww _; go_simp; try with_reducible rfl)
        refine tkW 10 (some 52) (v := ?_) ?_ hHeld ?_
        rotate_left
        · (intro ww hSw; (try dsimp only at hSw); have hS := hSw; have x0 : ww.cell? ⟨b, o, none⟩ = some (.int .i64 x.ts.1) := rows_at0 hS HXf.out 0 _ rfl; have x1 : ww.cell? ⟨b, o + 1, none⟩ = some (.int .i64 x.ts.2) := rows_at0 hS HXf.out 1 _ rfl; have x2 : ww.cell? ⟨b, o + 2, none⟩ = some (.int .i64 x.af.1) := rows_at0 hS HXf.out 2 _ rfl; have x3 : ww.cell? ⟨b, o + 3, none⟩ = some (.int .i64 x.af.2) := rows_at0 hS HXf.out 3 _ rfl; go_simp; try with_reducible rfl)
        refine wpAnyH_ready (rs := [11]) (by kernel_rfl) (by simp) ?_
        refine AllReadyH.cons (o := ⟨some 53, _, _, _, _, _⟩) rfl (fun K hK => ?_) AllReadyH.nil
        go_simp
        refine (add_any Fx xb Lx x _ HS.out.xt (by have := HLx.out; omega)).mono ?_
        rintro e Ua12u1 hd
        obtain ⟨he, hd2⟩ := id hd
        rw [HOk.out] at he
        subst he
        (try go_wp2_with fail)
        obtain ⟨Fy, hS2⟩ := HS.out.did hd
        rw [HAl.out] at hS2
        obtain ⟨_, _, _, _, hto⟩ := hd2
        have hR2 : ∀ i (h : i < R.length) j u, (slCells R[i])[j]? = some u → Ua12u1.cell? ⟨b, o + i * 4 + j, none⟩ = some u := fun i hi j u hj => (HR.out.touch hto).row i hi j u hj
        replace HS : Hid (AnS w rb F L xb Fy (Lx ++ [x]) (.slice (some ⟨b, o, none⟩) R.length cap) R Ua12u1) := hS2
        clear hd hS2 hto
        refine hK.out _ _ (hR2) (fun hHeld2 => ?_)
        clear hK K hHeld
        have hHeld := hHeld2
        clear hHeld2
        (try simp only [Act.put, List.setIfInBounds_toArray, List.set_cons_zero, List.set_cons_succ])
        refine tkW 12 (some 54) (v := ?_) ?_ hHeld ?_
        rotate_left
        · (intro ww hSw; (try dsimp only at hSw); have hS := hSw; have x0 : ww.cell? ⟨b, o, none⟩ = some (.int .i64 x.ts.1) := rows_at0 hS HXf.out 0 _ rfl; have x1 : ww.cell? ⟨b, o + 1, none⟩ = some (.int .i64 x.ts.2) := rows_at0 hS HXf.out 1 _ rfl; have x2 : ww.cell? ⟨b, o + 2, none⟩ = some (.int .i64 x.af.1) := rows_at0 hS HXf.out 2 _ rfl; have x3 : ww.cell? ⟨b, o + 3, none⟩ = some (.int .i64 x.af.2) := rows_at0 hS HXf.out 3 _ rfl; go_simp; try with_reducible rfl)
        refine wpAnyH_done (by kernel_rfl) ?_ _
        clear hHeld
        have hbe : Below Ua12u1.heap.size Ua12u1 (Ua12u1.alloc (.cells #[] 32)) := (Below.refl _ _).alloc (Nat.le_refl _) _
        have HB0 : Hid (BuR slCells 4 32 Ua12u1 (.slice (some ⟨Ua12u1.heap.size, 0, none⟩) 0 0) ([]) (Ua12u1.alloc (.cells #[] 32))) := BuR.new Ua12u1
        obtain ⟨hblt, hpl⟩ : b < Ua12u1.heap.size ∧ (∀ i (h : i < R.length) j u, (slCells R[i])[j]? = some u → Ua12u1.cell? ⟨b, o + i * 4 + j, none⟩ = some u) := rowsOf HS.out.re.ls hR0
        have HC1 : Hid (∀ j u, (flatE slCells (R.take 0))[j]? = some u → (Ua12u1.alloc (.cells #[] 32)).cell? ((⟨b, o, none⟩ : Addr).add j) = some u) := fun j u hj => (by rw [Addr.add_lit]; exact (hbe.cell (p := ⟨b, o + j, none⟩) hblt).trans (rows_flat slCells_len R o hpl j u (flat_pre slCells_len hj)))
        have HC2 : Hid (∀ j u, (flatE slCells (R.drop 1))[j]? = some u → Ua12u1.cell? ⟨b, o + 4 + j, none⟩ = some u) := fun j u hj => (by rw [Nat.add_assoc]; exact rows_flat slCells_len R o hpl _ u (flat_suf (f := 1) slCells_len (by omega) hj))
        have HT1 : Hid ((R.take 0).length = 0) := by (show _ = _; rw [List.length_take]; omega)
        have HT2 : Hid ((R.drop 1).length = R.length - 1) := by (show _ = _; rw [List.length_drop])
        have HBl : Hid (b < Ua12u1.heap.size) := hblt
        have hsz1 : Ua12u1.heap.size ≤ (Ua12u1.alloc (.cells #[] 32)).heap.size := hbe.size
        obtain ⟨P, eP⟩ : ∃ P, P = R.take 0 := ⟨_, rfl⟩
        obtain ⟨Q, eQ⟩ : ∃ Q, Q = R.drop 1 := ⟨_, rfl⟩
        rw [← eP] at HC1 HT1
        rw [← eQ] at HC2 HT2
        rw [← eP, ← eQ] at HAn
        clear eP eQ
        obtain ⟨R2, eR2⟩ : ∃ R2, R2 = P ++ Q := ⟨_, rfl⟩
        have HR2 : Hid (P ++ Q = R2) := eR2.symm
        rw [← eR2] at HAn
        have HRn : Hid (R2.length + 1 = R.length) := by (show _ = _; have h1 := HT1.out; have h2 := HT2.out; rw [eR2, List.length_append]; omega)
        clear eR2
        obtain ⟨Ad, hAd, HA2⟩ : ∃ A : Addr, (if cap = 1 then some (⟨b, o, none⟩ : Addr) else some ⟨b, o + 4, none⟩) = some A ∧ Hid (∀ V : World, Below Ua12u1.heap.size Ua12u1 V → ∀ j u, (flatE slCells Q)[j]? = some u → V.cell? (A.add j) = some u) := src2 (f := 0) slCells_len HC2.out HBl.out hcapR HT2.out
        clear hbe hpl hblt HC2
        go_wp2_with (first
          | (at_builtin; refine wpList_append_own_at _ rfl _ _ 22 rfl Ua12u1.heap.size 32 isl (.agg #[.int .i64 0, .int .i64 0, .int .i64 0, .int .i64 0]) 4 32 Try.underlying22 hisl hz0sl hz1sl hz2sl rfl (by decide) _ _ _ rfl HB0.out.own ⟨b, o, none⟩ _ _ (flatE slCells P) rfl (by have h8 := flatE_length slCells_len P; have h9 := HT1.out; rw [h8, h9]; try (first | rfl | (congr 1; omega))) HC1.out (flat_sl _) (by (try simp only [List.length_nil]); have := HT1.out; have := HT2.out; unfold maxLen; omega) (by (try simp only [List.length_nil]); have := HT1.out; have := HT2.out; omega) hsz1 ?_; intro v1 w8 hown3 hgrow3 hnil3 hat3; have h0 := HB0.out.pushes (E := P) hown3 (by have := HT1.out; omega) hgrow3 hnil3; rw [List.nil_append] at h0; obtain ⟨g1, c1, e3⟩ := h0.sm; subst e3; have HB1 : Hid (BuR slCells 4 32 Ua12u1 (.slice (some ⟨g1, 0, none⟩) P.length c1) P w8) := h0; clear h0 hown3 hgrow3 hnil3 hat3; have HC3 : Hid (∀ j u, (flatE slCells Q)[j]? = some u → w8.cell? (Ad.add j) = some u) := HA2.out w8 HB1.out.bel; have hsz2 : Ua12u1.heap.size ≤ w8.heap.size := HB1.out.bel.size; clear HB0 HC1 hsz1)
          | (at_builtin; refine wpList_append_own_at _ rfl _ _ 22 rfl Ua12u1.heap.size 32 isl (.agg #[.int .i64 0, .int .i64 0, .int .i64 0, .int .i64 0]) 4 32 Try.underlying22 hisl hz0sl hz1sl hz2sl rfl (by decide) _ _ _ rfl HB1.out.own Ad _ _ (flatE slCells Q) rfl (by have h8 := flatE_length slCells_len Q; have h9 := HT2.out; rw [h8, h9]; try (first | rfl | (congr 1; omega))) HC3.out (flat_sl _) (by (try simp only [List.length_nil]); have := HT1.out; have := HT2.out; unfold maxLen; omega) (by (try simp only [List.length_nil]); have := HT1.out; have := HT2.out; omega) hsz2 ?_; intro v2 w9 hown3 hgrow3 hnil3 hat3; have h0 := HB1.out.pushes (E := Q) hown3 (by have := HT2.out; omega) hgrow3 hnil3; rw [HR2.out] at h0; obtain ⟨g2, c2, e3⟩ := h0.sm; subst e3; have HB2 : Hid (BuR slCells 4 32 Ua12u1 (.slice (some ⟨g2, 0, none⟩) R2.length c2) R2 w9) := h0; clear h0 hown3 hgrow3 hnil3 hat3; clear HB1 HC3 hsz2))
        have HSn : Hid (AnS w rb F L xb Fy (Lx ++ [x]) (.slice (some ⟨g2, 0, none⟩) R2.length c2) R2 w9) := HS.out.rest HB2.out (by have := HRn.out; omega)
        have hRn := HRn.out
        go_roundw
        case rel => exact ⟨t + 1, R2, _, Fy, by go_num, by omega, HSn, HAn⟩
        case measure => simp only [slLen]; omega
    · have hRn : R = [] := by (cases R with | nil => rfl | cons x R => simp at hR0)
      subst hRn
      have HPm : Hid (Lx.Perm L) := by (have h9 := HAp.out; rw [List.append_nil] at h9; exact h9)
      have HOe : Hid (ordL Lx = ordL L) := ord_any HPm.out
      have HLe : Hid (Lx.length = L.length) := HPm.out.length_eq
      have HLo : Hid ((ordL L).length ≤ 120) := by (show _ ≤ _; rw [ord_length HG.out]; omega)
      clear HAp HPm
      go_wp2_with fail
      refine (order_any Fx _ Lx _ HS.out.xt.rv).mono ?_
      rintro e w5 ⟨u, rfl, ho, hb⟩
      rw [HOe.out] at ho
      replace HS : Hid (AnS w rb F L xb Fx Lx (.slice (some ⟨b, o, none⟩) ([] : List Sl).length cap) [] w5) := HS.out.below hb
      obtain ⟨oa, oc, eo⟩ := ho.form
      subst eo
      obtain ⟨ob, eob⟩ : ∃ x, x = wr.heap.size := ⟨_, rfl⟩
      rw [← eob] at ho
      have HO1 : Hid (OwnSt ob w5 (.slice oa (ordL L).length oc) (ordL L)) := ho
      clear ho hb eob
      go_wp2_with fail
      refine (order_any F _ L _ HS.out.tt.rv).mono ?_
      rintro e w6 ⟨u, rfl, ho, hb⟩
      replace HS : Hid (AnS w rb F L xb Fx Lx (.slice (some ⟨b, o, none⟩) ([] : List Sl).length cap) [] w6) := HS.out.below hb
      replace HO1 : Hid (OwnSt ob w6 (.slice oa (ordL L).length oc) (ordL L)) := HO1.out.below hb
      obtain ⟨oa2, oc2, eo⟩ := ho.form
      subst eo
      have HO2 : Hid (OwnSt w5.heap.size w6 (.slice oa2 (ordL L).length oc2) (ordL L)) := ho
      clear ho hb
      go_wp2_with fail
      refine (S.same_any _ _ (ordL L) (ordL L) _ (isS_of (HO1.out.lsE (G := fun _ => True) stCells_len (by have := HLo.out; omega) (fun _ _ => trivial))) (isS_of (HO2.out.lsE (G := fun _ => True) stCells_len (by have := HLo.out; omega) (fun _ _ => trivial)))).mono ?_
      rintro e w7 ⟨rfl, hb⟩
      replace HS : Hid (AnS w rb F L xb Fx Lx (.slice (some ⟨b, o, none⟩) ([] : List Sl).length cap) [] w7) := HS.out.below hb
      clear hb HO1 HO2
      rw [decide_eq_true (rfl : ordL L = ordL L)]
      go_wp2_with fail
      refine (lenIs_any Fx xb Lx _ HS.out.xt).mono ?_
      rintro e w8 ⟨rfl, hw⟩
      replace hw := hw.symm
      subst hw
      rw [HLe.out]
      go_wp2_with fail
      refine (awake_any _).mono ?_
      rintro e w9 ⟨rfl, hb⟩
      have HB : Hid (Below w.heap.size w w9) := HS.out.bel.trans (hb.mono HS.out.bel.size)
      clear hb HS
      go_wp2
      go_ret
      exact ⟨rfl, HB.out⟩

end Go.Proofs.Ytmclnlpbogmbnaa
