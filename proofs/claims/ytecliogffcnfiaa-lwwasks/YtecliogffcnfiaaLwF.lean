/- Rows that the document builds; its Put. -/
import Derived.Test.YtecliogffcnfiaaLwD
import Derived.Test.YtecliogffcnfiaaBaseL
namespace Go.Proofs.Ytecliogffcnfiaa
open Go.RowKit
set_option linter.unusedVariables false
set_option linter.unusedSimpArgs false
/-- A row that is being built in new memory. -/
structure BuR {α : Type} (enc : α → List Value) (n : Nat) (T : TypeId) (W0 : World) (ov : Value) (D : List α) (W : World) : Prop where
  bel : Below W0.heap.size W0 W
  own : OwnE enc n T W0.heap.size W ov D
  sm : ∃ g c, ov = .slice (some ⟨g, 0, none⟩) D.length c
section
variable {α : Type} {enc : α → List Value} {n : Nat} {T : TypeId} {W0 : World} {ov : Value} {D E : List α} {W W' : World}
theorem BuR.below (h : BuR enc n T W0 ov D W) (hb : Below W.heap.size W W') : BuR enc n T W0 ov D W' := ⟨h.bel.trans (hb.mono h.bel.size), h.own.below hb, h.sm⟩
theorem BuR.push (h : BuR enc n T W0 ov D W) {g c : Nat} {x : α} (ho : W'.ownsRow W0.heap.size T n (.slice (some ⟨g, 0, none⟩) (D.length + 1) c) (D.length + 1) (flatE enc D ++ enc x)) (hg : W.grownBy W' ov.ownBlock) : BuR enc n T W0 (.slice (some ⟨g, 0, none⟩) (D.length + 1) c) (D ++ [x]) W' :=
  ⟨h.bel.grown hg h.bel.size (fun k e => (h.own.lt k e).1), OwnE.snoc rfl ho, g, c, by simp⟩
theorem BuR.out {Wk : World} (h : BuR enc n T Wk ov D W) (hb : Below W0.heap.size W0 Wk) : BuR enc n T W0 ov D W := ⟨hb.trans (h.bel.mono hb.size), h.own.low hb.size, h.sm⟩
theorem own_succ {w : World} {B : Nat} {v : Value} {k : Nat} {xs : List Value} (h : w.ownsRow B T n v (k + 1) xs) : ∃ g cap, v = .slice (some ⟨g, 0, none⟩) (k + 1) cap := by
  rcases h.2 with ⟨_, hn⟩ | ⟨g, cap, cur, rfl, _⟩
  · omega
  · exact ⟨g, cap, rfl⟩
theorem BuR.pushes (h : BuR enc n T W0 ov D W) {v : Value} {m : Nat} (ho : W'.ownsRow W0.heap.size T n v (D.length + m) (flatE enc D ++ flatE enc E)) (hm : E.length = m) (hg : W.grownBy W' ov.ownBlock) (hn : v = .slice none 0 0 ↔ ov = .slice none 0 0 ∧ m = 0) : BuR enc n T W0 v (D ++ E) W' := by
  refine ⟨h.bel.grown hg h.bel.size (fun k e => (h.own.lt k e).1), by (show World.ownsRow _ _ _ _ _ _ _; rw [List.length_append, hm, flatE_append]; exact ho), ?_⟩
  rcases ho.2 with ⟨e, _⟩ | ⟨g, cap, cur, e, _⟩
  · obtain ⟨g, c, e2⟩ := h.sm
    rw [e2] at hn
    cases (hn.1 e).1
  · exact ⟨g, cap, by rw [List.length_append, hm]; exact e⟩
theorem rows_flat (hn : ∀ x, (enc x).length = n) {b : Nat} : ∀ (D : List α) (o : Nat), (∀ i (h : i < D.length) j u, (enc D[i])[j]? = some u → W.cell? ⟨b, o + i * n + j, none⟩ = some u) → ∀ j u, (flatE enc D)[j]? = some u → W.cell? ⟨b, o + j, none⟩ = some u
  | [], o, _, j, u, hj => by simp [flatE] at hj
  | x :: D, o, h, j, u, hj => by
    rw [flatE_cons] at hj
    by_cases hjn : j < n
    · rw [List.getElem?_append_left (by rw [hn]; exact hjn)] at hj
      have := h 0 (by simp) j u hj
      rw [Nat.zero_mul, Nat.add_zero] at this
      exact this
    · rw [List.getElem?_append_right (by rw [hn]; omega), hn] at hj
      have := rows_flat hn D (o + n) (fun i hi k v hk => by
        have h2 := h (i + 1) (by simpa using hi) k v hk
        rw [Nat.add_mul, Nat.one_mul, show o + (i * n + n) + k = o + n + i * n + k by omega] at h2
        exact h2) (j - n) u hj
      rw [show o + n + (j - n) = o + j by omega] at this
      exact this
theorem BuR.lsE {G : Nat → Prop} (h : BuR enc n T W0 ov D W) (hn : ∀ x, (enc x).length = n) (hl : D.length ≤ 16384) (hG : ∀ j, W0.heap.size ≤ j → G j) : LsE enc n G W ov D := h.own.lsE hn (by omega) (fun k e => hG k (h.own.lt k e).1)
end
theorem BuR.new (W : World) : BuR rgCells 7 26 W (.slice (some ⟨W.heap.size, 0, none⟩) 0 0) [] (W.alloc (.cells #[] 26)) :=
  ⟨(Below.refl _ _).alloc (Nat.le_refl _) _, World.ownsRow_made W #[] 0 (Nat.le_refl _) (by unfold maxLen; omega) (by simp), W.heap.size, 0, rfl⟩

theorem BuR.newA (W : World) : BuR atCells 2 42 W (.slice (some ⟨W.heap.size, 0, none⟩) 0 0) [] (W.alloc (.cells #[] 42)) :=
  ⟨(Below.refl _ _).alloc (Nat.le_refl _) _, World.ownsRow_made W #[] 0 (Nat.le_refl _) (by unfold maxLen; omega) (by simp), W.heap.size, 0, rfl⟩

theorem infoReg : (Try.prog.info? 26).map (fun i => (i.zero, i.size, i.bytes)) = some (some (.agg #[.int .i64 0, .int .i64 0, .string ⟨#[]⟩, .int .i64 0, .int .i64 0, .string ⟨#[]⟩, .bool false]), 7, 72) := by kernel_rfl
theorem rgCells_one (x : Rg) : ∀ u ∈ rgCells x, u.oneCell' = true := by
  intro u hu
  simp only [rgCells, List.mem_cons, List.not_mem_nil, or_false] at hu
  rcases hu with rfl | rfl | rfl | rfl | rfl | rfl | rfl <;> rfl
theorem atCells_one (x : ByteArray × ByteArray) : ∀ u ∈ atCells x, u.oneCell' = true := by
  intro u hu
  simp only [atCells, List.mem_cons, List.not_mem_nil, or_false] at hu
  rcases hu with rfl | rfl <;> rfl
section
variable {G : Nat → Prop} {w : World} {v : Value} {L : List Rg}
theorem LsE.row7 (h : LsE rgCells 7 G w v L) {i : Nat} (hi : i < L.length) : ∃ b o cap, v = .slice (some ⟨b, o, none⟩) L.length cap ∧ G b ∧ b < w.heap.size ∧ ∀ j u, (rgCells L[i])[j]? = some u → w.cell? ⟨b, o + i * 7 + j, none⟩ = some u := by
  obtain ⟨a, cap, e1, _, _, hr⟩ := h
  obtain ⟨b, o, rfl, hg, hlt, hr⟩ := hr.resolve_left (by intro e; subst e; simp at hi)
  exact ⟨b, o, cap, e1, hg, hlt, fun j u hj => hr i hi j u hj⟩
end

set_option maxRecDepth 100000 in
set_option maxHeartbeats 16000000 in
theorem refPut_any (G : Nat → Prop) (v : Value) (R : List Rg) (r : Rg) (w : World) (h : LsE rgCells 7 G w v R) (hs : SrtR R) (hl : R.length < 4096) (hsz : r.nm.size ≤ 281474976710656) :
    Calls Try.prog 13 #[v, .agg #[.int .i64 r.nd.1, .int .i64 r.nd.2, .string r.nm, .int .i64 r.at_.1, .int .i64 r.at_.2, .string r.vl, .bool r.gn]] w fun e w' => ∃ v', e = .returned (.tuple #[v', .int .i64 (chkR r)]) ∧ LsE rgCells 7 (fun j => G j ∨ w.heap.size ≤ j) w' v' (putC R r) ∧ Below w.heap.size w w' := by
  obtain ⟨av, cl, rfl⟩ := h.form
  obtain ⟨irg, hirg, hz0rg, hz1rg, hz2rg⟩ := info_parts infoReg
  obtain ⟨W0, eW⟩ : ∃ X, X = w.alloc (.cells (rgCells r).toArray 26) := ⟨_, rfl⟩
  have HB : Hid (Below w.heap.size w W0) := by rw [eW]; exact (Below.refl _ _).alloc (Nat.le_refl _) _
  have HX : Hid (BxC w.heap.size (rgCells r) 26 W0) := by rw [eW]; exact BxC.new w _ _
  have HL : Hid (LsE rgCells 7 G W0 (.slice av R.length cl) R) := h.below HB.out
  have HSr : Hid (SrtR R) := hs
  have x0 : W0.cell? ⟨w.heap.size, 0, none⟩ = some (.int .i64 r.nd.1) := HX.out.cell 0 _ rfl
  have x1 : W0.cell? ⟨w.heap.size, 1, none⟩ = some (.int .i64 r.nd.2) := HX.out.cell 1 _ rfl
  have x2 : W0.cell? ⟨w.heap.size, 2, none⟩ = some (.string r.nm) := HX.out.cell 2 _ rfl
  have x3 : W0.cell? ⟨w.heap.size, 3, none⟩ = some (.int .i64 r.at_.1) := HX.out.cell 3 _ rfl
  have x4 : W0.cell? ⟨w.heap.size, 4, none⟩ = some (.int .i64 r.at_.2) := HX.out.cell 4 _ rfl
  have x5 : W0.cell? ⟨w.heap.size, 5, none⟩ = some (.string r.vl) := HX.out.cell 5 _ rfl
  have x6 : W0.cell? ⟨w.heap.size, 6, none⟩ = some (.bool r.gn) := HX.out.cell 6 _ rfl
  rw [eW] at x0 x1 x2 x3 x4 x5 x6
  clear h hs
  go_enter Try.func13, Try.ntmps13
  go_wp2_with fail
  have eW2 := eW
  simp only [rgCells] at eW2
  rw [← eW2]
  clear eW2 eW x0 x1 x2 x3 x4 x5 x6
  refine (refCheck_any r hsz _).mono ?_
  rintro e w1 ⟨rfl, hb⟩
  replace HX : Hid (BxC w.heap.size (rgCells r) 26 w1) := HX.out.below hb
  replace HL : Hid (LsE rgCells 7 G w1 (.slice av R.length cl) R) := HL.out.below hb
  replace HB : Hid (Below w.heap.size w w1) := HB.out.trans (hb.mono HB.out.size)
  clear hb
  have x0 : w1.cell? ⟨w.heap.size, 0, none⟩ = some (.int .i64 r.nd.1) := HX.out.cell 0 _ rfl
  have x1 : w1.cell? ⟨w.heap.size, 1, none⟩ = some (.int .i64 r.nd.2) := HX.out.cell 1 _ rfl
  have x2 : w1.cell? ⟨w.heap.size, 2, none⟩ = some (.string r.nm) := HX.out.cell 2 _ rfl
  have x3 : w1.cell? ⟨w.heap.size, 3, none⟩ = some (.int .i64 r.at_.1) := HX.out.cell 3 _ rfl
  have x4 : w1.cell? ⟨w.heap.size, 4, none⟩ = some (.int .i64 r.at_.2) := HX.out.cell 4 _ rfl
  have x5 : w1.cell? ⟨w.heap.size, 5, none⟩ = some (.string r.vl) := HX.out.cell 5 _ rfl
  have x6 : w1.cell? ⟨w.heap.size, 6, none⟩ = some (.bool r.gn) := HX.out.cell 6 _ rfl
  by_cases h0 : chkR r = 0
  · have HP : Hid (putC R r = insR R r) := by (show _ = _; unfold putC okR; simp [h0])
    have HC : Hid (chkR r = 0) := h0
    rw [h0]
    clear h0
    have HQ0 : Hid (w1.cell? ⟨w.heap.size, 0, none⟩ = some (.int .i64 r.nd.1)) := HX.out.cell 0 _ rfl
    have HQ1 : Hid (w1.cell? ⟨w.heap.size, 1, none⟩ = some (.int .i64 r.nd.2)) := HX.out.cell 1 _ rfl
    have HQ2 : Hid (w1.cell? ⟨w.heap.size, 2, none⟩ = some (.string r.nm)) := HX.out.cell 2 _ rfl
    have HQ3 : Hid (w1.cell? ⟨w.heap.size, 3, none⟩ = some (.int .i64 r.at_.1)) := HX.out.cell 3 _ rfl
    have HQ4 : Hid (w1.cell? ⟨w.heap.size, 4, none⟩ = some (.int .i64 r.at_.2)) := HX.out.cell 4 _ rfl
    have HQ5 : Hid (w1.cell? ⟨w.heap.size, 5, none⟩ = some (.string r.vl)) := HX.out.cell 5 _ rfl
    have HQ6 : Hid (w1.cell? ⟨w.heap.size, 6, none⟩ = some (.bool r.gn)) := HX.out.cell 6 _ rfl
    have HGb : Hid (w.heap.size < w1.heap.size) := HX.out.lt
    obtain ⟨w2, ew2⟩ : ∃ X, X = w1.alloc (.cells #[] 26) := ⟨_, rfl⟩
    have HBu0 : Hid (BuR rgCells 7 26 w1 (.slice (some ⟨w1.heap.size, 0, none⟩) 0 0) ([]) w2) := by rw [ew2]; exact BuR.new w1
    clear x0 x1 x2 x3 x4 x5 x6
    go_wp2_with fail
    rw [← ew2]
    clear ew2
    go_loopw [6, 7, 8] (fun ov dv iv wr => ∃ (i : Nat), iv = .int .i64 (i : Int) ∧ i ≤ R.length ∧ dv = .bool (putTo r (R.take i)).2 ∧ Hid (BuR rgCells 7 26 w1 ov ((putTo r (R.take i)).1) wr)) (fun _ _ iv _ => R.length - (intOf iv).toNat)
    case atStart => exact ⟨0, rfl, Nat.zero_le _, rfl, HBu0⟩
    case round =>
      clear HBu0
      obtain ⟨i, rfl, hil0, rfl, HBu⟩ := hrel
      have hDn0 := putTo_length r R i hil0
      obtain ⟨D, eD⟩ : ∃ D, D = (putTo r (R.take i)).1 := ⟨_, rfl⟩
      obtain ⟨dn, edn⟩ : ∃ d, d = (putTo r (R.take i)).2 := ⟨_, rfl⟩
      have HDd : Hid (putTo r (R.take i) = (D, dn)) := by (show _ = _; rw [eD, edn])
      rw [← eD] at HBu hDn0
      rw [← edn]
      have hDn : D.length ≤ 8192 := by omega
      clear eD edn hDn0
      obtain ⟨gv, cv, e9⟩ := HBu.out.sm
      subst e9
      by_cases hlt : i < R.length
      · obtain ⟨b, o, cap, ev, hgb, hbl, hrow⟩ := HL.out.row7 (i := i) hlt
        injection ev with ev1 ev2 ev3
        subst ev1
        subst ev3
        have HSt0 : putTo r (R.take (i + 1)) = stepP r (D, dn) R[i] := by rw [putTo_next r R i hlt, HDd.out]
        obtain ⟨x, ex⟩ : ∃ x, x = R[i] := ⟨_, rfl⟩
        rw [← ex] at hrow HSt0
        have HSt : Hid (putTo r (R.take (i + 1)) = stepP r (D, dn) x) := HSt0
        have HGl : Hid (b < w1.heap.size) := hbl
        have HX0 : Hid (w1.cell? ⟨b, o + i * 7, none⟩ = some (.int .i64 x.nd.1)) := hrow 0 _ rfl
        have HX1 : Hid (w1.cell? ⟨b, o + i * 7 + 1, none⟩ = some (.int .i64 x.nd.2)) := hrow 1 _ rfl
        have HX2 : Hid (w1.cell? ⟨b, o + i * 7 + 2, none⟩ = some (.string x.nm)) := hrow 2 _ rfl
        have HX3 : Hid (w1.cell? ⟨b, o + i * 7 + 3, none⟩ = some (.int .i64 x.at_.1)) := hrow 3 _ rfl
        have HX4 : Hid (w1.cell? ⟨b, o + i * 7 + 4, none⟩ = some (.int .i64 x.at_.2)) := hrow 4 _ rfl
        have HX5 : Hid (w1.cell? ⟨b, o + i * 7 + 5, none⟩ = some (.string x.vl)) := hrow 5 _ rfl
        have HX6 : Hid (w1.cell? ⟨b, o + i * 7 + 6, none⟩ = some (.bool x.gn)) := hrow 6 _ rfl
        have k1 : (i : Int) < (R.length : Int) := by omega
        have k0 : (0 : Int) ≤ (i : Int) := by omega
        clear ex hrow hbl hgb ev2 HSt0 HDd
        go_wp2_with fail
        by_cases hN : x.nd = r.nd
        · have HN : Hid (x.nd = r.nd) := hN
          by_cases hM : x.nm = r.nm
          · have HM : Hid (x.nm = r.nm) := hM
            have HK : Hid (keyR x = keyR r) := Prod.ext hN hM
            clear hN hM
            refine wp_region_held_drew (S := fun W' => Below w1.heap.size w1 W') (by kernel_rfl) HBu.out.bel.drew (fun hHeld => ?_)
            obtain ⟨Ua1u0, eW⟩ : ∃ X, X = wr.drew := ⟨_, rfl⟩
            have hb : Below wr.heap.size wr Ua1u0 := by rw [eW]; exact (Below.refl _ _).drew
            replace HBu : Hid (BuR rgCells 7 26 w1 (.slice (some ⟨gv, 0, none⟩) D.length cv) (D) Ua1u0) := HBu.out.below hb
            rw [← eW] at hHeld ⊢
            clear eW hb
            refine tkW 0 (some 22) (v := ?_) ?_ hHeld ?_
            rotate_left
            · (intro ww _; go_simp; try with_reducible rfl)
            refine tkW 1 (some 23) (v := ?_) ?_ hHeld ?_
            rotate_left
            · (intro ww _; go_simp; try with_reducible rfl)
            refine tkW 2 (some 24) (v := ?_) ?_ hHeld ?_
            rotate_left
            · (intro ww hSw; (try dsimp only at hSw); go_simp; try with_reducible rfl)
            refine tkW 3 (some 25) (v := ?_) ?_ hHeld ?_
            rotate_left
            · (intro ww hSw; (try dsimp only at hSw); go_simp; try with_reducible rfl)
            refine tkW 4 (some 26) (v := ?_) ?_ hHeld ?_
            rotate_left
            · (intro ww hSw; (try dsimp only at hSw); have hbw := hSw; have r0 := (hbw.cell (p := ⟨b, o + i * 7, none⟩) HGl.out).trans HX0.out; have r1 := (hbw.cell (p := ⟨b, o + i * 7 + 1, none⟩) HGl.out).trans HX1.out; have r2 := (hbw.cell (p := ⟨b, o + i * 7 + 2, none⟩) HGl.out).trans HX2.out; have r3 := (hbw.cell (p := ⟨b, o + i * 7 + 3, none⟩) HGl.out).trans HX3.out; have r4 := (hbw.cell (p := ⟨b, o + i * 7 + 4, none⟩) HGl.out).trans HX4.out; have r5 := (hbw.cell (p := ⟨b, o + i * 7 + 5, none⟩) HGl.out).trans HX5.out; have r6 := (hbw.cell (p := ⟨b, o + i * 7 + 6, none⟩) HGl.out).trans HX6.out; go_simp; try with_reducible rfl)
            refine tkW 5 (some 27) (v := ?_) ?_ hHeld ?_
            rotate_left
            · (intro ww _; go_simp; try with_reducible rfl)
            refine tkW 6 (some 28) (v := ?_) ?_ hHeld ?_
            rotate_left
            · (intro ww hSw; (try dsimp only at hSw); have hbw := hSw; have q0 := (hbw.cell (p := ⟨w.heap.size, 0, none⟩) HGb.out).trans HQ0.out; have q1 := (hbw.cell (p := ⟨w.heap.size, 1, none⟩) HGb.out).trans HQ1.out; have q2 := (hbw.cell (p := ⟨w.heap.size, 2, none⟩) HGb.out).trans HQ2.out; have q3 := (hbw.cell (p := ⟨w.heap.size, 3, none⟩) HGb.out).trans HQ3.out; have q4 := (hbw.cell (p := ⟨w.heap.size, 4, none⟩) HGb.out).trans HQ4.out; have q5 := (hbw.cell (p := ⟨w.heap.size, 5, none⟩) HGb.out).trans HQ5.out; have q6 := (hbw.cell (p := ⟨w.heap.size, 6, none⟩) HGb.out).trans HQ6.out; go_simp; try with_reducible rfl)
            refine tkW 7 (some 29) (v := .bool true) ?_ hHeld ?_
            · (intro ww hSw; (try dsimp only at hSw); have e1 : x.nd.1 = r.nd.1 := congrArg Prod.fst HN.out; have e2 : x.nd.2 = r.nd.2 := congrArg Prod.snd HN.out; go_simp; try simp [e1, e2])
            refine tkW 8 (some 30) (v := ?_) ?_ hHeld ?_
            rotate_left
            · (intro ww _; go_simp; try with_reducible rfl)
            refine tkW 9 (some 31) (v := ?_) ?_ hHeld ?_
            rotate_left
            · (intro ww _; go_simp; try with_reducible rfl)
            refine tkW 10 (some 32) (v := ?_) ?_ hHeld ?_
            rotate_left
            · (intro ww _; go_simp; try with_reducible rfl)
            refine tkW 11 (some 33) (v := ?_) ?_ hHeld ?_
            rotate_left
            · (intro ww hSw; (try dsimp only at hSw); go_simp; try with_reducible rfl)
            refine tkW 12 (some 34) (v := ?_) ?_ hHeld ?_
            rotate_left
            · (intro ww _; go_simp; try with_reducible rfl)
            refine tkW 13 (some 35) (v := ?_) ?_ hHeld ?_
            rotate_left
            · (intro ww hSw; (try dsimp only at hSw); have hbw := hSw; have r0 := (hbw.cell (p := ⟨b, o + i * 7, none⟩) HGl.out).trans HX0.out; have r1 := (hbw.cell (p := ⟨b, o + i * 7 + 1, none⟩) HGl.out).trans HX1.out; have r2 := (hbw.cell (p := ⟨b, o + i * 7 + 2, none⟩) HGl.out).trans HX2.out; have r3 := (hbw.cell (p := ⟨b, o + i * 7 + 3, none⟩) HGl.out).trans HX3.out; have r4 := (hbw.cell (p := ⟨b, o + i * 7 + 4, none⟩) HGl.out).trans HX4.out; have r5 := (hbw.cell (p := ⟨b, o + i * 7 + 5, none⟩) HGl.out).trans HX5.out; have r6 := (hbw.cell (p := ⟨b, o + i * 7 + 6, none⟩) HGl.out).trans HX6.out; go_simp; try with_reducible rfl)
            refine tkW 14 (some 36) (v := ?_) ?_ hHeld ?_
            rotate_left
            · (intro ww _; go_simp; try with_reducible rfl)
            refine tkW 15 (some 37) (v := ?_) ?_ hHeld ?_
            rotate_left
            · (intro ww hSw; (try dsimp only at hSw); have hbw := hSw; have q0 := (hbw.cell (p := ⟨w.heap.size, 0, none⟩) HGb.out).trans HQ0.out; have q1 := (hbw.cell (p := ⟨w.heap.size, 1, none⟩) HGb.out).trans HQ1.out; have q2 := (hbw.cell (p := ⟨w.heap.size, 2, none⟩) HGb.out).trans HQ2.out; have q3 := (hbw.cell (p := ⟨w.heap.size, 3, none⟩) HGb.out).trans HQ3.out; have q4 := (hbw.cell (p := ⟨w.heap.size, 4, none⟩) HGb.out).trans HQ4.out; have q5 := (hbw.cell (p := ⟨w.heap.size, 5, none⟩) HGb.out).trans HQ5.out; have q6 := (hbw.cell (p := ⟨w.heap.size, 6, none⟩) HGb.out).trans HQ6.out; go_simp; try with_reducible rfl)
            refine tkW 16 (some 38) (v := .bool true) ?_ hHeld ?_
            · (intro ww hSw; (try dsimp only at hSw); have ht : (x.nm.toList == r.nm.toList) = true := (by rw [txt_eq]; exact decide_eq_true HM.out); go_simp; try with_reducible rfl)
            refine tkW 17 (some 39) (v := ?_) ?_ hHeld ?_
            rotate_left
            · (intro ww _; go_simp; try with_reducible rfl)
            refine wpAnyH_done (by kernel_rfl) ?_ _
            clear hHeld
            go_wp2_with fail
            refine wp_region_held_drew (S := fun W' => Below w1.heap.size w1 W') (by kernel_rfl) HBu.out.bel.drew (fun hHeld => ?_)
            obtain ⟨Uw2u0, eW⟩ : ∃ X, X = Ua1u0.drew := ⟨_, rfl⟩
            have hb : Below Ua1u0.heap.size Ua1u0 Uw2u0 := by rw [eW]; exact (Below.refl _ _).drew
            replace HBu : Hid (BuR rgCells 7 26 w1 (.slice (some ⟨gv, 0, none⟩) D.length cv) (D) Uw2u0) := HBu.out.below hb
            rw [← eW] at hHeld ⊢
            clear eW hb
            refine tkW 0 (some 40) (v := ?_) ?_ hHeld ?_
            rotate_left
            · (intro ww hSw; (try dsimp only at hSw); have hbw := hSw; have q0 := (hbw.cell (p := ⟨w.heap.size, 0, none⟩) HGb.out).trans HQ0.out; have q1 := (hbw.cell (p := ⟨w.heap.size, 1, none⟩) HGb.out).trans HQ1.out; have q2 := (hbw.cell (p := ⟨w.heap.size, 2, none⟩) HGb.out).trans HQ2.out; have q3 := (hbw.cell (p := ⟨w.heap.size, 3, none⟩) HGb.out).trans HQ3.out; have q4 := (hbw.cell (p := ⟨w.heap.size, 4, none⟩) HGb.out).trans HQ4.out; have q5 := (hbw.cell (p := ⟨w.heap.size, 5, none⟩) HGb.out).trans HQ5.out; have q6 := (hbw.cell (p := ⟨w.heap.size, 6, none⟩) HGb.out).trans HQ6.out; go_simp; try with_reducible rfl)
            refine tkW 1 (some 41) (v := ?_) ?_ hHeld ?_
            rotate_left
            · (intro ww _; go_simp; try with_reducible rfl)
            refine tkW 2 (some 42) (v := ?_) ?_ hHeld ?_
            rotate_left
            · (intro ww _; go_simp; try with_reducible rfl)
            refine tkW 3 (some 43) (v := ?_) ?_ hHeld ?_
            rotate_left
            · (intro ww hSw; (try dsimp only at hSw); go_simp; try with_reducible rfl)
            refine tkW 4 (some 44) (v := ?_) ?_ hHeld ?_
            rotate_left
            · (intro ww hSw; (try dsimp only at hSw); have hbw := hSw; have r0 := (hbw.cell (p := ⟨b, o + i * 7, none⟩) HGl.out).trans HX0.out; have r1 := (hbw.cell (p := ⟨b, o + i * 7 + 1, none⟩) HGl.out).trans HX1.out; have r2 := (hbw.cell (p := ⟨b, o + i * 7 + 2, none⟩) HGl.out).trans HX2.out; have r3 := (hbw.cell (p := ⟨b, o + i * 7 + 3, none⟩) HGl.out).trans HX3.out; have r4 := (hbw.cell (p := ⟨b, o + i * 7 + 4, none⟩) HGl.out).trans HX4.out; have r5 := (hbw.cell (p := ⟨b, o + i * 7 + 5, none⟩) HGl.out).trans HX5.out; have r6 := (hbw.cell (p := ⟨b, o + i * 7 + 6, none⟩) HGl.out).trans HX6.out; go_simp; try with_reducible rfl)
            refine wpAnyH_ready (rs := [5]) (by kernel_rfl) (by simp) ?_
            refine AllReadyH.cons (o := ⟨some 45, _, _, _, _, _⟩) rfl (fun K hK => ?_) AllReadyH.nil
            go_simp
            refine (refWins_any r x _).mono ?_
            rintro e Uw2u1 ⟨rfl, hb⟩
            (try go_wp2_with fail)
            refine hK.out _ _ (hHeld.trans (hb.mono hHeld.size)) (fun hHeld2 => ?_)
            clear hK K hHeld
            have hHeld := hHeld2
            clear hHeld2
            (try simp only [Act.put, List.setIfInBounds_toArray, List.set_cons_zero, List.set_cons_succ])
            replace HBu : Hid (BuR rgCells 7 26 w1 (.slice (some ⟨gv, 0, none⟩) D.length cv) (D) Uw2u1) := HBu.out.below hb
            clear hb
            refine wpAnyH_done (by kernel_rfl) ?_ _
            clear hHeld
            cases hW : winB r x with
            | true =>
              have HNx : Hid (putTo r (R.take (i + 1)) = (D ++ [r], true)) := by (show _ = _; rw [HSt.out]; unfold stepP; simp [show keyR x = keyR r from HK.out, hW])
              clear hW
              have q0 : Uw2u1.cell? ⟨w.heap.size, 0, none⟩ = some (.int .i64 r.nd.1) := (HBu.out.bel.cell (p := ⟨w.heap.size, 0, none⟩) HGb.out).trans HQ0.out
              have q1 : Uw2u1.cell? ⟨w.heap.size, 1, none⟩ = some (.int .i64 r.nd.2) := (HBu.out.bel.cell (p := ⟨w.heap.size, 1, none⟩) HGb.out).trans HQ1.out
              have q2 : Uw2u1.cell? ⟨w.heap.size, 2, none⟩ = some (.string r.nm) := (HBu.out.bel.cell (p := ⟨w.heap.size, 2, none⟩) HGb.out).trans HQ2.out
              have q3 : Uw2u1.cell? ⟨w.heap.size, 3, none⟩ = some (.int .i64 r.at_.1) := (HBu.out.bel.cell (p := ⟨w.heap.size, 3, none⟩) HGb.out).trans HQ3.out
              have q4 : Uw2u1.cell? ⟨w.heap.size, 4, none⟩ = some (.int .i64 r.at_.2) := (HBu.out.bel.cell (p := ⟨w.heap.size, 4, none⟩) HGb.out).trans HQ4.out
              have q5 : Uw2u1.cell? ⟨w.heap.size, 5, none⟩ = some (.string r.vl) := (HBu.out.bel.cell (p := ⟨w.heap.size, 5, none⟩) HGb.out).trans HQ5.out
              have q6 : Uw2u1.cell? ⟨w.heap.size, 6, none⟩ = some (.bool r.gn) := (HBu.out.bel.cell (p := ⟨w.heap.size, 6, none⟩) HGb.out).trans HQ6.out
              have halp : Below Uw2u1.heap.size Uw2u1 (Uw2u1.alloc (.cells #[.int .i64 r.nd.1, .int .i64 r.nd.2, .string r.nm, .int .i64 r.at_.1, .int .i64 r.at_.2, .string r.vl, .bool r.gn] 26)) := (Below.refl _ _).alloc (Nat.le_refl _) _
              have HBap : Hid (BuR rgCells 7 26 w1 (.slice (some ⟨gv, 0, none⟩) D.length cv) (D) (Uw2u1.alloc (.cells #[.int .i64 r.nd.1, .int .i64 r.nd.2, .string r.nm, .int .i64 r.at_.1, .int .i64 r.at_.2, .string r.vl, .bool r.gn] 26))) := HBu.out.below halp
              have HNwp : Hid (∀ j u, ([.int .i64 r.nd.1, .int .i64 r.nd.2, .string r.nm, .int .i64 r.at_.1, .int .i64 r.at_.2, .string r.vl, .bool r.gn] : List Value)[j]? = some u → (Uw2u1.alloc (.cells #[.int .i64 r.nd.1, .int .i64 r.nd.2, .string r.nm, .int .i64 r.at_.1, .int .i64 r.at_.2, .string r.vl, .bool r.gn] 26)).cell? ((⟨Uw2u1.heap.size, 0, none⟩ : Addr).add j) = some u) := fun j u hj => (by rw [Addr.add_lit, cell_of_row _ _ _ _ _ _ (heap_alloc_new Uw2u1 _)]; simpa using hj)
              have hszp : w1.heap.size ≤ (Uw2u1.alloc (.cells #[.int .i64 r.nd.1, .int .i64 r.nd.2, .string r.nm, .int .i64 r.at_.1, .int .i64 r.at_.2, .string r.vl, .bool r.gn] 26)).heap.size := HBap.out.bel.size
              clear halp
              go_wp2_with (at_builtin; refine wpList_append_own_at _ rfl _ _ 22 rfl w1.heap.size 26 irg (.agg #[.int .i64 0, .int .i64 0, .string ⟨#[]⟩, .int .i64 0, .int .i64 0, .string ⟨#[]⟩, .bool false]) 7 72 Try.underlying22 hirg hz0rg hz1rg hz2rg rfl (by decide) _ _ _ rfl HBap.out.own ⟨Uw2u1.heap.size, 0, none⟩ 1 1 [.int .i64 r.nd.1, .int .i64 r.nd.2, .string r.nm, .int .i64 r.at_.1, .int .i64 r.at_.2, .string r.vl, .bool r.gn] rfl rfl HNwp.out (rgCells_one r) (by unfold maxLen; omega) (by omega) hszp ?_; intro v3 w8 hown3 hgrow3 hnil3 hat3; obtain ⟨gp, cp, e3⟩ := own_succ hown3; subst e3; have HB8 : Hid (BuR rgCells 7 26 w1 (.slice (some ⟨gp, 0, none⟩) (D.length + 1) cp) (D ++ [r]) w8) := HBap.out.push hown3 hgrow3; clear hown3 hgrow3 hnil3 hat3 HBap HNwp hszp)
              go_roundw
              case rel => exact ⟨i + 1, by go_num, by omega, by (rw [HNx.out]), by (rw [HNx.out]; exact HB8)⟩
              case measure => simp [intOf]; omega
            | false =>
              have HNx : Hid (putTo r (R.take (i + 1)) = (D ++ [x], true)) := by (show _ = _; rw [HSt.out]; unfold stepP; simp [show keyR x = keyR r from HK.out, hW])
              clear hW
              go_wp2_with fail
              refine wp_region_held_drew (S := fun W' => Below w1.heap.size w1 W') (by kernel_rfl) HBu.out.bel.drew (fun hHeld => ?_)
              obtain ⟨Uf3u0, eW⟩ : ∃ X, X = Uw2u1.drew := ⟨_, rfl⟩
              have hb : Below Uw2u1.heap.size Uw2u1 Uf3u0 := by rw [eW]; exact (Below.refl _ _).drew
              replace HBu : Hid (BuR rgCells 7 26 w1 (.slice (some ⟨gv, 0, none⟩) D.length cv) (D) Uf3u0) := HBu.out.below hb
              rw [← eW] at hHeld ⊢
              clear eW hb
              refine tkW 0 (some 50) (v := ?_) ?_ hHeld ?_
              rotate_left
              · (intro ww _; go_simp; try with_reducible rfl)
              refine tkW 1 (some 51) (v := ?_) ?_ hHeld ?_
              rotate_left
              · (intro ww _; go_simp; try with_reducible rfl)
              refine tkW 2 (some 52) (v := ?_) ?_ hHeld ?_
              rotate_left
              · (intro ww _; go_simp; try with_reducible rfl)
              refine tkU 3 (some 53) hHeld ?_
              refine tkU 4 (some 54) hHeld ?_
              refine tkU 5 (some 55) hHeld ?_
              refine tkU 6 (some 56) hHeld ?_
              refine tkU 7 (some 57) hHeld ?_
              refine tkU 8 (some 58) hHeld ?_
              refine tkW 9 (some 59) (v := ?_) ?_ hHeld ?_
              rotate_left
              · (intro ww _; go_simp; try with_reducible rfl)
              refine wpAnyH_done (by kernel_rfl) ?_ _
              clear hHeld
              have r0 : Uf3u0.cell? ⟨b, o + i * 7, none⟩ = some (.int .i64 x.nd.1) := (HBu.out.bel.cell (p := ⟨b, o + i * 7, none⟩) HGl.out).trans HX0.out
              have r1 : Uf3u0.cell? ⟨b, o + i * 7 + 1, none⟩ = some (.int .i64 x.nd.2) := (HBu.out.bel.cell (p := ⟨b, o + i * 7 + 1, none⟩) HGl.out).trans HX1.out
              have r2 : Uf3u0.cell? ⟨b, o + i * 7 + 2, none⟩ = some (.string x.nm) := (HBu.out.bel.cell (p := ⟨b, o + i * 7 + 2, none⟩) HGl.out).trans HX2.out
              have r3 : Uf3u0.cell? ⟨b, o + i * 7 + 3, none⟩ = some (.int .i64 x.at_.1) := (HBu.out.bel.cell (p := ⟨b, o + i * 7 + 3, none⟩) HGl.out).trans HX3.out
              have r4 : Uf3u0.cell? ⟨b, o + i * 7 + 4, none⟩ = some (.int .i64 x.at_.2) := (HBu.out.bel.cell (p := ⟨b, o + i * 7 + 4, none⟩) HGl.out).trans HX4.out
              have r5 : Uf3u0.cell? ⟨b, o + i * 7 + 5, none⟩ = some (.string x.vl) := (HBu.out.bel.cell (p := ⟨b, o + i * 7 + 5, none⟩) HGl.out).trans HX5.out
              have r6 : Uf3u0.cell? ⟨b, o + i * 7 + 6, none⟩ = some (.bool x.gn) := (HBu.out.bel.cell (p := ⟨b, o + i * 7 + 6, none⟩) HGl.out).trans HX6.out
              have halp : Below Uf3u0.heap.size Uf3u0 (Uf3u0.alloc (.cells #[.int .i64 x.nd.1, .int .i64 x.nd.2, .string x.nm, .int .i64 x.at_.1, .int .i64 x.at_.2, .string x.vl, .bool x.gn] 26)) := (Below.refl _ _).alloc (Nat.le_refl _) _
              have HBap : Hid (BuR rgCells 7 26 w1 (.slice (some ⟨gv, 0, none⟩) D.length cv) (D) (Uf3u0.alloc (.cells #[.int .i64 x.nd.1, .int .i64 x.nd.2, .string x.nm, .int .i64 x.at_.1, .int .i64 x.at_.2, .string x.vl, .bool x.gn] 26))) := HBu.out.below halp
              have HNwp : Hid (∀ j u, ([.int .i64 x.nd.1, .int .i64 x.nd.2, .string x.nm, .int .i64 x.at_.1, .int .i64 x.at_.2, .string x.vl, .bool x.gn] : List Value)[j]? = some u → (Uf3u0.alloc (.cells #[.int .i64 x.nd.1, .int .i64 x.nd.2, .string x.nm, .int .i64 x.at_.1, .int .i64 x.at_.2, .string x.vl, .bool x.gn] 26)).cell? ((⟨Uf3u0.heap.size, 0, none⟩ : Addr).add j) = some u) := fun j u hj => (by rw [Addr.add_lit, cell_of_row _ _ _ _ _ _ (heap_alloc_new Uf3u0 _)]; simpa using hj)
              have hszp : w1.heap.size ≤ (Uf3u0.alloc (.cells #[.int .i64 x.nd.1, .int .i64 x.nd.2, .string x.nm, .int .i64 x.at_.1, .int .i64 x.at_.2, .string x.vl, .bool x.gn] 26)).heap.size := HBap.out.bel.size
              clear halp
              go_wp2_with (at_builtin; refine wpList_append_own_at _ rfl _ _ 22 rfl w1.heap.size 26 irg (.agg #[.int .i64 0, .int .i64 0, .string ⟨#[]⟩, .int .i64 0, .int .i64 0, .string ⟨#[]⟩, .bool false]) 7 72 Try.underlying22 hirg hz0rg hz1rg hz2rg rfl (by decide) _ _ _ rfl HBap.out.own ⟨Uf3u0.heap.size, 0, none⟩ 1 1 [.int .i64 x.nd.1, .int .i64 x.nd.2, .string x.nm, .int .i64 x.at_.1, .int .i64 x.at_.2, .string x.vl, .bool x.gn] rfl rfl HNwp.out (rgCells_one x) (by unfold maxLen; omega) (by omega) hszp ?_; intro v3 w8 hown3 hgrow3 hnil3 hat3; obtain ⟨gp, cp, e3⟩ := own_succ hown3; subst e3; have HB8 : Hid (BuR rgCells 7 26 w1 (.slice (some ⟨gp, 0, none⟩) (D.length + 1) cp) (D ++ [x]) w8) := HBap.out.push hown3 hgrow3; clear hown3 hgrow3 hnil3 hat3 HBap HNwp hszp)
              go_roundw
              case rel => exact ⟨i + 1, by go_num, by omega, by (rw [HNx.out]), by (rw [HNx.out]; exact HB8)⟩
              case measure => simp [intOf]; omega
          · have HM : Hid (x.nm ≠ r.nm) := hM
            have HK : Hid (keyR x ≠ keyR r) := fun e => hM (congrArg Prod.snd e)
            clear hN hM
            refine wp_region_held_drew (S := fun W' => Below w1.heap.size w1 W') (by kernel_rfl) HBu.out.bel.drew (fun hHeld => ?_)
            obtain ⟨Ub4u0, eW⟩ : ∃ X, X = wr.drew := ⟨_, rfl⟩
            have hb : Below wr.heap.size wr Ub4u0 := by rw [eW]; exact (Below.refl _ _).drew
            replace HBu : Hid (BuR rgCells 7 26 w1 (.slice (some ⟨gv, 0, none⟩) D.length cv) (D) Ub4u0) := HBu.out.below hb
            rw [← eW] at hHeld ⊢
            clear eW hb
            refine tkW 0 (some 22) (v := ?_) ?_ hHeld ?_
            rotate_left
            · (intro ww _; go_simp; try with_reducible rfl)
            refine tkW 1 (some 23) (v := ?_) ?_ hHeld ?_
            rotate_left
            · (intro ww _; go_simp; try with_reducible rfl)
            refine tkW 2 (some 24) (v := ?_) ?_ hHeld ?_
            rotate_left
            · (intro ww hSw; (try dsimp only at hSw); go_simp; try with_reducible rfl)
            refine tkW 3 (some 25) (v := ?_) ?_ hHeld ?_
            rotate_left
            · (intro ww hSw; (try dsimp only at hSw); go_simp; try with_reducible rfl)
            refine tkW 4 (some 26) (v := ?_) ?_ hHeld ?_
            rotate_left
            · (intro ww hSw; (try dsimp only at hSw); have hbw := hSw; have r0 := (hbw.cell (p := ⟨b, o + i * 7, none⟩) HGl.out).trans HX0.out; have r1 := (hbw.cell (p := ⟨b, o + i * 7 + 1, none⟩) HGl.out).trans HX1.out; have r2 := (hbw.cell (p := ⟨b, o + i * 7 + 2, none⟩) HGl.out).trans HX2.out; have r3 := (hbw.cell (p := ⟨b, o + i * 7 + 3, none⟩) HGl.out).trans HX3.out; have r4 := (hbw.cell (p := ⟨b, o + i * 7 + 4, none⟩) HGl.out).trans HX4.out; have r5 := (hbw.cell (p := ⟨b, o + i * 7 + 5, none⟩) HGl.out).trans HX5.out; have r6 := (hbw.cell (p := ⟨b, o + i * 7 + 6, none⟩) HGl.out).trans HX6.out; go_simp; try with_reducible rfl)
            refine tkW 5 (some 27) (v := ?_) ?_ hHeld ?_
            rotate_left
            · (intro ww _; go_simp; try with_reducible rfl)
            refine tkW 6 (some 28) (v := ?_) ?_ hHeld ?_
            rotate_left
            · (intro ww hSw; (try dsimp only at hSw); have hbw := hSw; have q0 := (hbw.cell (p := ⟨w.heap.size, 0, none⟩) HGb.out).trans HQ0.out; have q1 := (hbw.cell (p := ⟨w.heap.size, 1, none⟩) HGb.out).trans HQ1.out; have q2 := (hbw.cell (p := ⟨w.heap.size, 2, none⟩) HGb.out).trans HQ2.out; have q3 := (hbw.cell (p := ⟨w.heap.size, 3, none⟩) HGb.out).trans HQ3.out; have q4 := (hbw.cell (p := ⟨w.heap.size, 4, none⟩) HGb.out).trans HQ4.out; have q5 := (hbw.cell (p := ⟨w.heap.size, 5, none⟩) HGb.out).trans HQ5.out; have q6 := (hbw.cell (p := ⟨w.heap.size, 6, none⟩) HGb.out).trans HQ6.out; go_simp; try with_reducible rfl)
            refine tkW 7 (some 29) (v := .bool true) ?_ hHeld ?_
            · (intro ww hSw; (try dsimp only at hSw); have e1 : x.nd.1 = r.nd.1 := congrArg Prod.fst HN.out; have e2 : x.nd.2 = r.nd.2 := congrArg Prod.snd HN.out; go_simp; try simp [e1, e2])
            refine tkW 8 (some 30) (v := ?_) ?_ hHeld ?_
            rotate_left
            · (intro ww _; go_simp; try with_reducible rfl)
            refine tkW 9 (some 31) (v := ?_) ?_ hHeld ?_
            rotate_left
            · (intro ww _; go_simp; try with_reducible rfl)
            refine tkW 10 (some 32) (v := ?_) ?_ hHeld ?_
            rotate_left
            · (intro ww _; go_simp; try with_reducible rfl)
            refine tkW 11 (some 33) (v := ?_) ?_ hHeld ?_
            rotate_left
            · (intro ww hSw; (try dsimp only at hSw); go_simp; try with_reducible rfl)
            refine tkW 12 (some 34) (v := ?_) ?_ hHeld ?_
            rotate_left
            · (intro ww _; go_simp; try with_reducible rfl)
            refine tkW 13 (some 35) (v := ?_) ?_ hHeld ?_
            rotate_left
            · (intro ww hSw; (try dsimp only at hSw); have hbw := hSw; have r0 := (hbw.cell (p := ⟨b, o + i * 7, none⟩) HGl.out).trans HX0.out; have r1 := (hbw.cell (p := ⟨b, o + i * 7 + 1, none⟩) HGl.out).trans HX1.out; have r2 := (hbw.cell (p := ⟨b, o + i * 7 + 2, none⟩) HGl.out).trans HX2.out; have r3 := (hbw.cell (p := ⟨b, o + i * 7 + 3, none⟩) HGl.out).trans HX3.out; have r4 := (hbw.cell (p := ⟨b, o + i * 7 + 4, none⟩) HGl.out).trans HX4.out; have r5 := (hbw.cell (p := ⟨b, o + i * 7 + 5, none⟩) HGl.out).trans HX5.out; have r6 := (hbw.cell (p := ⟨b, o + i * 7 + 6, none⟩) HGl.out).trans HX6.out; go_simp; try with_reducible rfl)
            refine tkW 14 (some 36) (v := ?_) ?_ hHeld ?_
            rotate_left
            · (intro ww _; go_simp; try with_reducible rfl)
            refine tkW 15 (some 37) (v := ?_) ?_ hHeld ?_
            rotate_left
            · (intro ww hSw; (try dsimp only at hSw); have hbw := hSw; have q0 := (hbw.cell (p := ⟨w.heap.size, 0, none⟩) HGb.out).trans HQ0.out; have q1 := (hbw.cell (p := ⟨w.heap.size, 1, none⟩) HGb.out).trans HQ1.out; have q2 := (hbw.cell (p := ⟨w.heap.size, 2, none⟩) HGb.out).trans HQ2.out; have q3 := (hbw.cell (p := ⟨w.heap.size, 3, none⟩) HGb.out).trans HQ3.out; have q4 := (hbw.cell (p := ⟨w.heap.size, 4, none⟩) HGb.out).trans HQ4.out; have q5 := (hbw.cell (p := ⟨w.heap.size, 5, none⟩) HGb.out).trans HQ5.out; have q6 := (hbw.cell (p := ⟨w.heap.size, 6, none⟩) HGb.out).trans HQ6.out; go_simp; try with_reducible rfl)
            refine tkW 16 (some 38) (v := .bool false) ?_ hHeld ?_
            · (intro ww hSw; (try dsimp only at hSw); have ht : (x.nm.toList == r.nm.toList) = false := (by rw [txt_eq]; exact decide_eq_false HM.out); go_simp; try with_reducible rfl)
            refine tkW 17 (some 39) (v := ?_) ?_ hHeld ?_
            rotate_left
            · (intro ww _; go_simp; try with_reducible rfl)
            refine wpAnyH_done (by kernel_rfl) ?_ _
            clear hHeld
            cases dn with
            | true =>
              have HNx : Hid (putTo r (R.take (i + 1)) = (D ++ [x], true)) := by (show _ = _; rw [HSt.out]; unfold stepP; simp [show keyR x ≠ keyR r from HK.out])
              go_wp2_with fail
              refine wp_region_held_drew (S := fun W' => Below w1.heap.size w1 W') (by kernel_rfl) HBu.out.bel.drew (fun hHeld => ?_)
              obtain ⟨Ug5u0, eW⟩ : ∃ X, X = Ub4u0.drew := ⟨_, rfl⟩
              have hb : Below Ub4u0.heap.size Ub4u0 Ug5u0 := by rw [eW]; exact (Below.refl _ _).drew
              replace HBu : Hid (BuR rgCells 7 26 w1 (.slice (some ⟨gv, 0, none⟩) D.length cv) (D) Ug5u0) := HBu.out.below hb
              rw [← eW] at hHeld ⊢
              clear eW hb
              refine tkW 0 (some 50) (v := ?_) ?_ hHeld ?_
              rotate_left
              · (intro ww _; go_simp; try with_reducible rfl)
              refine tkW 1 (some 51) (v := ?_) ?_ hHeld ?_
              rotate_left
              · (intro ww _; go_simp; try with_reducible rfl)
              refine tkW 2 (some 52) (v := ?_) ?_ hHeld ?_
              rotate_left
              · (intro ww _; go_simp; try with_reducible rfl)
              refine tkU 3 (some 53) hHeld ?_
              refine tkU 4 (some 54) hHeld ?_
              refine tkU 5 (some 55) hHeld ?_
              refine tkU 6 (some 56) hHeld ?_
              refine tkU 7 (some 57) hHeld ?_
              refine tkU 8 (some 58) hHeld ?_
              refine tkW 9 (some 59) (v := ?_) ?_ hHeld ?_
              rotate_left
              · (intro ww _; go_simp; try with_reducible rfl)
              refine wpAnyH_done (by kernel_rfl) ?_ _
              clear hHeld
              have r0 : Ug5u0.cell? ⟨b, o + i * 7, none⟩ = some (.int .i64 x.nd.1) := (HBu.out.bel.cell (p := ⟨b, o + i * 7, none⟩) HGl.out).trans HX0.out
              have r1 : Ug5u0.cell? ⟨b, o + i * 7 + 1, none⟩ = some (.int .i64 x.nd.2) := (HBu.out.bel.cell (p := ⟨b, o + i * 7 + 1, none⟩) HGl.out).trans HX1.out
              have r2 : Ug5u0.cell? ⟨b, o + i * 7 + 2, none⟩ = some (.string x.nm) := (HBu.out.bel.cell (p := ⟨b, o + i * 7 + 2, none⟩) HGl.out).trans HX2.out
              have r3 : Ug5u0.cell? ⟨b, o + i * 7 + 3, none⟩ = some (.int .i64 x.at_.1) := (HBu.out.bel.cell (p := ⟨b, o + i * 7 + 3, none⟩) HGl.out).trans HX3.out
              have r4 : Ug5u0.cell? ⟨b, o + i * 7 + 4, none⟩ = some (.int .i64 x.at_.2) := (HBu.out.bel.cell (p := ⟨b, o + i * 7 + 4, none⟩) HGl.out).trans HX4.out
              have r5 : Ug5u0.cell? ⟨b, o + i * 7 + 5, none⟩ = some (.string x.vl) := (HBu.out.bel.cell (p := ⟨b, o + i * 7 + 5, none⟩) HGl.out).trans HX5.out
              have r6 : Ug5u0.cell? ⟨b, o + i * 7 + 6, none⟩ = some (.bool x.gn) := (HBu.out.bel.cell (p := ⟨b, o + i * 7 + 6, none⟩) HGl.out).trans HX6.out
              have halp : Below Ug5u0.heap.size Ug5u0 (Ug5u0.alloc (.cells #[.int .i64 x.nd.1, .int .i64 x.nd.2, .string x.nm, .int .i64 x.at_.1, .int .i64 x.at_.2, .string x.vl, .bool x.gn] 26)) := (Below.refl _ _).alloc (Nat.le_refl _) _
              have HBap : Hid (BuR rgCells 7 26 w1 (.slice (some ⟨gv, 0, none⟩) D.length cv) (D) (Ug5u0.alloc (.cells #[.int .i64 x.nd.1, .int .i64 x.nd.2, .string x.nm, .int .i64 x.at_.1, .int .i64 x.at_.2, .string x.vl, .bool x.gn] 26))) := HBu.out.below halp
              have HNwp : Hid (∀ j u, ([.int .i64 x.nd.1, .int .i64 x.nd.2, .string x.nm, .int .i64 x.at_.1, .int .i64 x.at_.2, .string x.vl, .bool x.gn] : List Value)[j]? = some u → (Ug5u0.alloc (.cells #[.int .i64 x.nd.1, .int .i64 x.nd.2, .string x.nm, .int .i64 x.at_.1, .int .i64 x.at_.2, .string x.vl, .bool x.gn] 26)).cell? ((⟨Ug5u0.heap.size, 0, none⟩ : Addr).add j) = some u) := fun j u hj => (by rw [Addr.add_lit, cell_of_row _ _ _ _ _ _ (heap_alloc_new Ug5u0 _)]; simpa using hj)
              have hszp : w1.heap.size ≤ (Ug5u0.alloc (.cells #[.int .i64 x.nd.1, .int .i64 x.nd.2, .string x.nm, .int .i64 x.at_.1, .int .i64 x.at_.2, .string x.vl, .bool x.gn] 26)).heap.size := HBap.out.bel.size
              clear halp
              go_wp2_with (at_builtin; refine wpList_append_own_at _ rfl _ _ 22 rfl w1.heap.size 26 irg (.agg #[.int .i64 0, .int .i64 0, .string ⟨#[]⟩, .int .i64 0, .int .i64 0, .string ⟨#[]⟩, .bool false]) 7 72 Try.underlying22 hirg hz0rg hz1rg hz2rg rfl (by decide) _ _ _ rfl HBap.out.own ⟨Ug5u0.heap.size, 0, none⟩ 1 1 [.int .i64 x.nd.1, .int .i64 x.nd.2, .string x.nm, .int .i64 x.at_.1, .int .i64 x.at_.2, .string x.vl, .bool x.gn] rfl rfl HNwp.out (rgCells_one x) (by unfold maxLen; omega) (by omega) hszp ?_; intro v3 w8 hown3 hgrow3 hnil3 hat3; obtain ⟨gp, cp, e3⟩ := own_succ hown3; subst e3; have HB8 : Hid (BuR rgCells 7 26 w1 (.slice (some ⟨gp, 0, none⟩) (D.length + 1) cp) (D ++ [x]) w8) := HBap.out.push hown3 hgrow3; clear hown3 hgrow3 hnil3 hat3 HBap HNwp hszp)
              go_roundw
              case rel => exact ⟨i + 1, by go_num, by omega, by (rw [HNx.out]), by (rw [HNx.out]; exact HB8)⟩
              case measure => simp [intOf]; omega
            | false =>
              go_wp2_with fail
              refine wp_region_held_drew (S := fun W' => Below w1.heap.size w1 W') (by kernel_rfl) HBu.out.bel.drew (fun hHeld => ?_)
              obtain ⟨Uh6u0, eW⟩ : ∃ X, X = Ub4u0.drew := ⟨_, rfl⟩
              have hb : Below Ub4u0.heap.size Ub4u0 Uh6u0 := by rw [eW]; exact (Below.refl _ _).drew
              replace HBu : Hid (BuR rgCells 7 26 w1 (.slice (some ⟨gv, 0, none⟩) D.length cv) (D) Uh6u0) := HBu.out.below hb
              rw [← eW] at hHeld ⊢
              clear eW hb
              refine tkW 0 (some 50) (v := ?_) ?_ hHeld ?_
              rotate_left
              · (intro ww _; go_simp; try with_reducible rfl)
              refine tkW 1 (some 51) (v := ?_) ?_ hHeld ?_
              rotate_left
              · (intro ww _; go_simp; try with_reducible rfl)
              refine tkW 2 (some 52) (v := ?_) ?_ hHeld ?_
              rotate_left
              · (intro ww _; go_simp; try with_reducible rfl)
              refine tkW 3 (some 53) (v := ?_) ?_ hHeld ?_
              rotate_left
              · (intro ww hSw; (try dsimp only at hSw); have hbw := hSw; have q0 := (hbw.cell (p := ⟨w.heap.size, 0, none⟩) HGb.out).trans HQ0.out; have q1 := (hbw.cell (p := ⟨w.heap.size, 1, none⟩) HGb.out).trans HQ1.out; have q2 := (hbw.cell (p := ⟨w.heap.size, 2, none⟩) HGb.out).trans HQ2.out; have q3 := (hbw.cell (p := ⟨w.heap.size, 3, none⟩) HGb.out).trans HQ3.out; have q4 := (hbw.cell (p := ⟨w.heap.size, 4, none⟩) HGb.out).trans HQ4.out; have q5 := (hbw.cell (p := ⟨w.heap.size, 5, none⟩) HGb.out).trans HQ5.out; have q6 := (hbw.cell (p := ⟨w.heap.size, 6, none⟩) HGb.out).trans HQ6.out; go_simp; try with_reducible rfl)
              refine tkW 4 (some 54) (v := ?_) ?_ hHeld ?_
              rotate_left
              · (intro ww _; go_simp; try with_reducible rfl)
              refine tkW 5 (some 55) (v := ?_) ?_ hHeld ?_
              rotate_left
              · (intro ww _; go_simp; try with_reducible rfl)
              refine tkW 6 (some 56) (v := ?_) ?_ hHeld ?_
              rotate_left
              · (intro ww hSw; (try dsimp only at hSw); go_simp; try with_reducible rfl)
              refine tkW 7 (some 57) (v := ?_) ?_ hHeld ?_
              rotate_left
              · (intro ww hSw; (try dsimp only at hSw); have hbw := hSw; have r0 := (hbw.cell (p := ⟨b, o + i * 7, none⟩) HGl.out).trans HX0.out; have r1 := (hbw.cell (p := ⟨b, o + i * 7 + 1, none⟩) HGl.out).trans HX1.out; have r2 := (hbw.cell (p := ⟨b, o + i * 7 + 2, none⟩) HGl.out).trans HX2.out; have r3 := (hbw.cell (p := ⟨b, o + i * 7 + 3, none⟩) HGl.out).trans HX3.out; have r4 := (hbw.cell (p := ⟨b, o + i * 7 + 4, none⟩) HGl.out).trans HX4.out; have r5 := (hbw.cell (p := ⟨b, o + i * 7 + 5, none⟩) HGl.out).trans HX5.out; have r6 := (hbw.cell (p := ⟨b, o + i * 7 + 6, none⟩) HGl.out).trans HX6.out; go_simp; try with_reducible rfl)
              refine wpAnyH_ready (rs := [8]) (by kernel_rfl) (by simp) ?_
              refine AllReadyH.cons (o := ⟨some 58, _, _, _, _, _⟩) rfl (fun K hK => ?_) AllReadyH.nil
              go_simp
              refine (refAheadR_any r x _).mono ?_
              rintro e Uh6u1 ⟨rfl, hb⟩
              (try go_wp2_with fail)
              refine hK.out _ _ (hHeld.trans (hb.mono hHeld.size)) (fun hHeld2 => ?_)
              clear hK K hHeld
              have hHeld := hHeld2
              clear hHeld2
              (try simp only [Act.put, List.setIfInBounds_toArray, List.set_cons_zero, List.set_cons_succ])
              replace HBu : Hid (BuR rgCells 7 26 w1 (.slice (some ⟨gv, 0, none⟩) D.length cv) (D) Uh6u1) := HBu.out.below hb
              clear hb
              refine tkW 9 (some 59) (v := ?_) ?_ hHeld ?_
              rotate_left
              · (intro ww _; go_simp; try with_reducible rfl)
              refine wpAnyH_done (by kernel_rfl) ?_ _
              clear hHeld
              cases hA : ltK (keyR r) (keyR x) with
              | true =>
                have HNx : Hid (putTo r (R.take (i + 1)) = (D ++ [r] ++ [x], true)) := by (show _ = _; rw [HSt.out]; unfold stepP; simp [show keyR x ≠ keyR r from HK.out, hA])
                clear hA
                have q0 : Uh6u1.cell? ⟨w.heap.size, 0, none⟩ = some (.int .i64 r.nd.1) := (HBu.out.bel.cell (p := ⟨w.heap.size, 0, none⟩) HGb.out).trans HQ0.out
                have q1 : Uh6u1.cell? ⟨w.heap.size, 1, none⟩ = some (.int .i64 r.nd.2) := (HBu.out.bel.cell (p := ⟨w.heap.size, 1, none⟩) HGb.out).trans HQ1.out
                have q2 : Uh6u1.cell? ⟨w.heap.size, 2, none⟩ = some (.string r.nm) := (HBu.out.bel.cell (p := ⟨w.heap.size, 2, none⟩) HGb.out).trans HQ2.out
                have q3 : Uh6u1.cell? ⟨w.heap.size, 3, none⟩ = some (.int .i64 r.at_.1) := (HBu.out.bel.cell (p := ⟨w.heap.size, 3, none⟩) HGb.out).trans HQ3.out
                have q4 : Uh6u1.cell? ⟨w.heap.size, 4, none⟩ = some (.int .i64 r.at_.2) := (HBu.out.bel.cell (p := ⟨w.heap.size, 4, none⟩) HGb.out).trans HQ4.out
                have q5 : Uh6u1.cell? ⟨w.heap.size, 5, none⟩ = some (.string r.vl) := (HBu.out.bel.cell (p := ⟨w.heap.size, 5, none⟩) HGb.out).trans HQ5.out
                have q6 : Uh6u1.cell? ⟨w.heap.size, 6, none⟩ = some (.bool r.gn) := (HBu.out.bel.cell (p := ⟨w.heap.size, 6, none⟩) HGb.out).trans HQ6.out
                have halp : Below Uh6u1.heap.size Uh6u1 (Uh6u1.alloc (.cells #[.int .i64 r.nd.1, .int .i64 r.nd.2, .string r.nm, .int .i64 r.at_.1, .int .i64 r.at_.2, .string r.vl, .bool r.gn] 26)) := (Below.refl _ _).alloc (Nat.le_refl _) _
                have HBap : Hid (BuR rgCells 7 26 w1 (.slice (some ⟨gv, 0, none⟩) D.length cv) (D) (Uh6u1.alloc (.cells #[.int .i64 r.nd.1, .int .i64 r.nd.2, .string r.nm, .int .i64 r.at_.1, .int .i64 r.at_.2, .string r.vl, .bool r.gn] 26))) := HBu.out.below halp
                have HNwp : Hid (∀ j u, ([.int .i64 r.nd.1, .int .i64 r.nd.2, .string r.nm, .int .i64 r.at_.1, .int .i64 r.at_.2, .string r.vl, .bool r.gn] : List Value)[j]? = some u → (Uh6u1.alloc (.cells #[.int .i64 r.nd.1, .int .i64 r.nd.2, .string r.nm, .int .i64 r.at_.1, .int .i64 r.at_.2, .string r.vl, .bool r.gn] 26)).cell? ((⟨Uh6u1.heap.size, 0, none⟩ : Addr).add j) = some u) := fun j u hj => (by rw [Addr.add_lit, cell_of_row _ _ _ _ _ _ (heap_alloc_new Uh6u1 _)]; simpa using hj)
                have hszp : w1.heap.size ≤ (Uh6u1.alloc (.cells #[.int .i64 r.nd.1, .int .i64 r.nd.2, .string r.nm, .int .i64 r.at_.1, .int .i64 r.at_.2, .string r.vl, .bool r.gn] 26)).heap.size := HBap.out.bel.size
                clear halp
                go_wp2_with (first
                  | (at_builtin; refine wpList_append_own_at _ rfl _ _ 22 rfl w1.heap.size 26 irg (.agg #[.int .i64 0, .int .i64 0, .string ⟨#[]⟩, .int .i64 0, .int .i64 0, .string ⟨#[]⟩, .bool false]) 7 72 Try.underlying22 hirg hz0rg hz1rg hz2rg rfl (by decide) _ _ _ rfl HBap.out.own ⟨Uh6u1.heap.size, 0, none⟩ 1 1 [.int .i64 r.nd.1, .int .i64 r.nd.2, .string r.nm, .int .i64 r.at_.1, .int .i64 r.at_.2, .string r.vl, .bool r.gn] rfl rfl HNwp.out (rgCells_one r) (by unfold maxLen; omega) (by omega) hszp ?_; intro v3 w8 hown3 hgrow3 hnil3 hat3; obtain ⟨gp, cp, e3⟩ := own_succ hown3; subst e3; have HB8 : Hid (BuR rgCells 7 26 w1 (.slice (some ⟨gp, 0, none⟩) (D.length + 1) cp) (D ++ [r]) w8) := HBap.out.push hown3 hgrow3; clear hown3 hgrow3 hnil3 hat3 HBap HNwp hszp; obtain ⟨D2, eD2⟩ : ∃ X, X = D ++ [r] := ⟨_, rfl⟩; have hDl : D.length + 1 = D2.length := (by rw [eD2]; simp); rw [hDl] at HB8 ⊢; rw [← eD2] at HB8; have HE2 : Hid (D2 = D ++ [r]) := eD2; have hD2n : D2.length ≤ 8193 := (by omega); clear eD2 hDl; have r0 : w8.cell? ⟨b, o + i * 7, none⟩ = some (.int .i64 x.nd.1) := (HB8.out.bel.cell (p := ⟨b, o + i * 7, none⟩) HGl.out).trans HX0.out; have r1 : w8.cell? ⟨b, o + i * 7 + 1, none⟩ = some (.int .i64 x.nd.2) := (HB8.out.bel.cell (p := ⟨b, o + i * 7 + 1, none⟩) HGl.out).trans HX1.out; have r2 : w8.cell? ⟨b, o + i * 7 + 2, none⟩ = some (.string x.nm) := (HB8.out.bel.cell (p := ⟨b, o + i * 7 + 2, none⟩) HGl.out).trans HX2.out; have r3 : w8.cell? ⟨b, o + i * 7 + 3, none⟩ = some (.int .i64 x.at_.1) := (HB8.out.bel.cell (p := ⟨b, o + i * 7 + 3, none⟩) HGl.out).trans HX3.out; have r4 : w8.cell? ⟨b, o + i * 7 + 4, none⟩ = some (.int .i64 x.at_.2) := (HB8.out.bel.cell (p := ⟨b, o + i * 7 + 4, none⟩) HGl.out).trans HX4.out; have r5 : w8.cell? ⟨b, o + i * 7 + 5, none⟩ = some (.string x.vl) := (HB8.out.bel.cell (p := ⟨b, o + i * 7 + 5, none⟩) HGl.out).trans HX5.out; have r6 : w8.cell? ⟨b, o + i * 7 + 6, none⟩ = some (.bool x.gn) := (HB8.out.bel.cell (p := ⟨b, o + i * 7 + 6, none⟩) HGl.out).trans HX6.out; have hals : Below w8.heap.size w8 (w8.alloc (.cells #[.int .i64 x.nd.1, .int .i64 x.nd.2, .string x.nm, .int .i64 x.at_.1, .int .i64 x.at_.2, .string x.vl, .bool x.gn] 26)) := (Below.refl _ _).alloc (Nat.le_refl _) _; have HBas : Hid (BuR rgCells 7 26 w1 (.slice (some ⟨gp, 0, none⟩) D2.length cp) (D2) (w8.alloc (.cells #[.int .i64 x.nd.1, .int .i64 x.nd.2, .string x.nm, .int .i64 x.at_.1, .int .i64 x.at_.2, .string x.vl, .bool x.gn] 26))) := HB8.out.below hals; have HNws : Hid (∀ j u, ([.int .i64 x.nd.1, .int .i64 x.nd.2, .string x.nm, .int .i64 x.at_.1, .int .i64 x.at_.2, .string x.vl, .bool x.gn] : List Value)[j]? = some u → (w8.alloc (.cells #[.int .i64 x.nd.1, .int .i64 x.nd.2, .string x.nm, .int .i64 x.at_.1, .int .i64 x.at_.2, .string x.vl, .bool x.gn] 26)).cell? ((⟨w8.heap.size, 0, none⟩ : Addr).add j) = some u) := fun j u hj => (by rw [Addr.add_lit, cell_of_row _ _ _ _ _ _ (heap_alloc_new w8 _)]; simpa using hj); have hszs : w1.heap.size ≤ (w8.alloc (.cells #[.int .i64 x.nd.1, .int .i64 x.nd.2, .string x.nm, .int .i64 x.at_.1, .int .i64 x.at_.2, .string x.vl, .bool x.gn] 26)).heap.size := HBas.out.bel.size; clear hals)
                  | (at_builtin; refine wpList_append_own_at _ rfl _ _ 22 rfl w1.heap.size 26 irg (.agg #[.int .i64 0, .int .i64 0, .string ⟨#[]⟩, .int .i64 0, .int .i64 0, .string ⟨#[]⟩, .bool false]) 7 72 Try.underlying22 hirg hz0rg hz1rg hz2rg rfl (by decide) _ _ _ rfl HBas.out.own ⟨w8.heap.size, 0, none⟩ 1 1 [.int .i64 x.nd.1, .int .i64 x.nd.2, .string x.nm, .int .i64 x.at_.1, .int .i64 x.at_.2, .string x.vl, .bool x.gn] rfl rfl HNws.out (rgCells_one x) (by unfold maxLen; omega) (by omega) hszs ?_; intro v3 w9 hown3 hgrow3 hnil3 hat3; obtain ⟨gs, cs, e3⟩ := own_succ hown3; subst e3; have HB9 : Hid (BuR rgCells 7 26 w1 (.slice (some ⟨gs, 0, none⟩) (D2.length + 1) cs) (D2 ++ [x]) w9) := HBas.out.push hown3 hgrow3; clear hown3 hgrow3 hnil3 hat3 HBas HNws hszs))
                go_roundw
                case rel => exact ⟨i + 1, by go_num, by omega, by (rw [HNx.out]), by (rw [HNx.out, ← HE2.out]; exact HB9)⟩
                case measure => simp [intOf]; omega
              | false =>
                have HNx : Hid (putTo r (R.take (i + 1)) = (D ++ [x], false)) := by (show _ = _; rw [HSt.out]; unfold stepP; simp [show keyR x ≠ keyR r from HK.out, hA])
                clear hA
                have r0 : Uh6u1.cell? ⟨b, o + i * 7, none⟩ = some (.int .i64 x.nd.1) := (HBu.out.bel.cell (p := ⟨b, o + i * 7, none⟩) HGl.out).trans HX0.out
                have r1 : Uh6u1.cell? ⟨b, o + i * 7 + 1, none⟩ = some (.int .i64 x.nd.2) := (HBu.out.bel.cell (p := ⟨b, o + i * 7 + 1, none⟩) HGl.out).trans HX1.out
                have r2 : Uh6u1.cell? ⟨b, o + i * 7 + 2, none⟩ = some (.string x.nm) := (HBu.out.bel.cell (p := ⟨b, o + i * 7 + 2, none⟩) HGl.out).trans HX2.out
                have r3 : Uh6u1.cell? ⟨b, o + i * 7 + 3, none⟩ = some (.int .i64 x.at_.1) := (HBu.out.bel.cell (p := ⟨b, o + i * 7 + 3, none⟩) HGl.out).trans HX3.out
                have r4 : Uh6u1.cell? ⟨b, o + i * 7 + 4, none⟩ = some (.int .i64 x.at_.2) := (HBu.out.bel.cell (p := ⟨b, o + i * 7 + 4, none⟩) HGl.out).trans HX4.out
                have r5 : Uh6u1.cell? ⟨b, o + i * 7 + 5, none⟩ = some (.string x.vl) := (HBu.out.bel.cell (p := ⟨b, o + i * 7 + 5, none⟩) HGl.out).trans HX5.out
                have r6 : Uh6u1.cell? ⟨b, o + i * 7 + 6, none⟩ = some (.bool x.gn) := (HBu.out.bel.cell (p := ⟨b, o + i * 7 + 6, none⟩) HGl.out).trans HX6.out
                have halp : Below Uh6u1.heap.size Uh6u1 (Uh6u1.alloc (.cells #[.int .i64 x.nd.1, .int .i64 x.nd.2, .string x.nm, .int .i64 x.at_.1, .int .i64 x.at_.2, .string x.vl, .bool x.gn] 26)) := (Below.refl _ _).alloc (Nat.le_refl _) _
                have HBap : Hid (BuR rgCells 7 26 w1 (.slice (some ⟨gv, 0, none⟩) D.length cv) (D) (Uh6u1.alloc (.cells #[.int .i64 x.nd.1, .int .i64 x.nd.2, .string x.nm, .int .i64 x.at_.1, .int .i64 x.at_.2, .string x.vl, .bool x.gn] 26))) := HBu.out.below halp
                have HNwp : Hid (∀ j u, ([.int .i64 x.nd.1, .int .i64 x.nd.2, .string x.nm, .int .i64 x.at_.1, .int .i64 x.at_.2, .string x.vl, .bool x.gn] : List Value)[j]? = some u → (Uh6u1.alloc (.cells #[.int .i64 x.nd.1, .int .i64 x.nd.2, .string x.nm, .int .i64 x.at_.1, .int .i64 x.at_.2, .string x.vl, .bool x.gn] 26)).cell? ((⟨Uh6u1.heap.size, 0, none⟩ : Addr).add j) = some u) := fun j u hj => (by rw [Addr.add_lit, cell_of_row _ _ _ _ _ _ (heap_alloc_new Uh6u1 _)]; simpa using hj)
                have hszp : w1.heap.size ≤ (Uh6u1.alloc (.cells #[.int .i64 x.nd.1, .int .i64 x.nd.2, .string x.nm, .int .i64 x.at_.1, .int .i64 x.at_.2, .string x.vl, .bool x.gn] 26)).heap.size := HBap.out.bel.size
                clear halp
                go_wp2_with (at_builtin; refine wpList_append_own_at _ rfl _ _ 22 rfl w1.heap.size 26 irg (.agg #[.int .i64 0, .int .i64 0, .string ⟨#[]⟩, .int .i64 0, .int .i64 0, .string ⟨#[]⟩, .bool false]) 7 72 Try.underlying22 hirg hz0rg hz1rg hz2rg rfl (by decide) _ _ _ rfl HBap.out.own ⟨Uh6u1.heap.size, 0, none⟩ 1 1 [.int .i64 x.nd.1, .int .i64 x.nd.2, .string x.nm, .int .i64 x.at_.1, .int .i64 x.at_.2, .string x.vl, .bool x.gn] rfl rfl HNwp.out (rgCells_one x) (by unfold maxLen; omega) (by omega) hszp ?_; intro v3 w8 hown3 hgrow3 hnil3 hat3; obtain ⟨gp, cp, e3⟩ := own_succ hown3; subst e3; have HB8 : Hid (BuR rgCells 7 26 w1 (.slice (some ⟨gp, 0, none⟩) (D.length + 1) cp) (D ++ [x]) w8) := HBap.out.push hown3 hgrow3; clear hown3 hgrow3 hnil3 hat3 HBap HNwp hszp)
                go_roundw
                case rel => exact ⟨i + 1, by go_num, by omega, by (rw [HNx.out]), by (rw [HNx.out]; exact HB8)⟩
                case measure => simp [intOf]; omega
        · have HN : Hid (x.nd ≠ r.nd) := hN
          have HK : Hid (keyR x ≠ keyR r) := fun e => hN (congrArg Prod.fst e)
          clear hN
          refine wp_region_held_drew (S := fun W' => Below w1.heap.size w1 W') (by kernel_rfl) HBu.out.bel.drew (fun hHeld => ?_)
          obtain ⟨Uc7u0, eW⟩ : ∃ X, X = wr.drew := ⟨_, rfl⟩
          have hb : Below wr.heap.size wr Uc7u0 := by rw [eW]; exact (Below.refl _ _).drew
          replace HBu : Hid (BuR rgCells 7 26 w1 (.slice (some ⟨gv, 0, none⟩) D.length cv) (D) Uc7u0) := HBu.out.below hb
          rw [← eW] at hHeld ⊢
          clear eW hb
          refine tkW 0 (some 22) (v := ?_) ?_ hHeld ?_
          rotate_left
          · (intro ww _; go_simp; try with_reducible rfl)
          refine tkW 1 (some 23) (v := ?_) ?_ hHeld ?_
          rotate_left
          · (intro ww _; go_simp; try with_reducible rfl)
          refine tkW 2 (some 24) (v := ?_) ?_ hHeld ?_
          rotate_left
          · (intro ww hSw; (try dsimp only at hSw); go_simp; try with_reducible rfl)
          refine tkW 3 (some 25) (v := ?_) ?_ hHeld ?_
          rotate_left
          · (intro ww hSw; (try dsimp only at hSw); go_simp; try with_reducible rfl)
          refine tkW 4 (some 26) (v := ?_) ?_ hHeld ?_
          rotate_left
          · (intro ww hSw; (try dsimp only at hSw); have hbw := hSw; have r0 := (hbw.cell (p := ⟨b, o + i * 7, none⟩) HGl.out).trans HX0.out; have r1 := (hbw.cell (p := ⟨b, o + i * 7 + 1, none⟩) HGl.out).trans HX1.out; have r2 := (hbw.cell (p := ⟨b, o + i * 7 + 2, none⟩) HGl.out).trans HX2.out; have r3 := (hbw.cell (p := ⟨b, o + i * 7 + 3, none⟩) HGl.out).trans HX3.out; have r4 := (hbw.cell (p := ⟨b, o + i * 7 + 4, none⟩) HGl.out).trans HX4.out; have r5 := (hbw.cell (p := ⟨b, o + i * 7 + 5, none⟩) HGl.out).trans HX5.out; have r6 := (hbw.cell (p := ⟨b, o + i * 7 + 6, none⟩) HGl.out).trans HX6.out; go_simp; try with_reducible rfl)
          refine tkW 5 (some 27) (v := ?_) ?_ hHeld ?_
          rotate_left
          · (intro ww _; go_simp; try with_reducible rfl)
          refine tkW 6 (some 28) (v := ?_) ?_ hHeld ?_
          rotate_left
          · (intro ww hSw; (try dsimp only at hSw); have hbw := hSw; have q0 := (hbw.cell (p := ⟨w.heap.size, 0, none⟩) HGb.out).trans HQ0.out; have q1 := (hbw.cell (p := ⟨w.heap.size, 1, none⟩) HGb.out).trans HQ1.out; have q2 := (hbw.cell (p := ⟨w.heap.size, 2, none⟩) HGb.out).trans HQ2.out; have q3 := (hbw.cell (p := ⟨w.heap.size, 3, none⟩) HGb.out).trans HQ3.out; have q4 := (hbw.cell (p := ⟨w.heap.size, 4, none⟩) HGb.out).trans HQ4.out; have q5 := (hbw.cell (p := ⟨w.heap.size, 5, none⟩) HGb.out).trans HQ5.out; have q6 := (hbw.cell (p := ⟨w.heap.size, 6, none⟩) HGb.out).trans HQ6.out; go_simp; try with_reducible rfl)
          refine tkW 7 (some 29) (v := .bool false) ?_ hHeld ?_
          · (intro ww hSw; (try dsimp only at hSw); go_simp; by_cases e1 : x.nd.1 = r.nd.1 <;> by_cases e2 : x.nd.2 = r.nd.2 <;> simp [e1, e2] <;> exact HN.out (Prod.ext e1 e2))
          refine tkW 8 (some 30) (v := ?_) ?_ hHeld ?_
          rotate_left
          · (intro ww _; go_simp; try with_reducible rfl)
          refine tkU 9 (some 31) hHeld ?_
          refine tkU 10 (some 32) hHeld ?_
          refine tkU 11 (some 33) hHeld ?_
          refine tkU 12 (some 34) hHeld ?_
          refine tkU 13 (some 35) hHeld ?_
          refine tkU 14 (some 36) hHeld ?_
          refine tkU 15 (some 37) hHeld ?_
          refine tkU 16 (some 38) hHeld ?_
          refine tkW 17 (some 39) (v := ?_) ?_ hHeld ?_
          rotate_left
          · (intro ww _; go_simp; try with_reducible rfl)
          refine wpAnyH_done (by kernel_rfl) ?_ _
          clear hHeld
          cases dn with
          | true =>
            have HNx : Hid (putTo r (R.take (i + 1)) = (D ++ [x], true)) := by (show _ = _; rw [HSt.out]; unfold stepP; simp [show keyR x ≠ keyR r from HK.out])
            go_wp2_with fail
            refine wp_region_held_drew (S := fun W' => Below w1.heap.size w1 W') (by kernel_rfl) HBu.out.bel.drew (fun hHeld => ?_)
            obtain ⟨Ug8u0, eW⟩ : ∃ X, X = Uc7u0.drew := ⟨_, rfl⟩
            have hb : Below Uc7u0.heap.size Uc7u0 Ug8u0 := by rw [eW]; exact (Below.refl _ _).drew
            replace HBu : Hid (BuR rgCells 7 26 w1 (.slice (some ⟨gv, 0, none⟩) D.length cv) (D) Ug8u0) := HBu.out.below hb
            rw [← eW] at hHeld ⊢
            clear eW hb
            refine tkW 0 (some 50) (v := ?_) ?_ hHeld ?_
            rotate_left
            · (intro ww _; go_simp; try with_reducible rfl)
            refine tkW 1 (some 51) (v := ?_) ?_ hHeld ?_
            rotate_left
            · (intro ww _; go_simp; try with_reducible rfl)
            refine tkW 2 (some 52) (v := ?_) ?_ hHeld ?_
            rotate_left
            · (intro ww _; go_simp; try with_reducible rfl)
            refine tkU 3 (some 53) hHeld ?_
            refine tkU 4 (some 54) hHeld ?_
            refine tkU 5 (some 55) hHeld ?_
            refine tkU 6 (some 56) hHeld ?_
            refine tkU 7 (some 57) hHeld ?_
            refine tkU 8 (some 58) hHeld ?_
            refine tkW 9 (some 59) (v := ?_) ?_ hHeld ?_
            rotate_left
            · (intro ww _; go_simp; try with_reducible rfl)
            refine wpAnyH_done (by kernel_rfl) ?_ _
            clear hHeld
            have r0 : Ug8u0.cell? ⟨b, o + i * 7, none⟩ = some (.int .i64 x.nd.1) := (HBu.out.bel.cell (p := ⟨b, o + i * 7, none⟩) HGl.out).trans HX0.out
            have r1 : Ug8u0.cell? ⟨b, o + i * 7 + 1, none⟩ = some (.int .i64 x.nd.2) := (HBu.out.bel.cell (p := ⟨b, o + i * 7 + 1, none⟩) HGl.out).trans HX1.out
            have r2 : Ug8u0.cell? ⟨b, o + i * 7 + 2, none⟩ = some (.string x.nm) := (HBu.out.bel.cell (p := ⟨b, o + i * 7 + 2, none⟩) HGl.out).trans HX2.out
            have r3 : Ug8u0.cell? ⟨b, o + i * 7 + 3, none⟩ = some (.int .i64 x.at_.1) := (HBu.out.bel.cell (p := ⟨b, o + i * 7 + 3, none⟩) HGl.out).trans HX3.out
            have r4 : Ug8u0.cell? ⟨b, o + i * 7 + 4, none⟩ = some (.int .i64 x.at_.2) := (HBu.out.bel.cell (p := ⟨b, o + i * 7 + 4, none⟩) HGl.out).trans HX4.out
            have r5 : Ug8u0.cell? ⟨b, o + i * 7 + 5, none⟩ = some (.string x.vl) := (HBu.out.bel.cell (p := ⟨b, o + i * 7 + 5, none⟩) HGl.out).trans HX5.out
            have r6 : Ug8u0.cell? ⟨b, o + i * 7 + 6, none⟩ = some (.bool x.gn) := (HBu.out.bel.cell (p := ⟨b, o + i * 7 + 6, none⟩) HGl.out).trans HX6.out
            have halp : Below Ug8u0.heap.size Ug8u0 (Ug8u0.alloc (.cells #[.int .i64 x.nd.1, .int .i64 x.nd.2, .string x.nm, .int .i64 x.at_.1, .int .i64 x.at_.2, .string x.vl, .bool x.gn] 26)) := (Below.refl _ _).alloc (Nat.le_refl _) _
            have HBap : Hid (BuR rgCells 7 26 w1 (.slice (some ⟨gv, 0, none⟩) D.length cv) (D) (Ug8u0.alloc (.cells #[.int .i64 x.nd.1, .int .i64 x.nd.2, .string x.nm, .int .i64 x.at_.1, .int .i64 x.at_.2, .string x.vl, .bool x.gn] 26))) := HBu.out.below halp
            have HNwp : Hid (∀ j u, ([.int .i64 x.nd.1, .int .i64 x.nd.2, .string x.nm, .int .i64 x.at_.1, .int .i64 x.at_.2, .string x.vl, .bool x.gn] : List Value)[j]? = some u → (Ug8u0.alloc (.cells #[.int .i64 x.nd.1, .int .i64 x.nd.2, .string x.nm, .int .i64 x.at_.1, .int .i64 x.at_.2, .string x.vl, .bool x.gn] 26)).cell? ((⟨Ug8u0.heap.size, 0, none⟩ : Addr).add j) = some u) := fun j u hj => (by rw [Addr.add_lit, cell_of_row _ _ _ _ _ _ (heap_alloc_new Ug8u0 _)]; simpa using hj)
            have hszp : w1.heap.size ≤ (Ug8u0.alloc (.cells #[.int .i64 x.nd.1, .int .i64 x.nd.2, .string x.nm, .int .i64 x.at_.1, .int .i64 x.at_.2, .string x.vl, .bool x.gn] 26)).heap.size := HBap.out.bel.size
            clear halp
            go_wp2_with (at_builtin; refine wpList_append_own_at _ rfl _ _ 22 rfl w1.heap.size 26 irg (.agg #[.int .i64 0, .int .i64 0, .string ⟨#[]⟩, .int .i64 0, .int .i64 0, .string ⟨#[]⟩, .bool false]) 7 72 Try.underlying22 hirg hz0rg hz1rg hz2rg rfl (by decide) _ _ _ rfl HBap.out.own ⟨Ug8u0.heap.size, 0, none⟩ 1 1 [.int .i64 x.nd.1, .int .i64 x.nd.2, .string x.nm, .int .i64 x.at_.1, .int .i64 x.at_.2, .string x.vl, .bool x.gn] rfl rfl HNwp.out (rgCells_one x) (by unfold maxLen; omega) (by omega) hszp ?_; intro v3 w8 hown3 hgrow3 hnil3 hat3; obtain ⟨gp, cp, e3⟩ := own_succ hown3; subst e3; have HB8 : Hid (BuR rgCells 7 26 w1 (.slice (some ⟨gp, 0, none⟩) (D.length + 1) cp) (D ++ [x]) w8) := HBap.out.push hown3 hgrow3; clear hown3 hgrow3 hnil3 hat3 HBap HNwp hszp)
            go_roundw
            case rel => exact ⟨i + 1, by go_num, by omega, by (rw [HNx.out]), by (rw [HNx.out]; exact HB8)⟩
            case measure => simp [intOf]; omega
          | false =>
            go_wp2_with fail
            refine wp_region_held_drew (S := fun W' => Below w1.heap.size w1 W') (by kernel_rfl) HBu.out.bel.drew (fun hHeld => ?_)
            obtain ⟨Uh9u0, eW⟩ : ∃ X, X = Uc7u0.drew := ⟨_, rfl⟩
            have hb : Below Uc7u0.heap.size Uc7u0 Uh9u0 := by rw [eW]; exact (Below.refl _ _).drew
            replace HBu : Hid (BuR rgCells 7 26 w1 (.slice (some ⟨gv, 0, none⟩) D.length cv) (D) Uh9u0) := HBu.out.below hb
            rw [← eW] at hHeld ⊢
            clear eW hb
            refine tkW 0 (some 50) (v := ?_) ?_ hHeld ?_
            rotate_left
            · (intro ww _; go_simp; try with_reducible rfl)
            refine tkW 1 (some 51) (v := ?_) ?_ hHeld ?_
            rotate_left
            · (intro ww _; go_simp; try with_reducible rfl)
            refine tkW 2 (some 52) (v := ?_) ?_ hHeld ?_
            rotate_left
            · (intro ww _; go_simp; try with_reducible rfl)
            refine tkW 3 (some 53) (v := ?_) ?_ hHeld ?_
            rotate_left
            · (intro ww hSw; (try dsimp only at hSw); have hbw := hSw; have q0 := (hbw.cell (p := ⟨w.heap.size, 0, none⟩) HGb.out).trans HQ0.out; have q1 := (hbw.cell (p := ⟨w.heap.size, 1, none⟩) HGb.out).trans HQ1.out; have q2 := (hbw.cell (p := ⟨w.heap.size, 2, none⟩) HGb.out).trans HQ2.out; have q3 := (hbw.cell (p := ⟨w.heap.size, 3, none⟩) HGb.out).trans HQ3.out; have q4 := (hbw.cell (p := ⟨w.heap.size, 4, none⟩) HGb.out).trans HQ4.out; have q5 := (hbw.cell (p := ⟨w.heap.size, 5, none⟩) HGb.out).trans HQ5.out; have q6 := (hbw.cell (p := ⟨w.heap.size, 6, none⟩) HGb.out).trans HQ6.out; go_simp; try with_reducible rfl)
            refine tkW 4 (some 54) (v := ?_) ?_ hHeld ?_
            rotate_left
            · (intro ww _; go_simp; try with_reducible rfl)
            refine tkW 5 (some 55) (v := ?_) ?_ hHeld ?_
            rotate_left
            · (intro ww _; go_simp; try with_reducible rfl)
            refine tkW 6 (some 56) (v := ?_) ?_ hHeld ?_
            rotate_left
            · (intro ww hSw; (try dsimp only at hSw); go_simp; try with_reducible rfl)
            refine tkW 7 (some 57) (v := ?_) ?_ hHeld ?_
            rotate_left
            · (intro ww hSw; (try dsimp only at hSw); have hbw := hSw; have r0 := (hbw.cell (p := ⟨b, o + i * 7, none⟩) HGl.out).trans HX0.out; have r1 := (hbw.cell (p := ⟨b, o + i * 7 + 1, none⟩) HGl.out).trans HX1.out; have r2 := (hbw.cell (p := ⟨b, o + i * 7 + 2, none⟩) HGl.out).trans HX2.out; have r3 := (hbw.cell (p := ⟨b, o + i * 7 + 3, none⟩) HGl.out).trans HX3.out; have r4 := (hbw.cell (p := ⟨b, o + i * 7 + 4, none⟩) HGl.out).trans HX4.out; have r5 := (hbw.cell (p := ⟨b, o + i * 7 + 5, none⟩) HGl.out).trans HX5.out; have r6 := (hbw.cell (p := ⟨b, o + i * 7 + 6, none⟩) HGl.out).trans HX6.out; go_simp; try with_reducible rfl)
            refine wpAnyH_ready (rs := [8]) (by kernel_rfl) (by simp) ?_
            refine AllReadyH.cons (o := ⟨some 58, _, _, _, _, _⟩) rfl (fun K hK => ?_) AllReadyH.nil
            go_simp
            refine (refAheadR_any r x _).mono ?_
            rintro e Uh9u1 ⟨rfl, hb⟩
            (try go_wp2_with fail)
            refine hK.out _ _ (hHeld.trans (hb.mono hHeld.size)) (fun hHeld2 => ?_)
            clear hK K hHeld
            have hHeld := hHeld2
            clear hHeld2
            (try simp only [Act.put, List.setIfInBounds_toArray, List.set_cons_zero, List.set_cons_succ])
            replace HBu : Hid (BuR rgCells 7 26 w1 (.slice (some ⟨gv, 0, none⟩) D.length cv) (D) Uh9u1) := HBu.out.below hb
            clear hb
            refine tkW 9 (some 59) (v := ?_) ?_ hHeld ?_
            rotate_left
            · (intro ww _; go_simp; try with_reducible rfl)
            refine wpAnyH_done (by kernel_rfl) ?_ _
            clear hHeld
            cases hA : ltK (keyR r) (keyR x) with
            | true =>
              have HNx : Hid (putTo r (R.take (i + 1)) = (D ++ [r] ++ [x], true)) := by (show _ = _; rw [HSt.out]; unfold stepP; simp [show keyR x ≠ keyR r from HK.out, hA])
              clear hA
              have q0 : Uh9u1.cell? ⟨w.heap.size, 0, none⟩ = some (.int .i64 r.nd.1) := (HBu.out.bel.cell (p := ⟨w.heap.size, 0, none⟩) HGb.out).trans HQ0.out
              have q1 : Uh9u1.cell? ⟨w.heap.size, 1, none⟩ = some (.int .i64 r.nd.2) := (HBu.out.bel.cell (p := ⟨w.heap.size, 1, none⟩) HGb.out).trans HQ1.out
              have q2 : Uh9u1.cell? ⟨w.heap.size, 2, none⟩ = some (.string r.nm) := (HBu.out.bel.cell (p := ⟨w.heap.size, 2, none⟩) HGb.out).trans HQ2.out
              have q3 : Uh9u1.cell? ⟨w.heap.size, 3, none⟩ = some (.int .i64 r.at_.1) := (HBu.out.bel.cell (p := ⟨w.heap.size, 3, none⟩) HGb.out).trans HQ3.out
              have q4 : Uh9u1.cell? ⟨w.heap.size, 4, none⟩ = some (.int .i64 r.at_.2) := (HBu.out.bel.cell (p := ⟨w.heap.size, 4, none⟩) HGb.out).trans HQ4.out
              have q5 : Uh9u1.cell? ⟨w.heap.size, 5, none⟩ = some (.string r.vl) := (HBu.out.bel.cell (p := ⟨w.heap.size, 5, none⟩) HGb.out).trans HQ5.out
              have q6 : Uh9u1.cell? ⟨w.heap.size, 6, none⟩ = some (.bool r.gn) := (HBu.out.bel.cell (p := ⟨w.heap.size, 6, none⟩) HGb.out).trans HQ6.out
              have halp : Below Uh9u1.heap.size Uh9u1 (Uh9u1.alloc (.cells #[.int .i64 r.nd.1, .int .i64 r.nd.2, .string r.nm, .int .i64 r.at_.1, .int .i64 r.at_.2, .string r.vl, .bool r.gn] 26)) := (Below.refl _ _).alloc (Nat.le_refl _) _
              have HBap : Hid (BuR rgCells 7 26 w1 (.slice (some ⟨gv, 0, none⟩) D.length cv) (D) (Uh9u1.alloc (.cells #[.int .i64 r.nd.1, .int .i64 r.nd.2, .string r.nm, .int .i64 r.at_.1, .int .i64 r.at_.2, .string r.vl, .bool r.gn] 26))) := HBu.out.below halp
              have HNwp : Hid (∀ j u, ([.int .i64 r.nd.1, .int .i64 r.nd.2, .string r.nm, .int .i64 r.at_.1, .int .i64 r.at_.2, .string r.vl, .bool r.gn] : List Value)[j]? = some u → (Uh9u1.alloc (.cells #[.int .i64 r.nd.1, .int .i64 r.nd.2, .string r.nm, .int .i64 r.at_.1, .int .i64 r.at_.2, .string r.vl, .bool r.gn] 26)).cell? ((⟨Uh9u1.heap.size, 0, none⟩ : Addr).add j) = some u) := fun j u hj => (by rw [Addr.add_lit, cell_of_row _ _ _ _ _ _ (heap_alloc_new Uh9u1 _)]; simpa using hj)
              have hszp : w1.heap.size ≤ (Uh9u1.alloc (.cells #[.int .i64 r.nd.1, .int .i64 r.nd.2, .string r.nm, .int .i64 r.at_.1, .int .i64 r.at_.2, .string r.vl, .bool r.gn] 26)).heap.size := HBap.out.bel.size
              clear halp
              go_wp2_with (first
                | (at_builtin; refine wpList_append_own_at _ rfl _ _ 22 rfl w1.heap.size 26 irg (.agg #[.int .i64 0, .int .i64 0, .string ⟨#[]⟩, .int .i64 0, .int .i64 0, .string ⟨#[]⟩, .bool false]) 7 72 Try.underlying22 hirg hz0rg hz1rg hz2rg rfl (by decide) _ _ _ rfl HBap.out.own ⟨Uh9u1.heap.size, 0, none⟩ 1 1 [.int .i64 r.nd.1, .int .i64 r.nd.2, .string r.nm, .int .i64 r.at_.1, .int .i64 r.at_.2, .string r.vl, .bool r.gn] rfl rfl HNwp.out (rgCells_one r) (by unfold maxLen; omega) (by omega) hszp ?_; intro v3 w8 hown3 hgrow3 hnil3 hat3; obtain ⟨gp, cp, e3⟩ := own_succ hown3; subst e3; have HB8 : Hid (BuR rgCells 7 26 w1 (.slice (some ⟨gp, 0, none⟩) (D.length + 1) cp) (D ++ [r]) w8) := HBap.out.push hown3 hgrow3; clear hown3 hgrow3 hnil3 hat3 HBap HNwp hszp; obtain ⟨D2, eD2⟩ : ∃ X, X = D ++ [r] := ⟨_, rfl⟩; have hDl : D.length + 1 = D2.length := (by rw [eD2]; simp); rw [hDl] at HB8 ⊢; rw [← eD2] at HB8; have HE2 : Hid (D2 = D ++ [r]) := eD2; have hD2n : D2.length ≤ 8193 := (by omega); clear eD2 hDl; have r0 : w8.cell? ⟨b, o + i * 7, none⟩ = some (.int .i64 x.nd.1) := (HB8.out.bel.cell (p := ⟨b, o + i * 7, none⟩) HGl.out).trans HX0.out; have r1 : w8.cell? ⟨b, o + i * 7 + 1, none⟩ = some (.int .i64 x.nd.2) := (HB8.out.bel.cell (p := ⟨b, o + i * 7 + 1, none⟩) HGl.out).trans HX1.out; have r2 : w8.cell? ⟨b, o + i * 7 + 2, none⟩ = some (.string x.nm) := (HB8.out.bel.cell (p := ⟨b, o + i * 7 + 2, none⟩) HGl.out).trans HX2.out; have r3 : w8.cell? ⟨b, o + i * 7 + 3, none⟩ = some (.int .i64 x.at_.1) := (HB8.out.bel.cell (p := ⟨b, o + i * 7 + 3, none⟩) HGl.out).trans HX3.out; have r4 : w8.cell? ⟨b, o + i * 7 + 4, none⟩ = some (.int .i64 x.at_.2) := (HB8.out.bel.cell (p := ⟨b, o + i * 7 + 4, none⟩) HGl.out).trans HX4.out; have r5 : w8.cell? ⟨b, o + i * 7 + 5, none⟩ = some (.string x.vl) := (HB8.out.bel.cell (p := ⟨b, o + i * 7 + 5, none⟩) HGl.out).trans HX5.out; have r6 : w8.cell? ⟨b, o + i * 7 + 6, none⟩ = some (.bool x.gn) := (HB8.out.bel.cell (p := ⟨b, o + i * 7 + 6, none⟩) HGl.out).trans HX6.out; have hals : Below w8.heap.size w8 (w8.alloc (.cells #[.int .i64 x.nd.1, .int .i64 x.nd.2, .string x.nm, .int .i64 x.at_.1, .int .i64 x.at_.2, .string x.vl, .bool x.gn] 26)) := (Below.refl _ _).alloc (Nat.le_refl _) _; have HBas : Hid (BuR rgCells 7 26 w1 (.slice (some ⟨gp, 0, none⟩) D2.length cp) (D2) (w8.alloc (.cells #[.int .i64 x.nd.1, .int .i64 x.nd.2, .string x.nm, .int .i64 x.at_.1, .int .i64 x.at_.2, .string x.vl, .bool x.gn] 26))) := HB8.out.below hals; have HNws : Hid (∀ j u, ([.int .i64 x.nd.1, .int .i64 x.nd.2, .string x.nm, .int .i64 x.at_.1, .int .i64 x.at_.2, .string x.vl, .bool x.gn] : List Value)[j]? = some u → (w8.alloc (.cells #[.int .i64 x.nd.1, .int .i64 x.nd.2, .string x.nm, .int .i64 x.at_.1, .int .i64 x.at_.2, .string x.vl, .bool x.gn] 26)).cell? ((⟨w8.heap.size, 0, none⟩ : Addr).add j) = some u) := fun j u hj => (by rw [Addr.add_lit, cell_of_row _ _ _ _ _ _ (heap_alloc_new w8 _)]; simpa using hj); have hszs : w1.heap.size ≤ (w8.alloc (.cells #[.int .i64 x.nd.1, .int .i64 x.nd.2, .string x.nm, .int .i64 x.at_.1, .int .i64 x.at_.2, .string x.vl, .bool x.gn] 26)).heap.size := HBas.out.bel.size; clear hals)
                | (at_builtin; refine wpList_append_own_at _ rfl _ _ 22 rfl w1.heap.size 26 irg (.agg #[.int .i64 0, .int .i64 0, .string ⟨#[]⟩, .int .i64 0, .int .i64 0, .string ⟨#[]⟩, .bool false]) 7 72 Try.underlying22 hirg hz0rg hz1rg hz2rg rfl (by decide) _ _ _ rfl HBas.out.own ⟨w8.heap.size, 0, none⟩ 1 1 [.int .i64 x.nd.1, .int .i64 x.nd.2, .string x.nm, .int .i64 x.at_.1, .int .i64 x.at_.2, .string x.vl, .bool x.gn] rfl rfl HNws.out (rgCells_one x) (by unfold maxLen; omega) (by omega) hszs ?_; intro v3 w9 hown3 hgrow3 hnil3 hat3; obtain ⟨gs, cs, e3⟩ := own_succ hown3; subst e3; have HB9 : Hid (BuR rgCells 7 26 w1 (.slice (some ⟨gs, 0, none⟩) (D2.length + 1) cs) (D2 ++ [x]) w9) := HBas.out.push hown3 hgrow3; clear hown3 hgrow3 hnil3 hat3 HBas HNws hszs))
              go_roundw
              case rel => exact ⟨i + 1, by go_num, by omega, by (rw [HNx.out]), by (rw [HNx.out, ← HE2.out]; exact HB9)⟩
              case measure => simp [intOf]; omega
            | false =>
              have HNx : Hid (putTo r (R.take (i + 1)) = (D ++ [x], false)) := by (show _ = _; rw [HSt.out]; unfold stepP; simp [show keyR x ≠ keyR r from HK.out, hA])
              clear hA
              have r0 : Uh9u1.cell? ⟨b, o + i * 7, none⟩ = some (.int .i64 x.nd.1) := (HBu.out.bel.cell (p := ⟨b, o + i * 7, none⟩) HGl.out).trans HX0.out
              have r1 : Uh9u1.cell? ⟨b, o + i * 7 + 1, none⟩ = some (.int .i64 x.nd.2) := (HBu.out.bel.cell (p := ⟨b, o + i * 7 + 1, none⟩) HGl.out).trans HX1.out
              have r2 : Uh9u1.cell? ⟨b, o + i * 7 + 2, none⟩ = some (.string x.nm) := (HBu.out.bel.cell (p := ⟨b, o + i * 7 + 2, none⟩) HGl.out).trans HX2.out
              have r3 : Uh9u1.cell? ⟨b, o + i * 7 + 3, none⟩ = some (.int .i64 x.at_.1) := (HBu.out.bel.cell (p := ⟨b, o + i * 7 + 3, none⟩) HGl.out).trans HX3.out
              have r4 : Uh9u1.cell? ⟨b, o + i * 7 + 4, none⟩ = some (.int .i64 x.at_.2) := (HBu.out.bel.cell (p := ⟨b, o + i * 7 + 4, none⟩) HGl.out).trans HX4.out
              have r5 : Uh9u1.cell? ⟨b, o + i * 7 + 5, none⟩ = some (.string x.vl) := (HBu.out.bel.cell (p := ⟨b, o + i * 7 + 5, none⟩) HGl.out).trans HX5.out
              have r6 : Uh9u1.cell? ⟨b, o + i * 7 + 6, none⟩ = some (.bool x.gn) := (HBu.out.bel.cell (p := ⟨b, o + i * 7 + 6, none⟩) HGl.out).trans HX6.out
              have halp : Below Uh9u1.heap.size Uh9u1 (Uh9u1.alloc (.cells #[.int .i64 x.nd.1, .int .i64 x.nd.2, .string x.nm, .int .i64 x.at_.1, .int .i64 x.at_.2, .string x.vl, .bool x.gn] 26)) := (Below.refl _ _).alloc (Nat.le_refl _) _
              have HBap : Hid (BuR rgCells 7 26 w1 (.slice (some ⟨gv, 0, none⟩) D.length cv) (D) (Uh9u1.alloc (.cells #[.int .i64 x.nd.1, .int .i64 x.nd.2, .string x.nm, .int .i64 x.at_.1, .int .i64 x.at_.2, .string x.vl, .bool x.gn] 26))) := HBu.out.below halp
              have HNwp : Hid (∀ j u, ([.int .i64 x.nd.1, .int .i64 x.nd.2, .string x.nm, .int .i64 x.at_.1, .int .i64 x.at_.2, .string x.vl, .bool x.gn] : List Value)[j]? = some u → (Uh9u1.alloc (.cells #[.int .i64 x.nd.1, .int .i64 x.nd.2, .string x.nm, .int .i64 x.at_.1, .int .i64 x.at_.2, .string x.vl, .bool x.gn] 26)).cell? ((⟨Uh9u1.heap.size, 0, none⟩ : Addr).add j) = some u) := fun j u hj => (by rw [Addr.add_lit, cell_of_row _ _ _ _ _ _ (heap_alloc_new Uh9u1 _)]; simpa using hj)
              have hszp : w1.heap.size ≤ (Uh9u1.alloc (.cells #[.int .i64 x.nd.1, .int .i64 x.nd.2, .string x.nm, .int .i64 x.at_.1, .int .i64 x.at_.2, .string x.vl, .bool x.gn] 26)).heap.size := HBap.out.bel.size
              clear halp
              go_wp2_with (at_builtin; refine wpList_append_own_at _ rfl _ _ 22 rfl w1.heap.size 26 irg (.agg #[.int .i64 0, .int .i64 0, .string ⟨#[]⟩, .int .i64 0, .int .i64 0, .string ⟨#[]⟩, .bool false]) 7 72 Try.underlying22 hirg hz0rg hz1rg hz2rg rfl (by decide) _ _ _ rfl HBap.out.own ⟨Uh9u1.heap.size, 0, none⟩ 1 1 [.int .i64 x.nd.1, .int .i64 x.nd.2, .string x.nm, .int .i64 x.at_.1, .int .i64 x.at_.2, .string x.vl, .bool x.gn] rfl rfl HNwp.out (rgCells_one x) (by unfold maxLen; omega) (by omega) hszp ?_; intro v3 w8 hown3 hgrow3 hnil3 hat3; obtain ⟨gp, cp, e3⟩ := own_succ hown3; subst e3; have HB8 : Hid (BuR rgCells 7 26 w1 (.slice (some ⟨gp, 0, none⟩) (D.length + 1) cp) (D ++ [x]) w8) := HBap.out.push hown3 hgrow3; clear hown3 hgrow3 hnil3 hat3 HBap HNwp hszp)
              go_roundw
              case rel => exact ⟨i + 1, by go_num, by omega, by (rw [HNx.out]), by (rw [HNx.out]; exact HB8)⟩
              case measure => simp [intOf]; omega
      · have hii : i = R.length := by omega
        have HI : Hid ((if dn = true then D else D ++ [r]) = putC R r) := by
          have h9 := putTo_ins HSr.out r
          have h8 := HDd.out
          rw [hii, List.take_length] at h8
          rw [h8] at h9
          rw [HP.out]
          exact h9
        subst hii
        cases dn with
        | true =>
          have HI2 : Hid (D = putC R r) := HI.out
          clear HI HDd
          go_wp2
          go_ret2
          exact ⟨_, by (rw [HC.out]; rfl), by (rw [← HI2.out]; exact HBu.out.lsE rgCells_len (by omega) (fun j hj => .inr (Nat.le_trans HB.out.size hj))), HB.out.trans (HBu.out.bel.mono HB.out.size)⟩
        | false =>
          have HI2 : Hid (D ++ [r] = putC R r) := HI.out
          clear HI HDd
          have q0 : wr.cell? ⟨w.heap.size, 0, none⟩ = some (.int .i64 r.nd.1) := (HBu.out.bel.cell (p := ⟨w.heap.size, 0, none⟩) HGb.out).trans HQ0.out
          have q1 : wr.cell? ⟨w.heap.size, 1, none⟩ = some (.int .i64 r.nd.2) := (HBu.out.bel.cell (p := ⟨w.heap.size, 1, none⟩) HGb.out).trans HQ1.out
          have q2 : wr.cell? ⟨w.heap.size, 2, none⟩ = some (.string r.nm) := (HBu.out.bel.cell (p := ⟨w.heap.size, 2, none⟩) HGb.out).trans HQ2.out
          have q3 : wr.cell? ⟨w.heap.size, 3, none⟩ = some (.int .i64 r.at_.1) := (HBu.out.bel.cell (p := ⟨w.heap.size, 3, none⟩) HGb.out).trans HQ3.out
          have q4 : wr.cell? ⟨w.heap.size, 4, none⟩ = some (.int .i64 r.at_.2) := (HBu.out.bel.cell (p := ⟨w.heap.size, 4, none⟩) HGb.out).trans HQ4.out
          have q5 : wr.cell? ⟨w.heap.size, 5, none⟩ = some (.string r.vl) := (HBu.out.bel.cell (p := ⟨w.heap.size, 5, none⟩) HGb.out).trans HQ5.out
          have q6 : wr.cell? ⟨w.heap.size, 6, none⟩ = some (.bool r.gn) := (HBu.out.bel.cell (p := ⟨w.heap.size, 6, none⟩) HGb.out).trans HQ6.out
          have halp : Below wr.heap.size wr (wr.alloc (.cells #[.int .i64 r.nd.1, .int .i64 r.nd.2, .string r.nm, .int .i64 r.at_.1, .int .i64 r.at_.2, .string r.vl, .bool r.gn] 26)) := (Below.refl _ _).alloc (Nat.le_refl _) _
          have HBap : Hid (BuR rgCells 7 26 w1 (.slice (some ⟨gv, 0, none⟩) D.length cv) (D) (wr.alloc (.cells #[.int .i64 r.nd.1, .int .i64 r.nd.2, .string r.nm, .int .i64 r.at_.1, .int .i64 r.at_.2, .string r.vl, .bool r.gn] 26))) := HBu.out.below halp
          have HNwp : Hid (∀ j u, ([.int .i64 r.nd.1, .int .i64 r.nd.2, .string r.nm, .int .i64 r.at_.1, .int .i64 r.at_.2, .string r.vl, .bool r.gn] : List Value)[j]? = some u → (wr.alloc (.cells #[.int .i64 r.nd.1, .int .i64 r.nd.2, .string r.nm, .int .i64 r.at_.1, .int .i64 r.at_.2, .string r.vl, .bool r.gn] 26)).cell? ((⟨wr.heap.size, 0, none⟩ : Addr).add j) = some u) := fun j u hj => (by rw [Addr.add_lit, cell_of_row _ _ _ _ _ _ (heap_alloc_new wr _)]; simpa using hj)
          have hszp : w1.heap.size ≤ (wr.alloc (.cells #[.int .i64 r.nd.1, .int .i64 r.nd.2, .string r.nm, .int .i64 r.at_.1, .int .i64 r.at_.2, .string r.vl, .bool r.gn] 26)).heap.size := HBap.out.bel.size
          clear halp
          go_wp2_with (at_builtin; refine wpList_append_own_at _ rfl _ _ 22 rfl w1.heap.size 26 irg (.agg #[.int .i64 0, .int .i64 0, .string ⟨#[]⟩, .int .i64 0, .int .i64 0, .string ⟨#[]⟩, .bool false]) 7 72 Try.underlying22 hirg hz0rg hz1rg hz2rg rfl (by decide) _ _ _ rfl HBap.out.own ⟨wr.heap.size, 0, none⟩ 1 1 [.int .i64 r.nd.1, .int .i64 r.nd.2, .string r.nm, .int .i64 r.at_.1, .int .i64 r.at_.2, .string r.vl, .bool r.gn] rfl rfl HNwp.out (rgCells_one r) (by unfold maxLen; omega) (by omega) hszp ?_; intro v3 w8 hown3 hgrow3 hnil3 hat3; obtain ⟨gp, cp, e3⟩ := own_succ hown3; subst e3; have HB8 : Hid (BuR rgCells 7 26 w1 (.slice (some ⟨gp, 0, none⟩) (D.length + 1) cp) (D ++ [r]) w8) := HBap.out.push hown3 hgrow3; clear hown3 hgrow3 hnil3 hat3 HBap HNwp hszp)
          go_ret2
          exact ⟨_, by (rw [HC.out]; rfl), by (rw [← HI2.out]; exact HB8.out.lsE rgCells_len (by simp; omega) (fun j hj => .inr (Nat.le_trans HB.out.size hj))), HB.out.trans (HB8.out.bel.mono HB.out.size)⟩
  · have HP : Hid (putC R r = R) := by (show _ = _; unfold putC okR; simp [h0])
    have q : (chkR r == 0) = false := by simpa using h0
    clear h0
    go_wp2_with fail
    clear x0 x1 x2 x3 x4 x5 x6
    refine (refCheck_any r hsz _).mono ?_
    rintro e w2 ⟨rfl, hb⟩
    replace HL : Hid (LsE rgCells 7 G w2 (.slice av R.length cl) R) := HL.out.below hb
    replace HB : Hid (Below w.heap.size w w2) := HB.out.trans (hb.mono HB.out.size)
    clear hb
    go_wp2
    go_ret2
    exact ⟨_, rfl, by (rw [HP.out]; exact HL.out.mono fun _ h => .inl h), HB.out⟩

end Go.Proofs.Ytecliogffcnfiaa
