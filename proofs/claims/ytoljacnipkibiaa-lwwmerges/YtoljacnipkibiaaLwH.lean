/- Equality of what registers have; the document's Same. -/
import Derived.Test.YtoljacnipkibiaaLwG
namespace Go.Proofs.Ytoljacnipkibiaa
open Go.RowKit
set_option linter.unusedVariables false
set_option linter.unusedSimpArgs false

set_option maxRecDepth 100000 in
theorem equalRg (a b : Rg) (w : World) : (Op.equalIn 10000 25 (rgV a) (rgV b)).run Try.prog w = .ok (decide (a = b)) w := by
  obtain ⟨⟨anc, anr⟩, anm, ⟨aac, aar⟩, avl, agn⟩ := a
  obtain ⟨⟨bnc, bnr⟩, bnm, ⟨bac, bar⟩, bvl, bgn⟩ := b
  have hS : Try.prog.underlying 25 = some (.struct (Try.prog.fieldsOf 25)) := by kernel_rfl
  have hp : Try.prog.stoodInHeld 25 = false := by kernel_rfl
  show (Op.equalIn 10000 25 (.agg #[.int .i64 anc, .int .i64 anr, .string anm, .int .i64 aac, .int .i64 aar, .string avl, .bool agn]) (.agg #[.int .i64 bnc, .int .i64 bnr, .string bnm, .int .i64 bac, .int .i64 bar, .string bvl, .bool bgn])).run Try.prog w = _
  rw [show (10000 : Nat) = 9999 + 1 from rfl, run_equalIn_agg w 9999 25 _ _ hS hp]
  simp only [Program.fieldsOf, Try.underlying25]
  have hn := txt_eq anm bnm
  have hv := txt_eq avl bvl
  clear hS hp
  go_simp
  by_cases h1 : anc = bnc
  · by_cases h2 : anr = bnr
    · by_cases h3 : anm = bnm
      · by_cases h4 : aac = bac
        · by_cases h5 : aar = bar
          · by_cases h6 : avl = bvl
            · by_cases h7 : agn = bgn <;> simp [h1, h2, h3, h4, h5, h6, h7, hn, hv]
            · simp [h1, h2, h3, h4, h5, h6, hn, hv]
          · simp [h1, h2, h3, h4, h5, hn]
        · simp [h1, h2, h3, h4, hn]
      · simp [h1, h2, h3, hn]
    · simp [h1, h2]
  · simp [h1]
theorem execEql {ev : Operand → Value} {d : Option Nat} {x y : Operand} {t t2 : TypeId} {o3 : String} {o4 : Array Edge} {o5 : Option (Nat × Bool)} {p q : Rg} (hx : ev x = rgV p) (hy : ev y = rgV q) (w : World) : (execOp ev ⟨d, .binOp .eql 25 x y t2, t, o3, o4, o5⟩).run Try.prog w = .ok (.value (.bool (decide (p = q)))) w := by
  have h1 : (eqGuard .eql 25 x y (rgV p) (rgV q)).run Try.prog w = .ok () w := run_eqGuard_agg w .eql 25 x y _ _ (by kernel_rfl)
  have h2 : (binOp .eql 25 (rgV p) (rgV q)).run Try.prog w = .ok (.bool (decide (p = q))) w := by
    rw [show rgV p = .agg #[.int .i64 p.nd.1, .int .i64 p.nd.2, .string p.nm, .int .i64 p.at_.1, .int .i64 p.at_.2, .string p.vl, .bool p.gn] from rfl, show rgV q = .agg #[.int .i64 q.nd.1, .int .i64 q.nd.2, .string q.nm, .int .i64 q.at_.1, .int .i64 q.at_.2, .string q.vl, .bool q.gn] from rfl, run_eql_struct]
    have h3 := equalRg p q w
    rw [show rgV p = .agg #[.int .i64 p.nd.1, .int .i64 p.nd.2, .string p.nm, .int .i64 p.at_.1, .int .i64 p.at_.2, .string p.vl, .bool p.gn] from rfl, show rgV q = .agg #[.int .i64 q.nd.1, .int .i64 q.nd.2, .string q.nm, .int .i64 q.at_.1, .int .i64 q.at_.2, .string q.vl, .bool q.gn] from rfl] at h3
    rw [h3]
    rfl
  unfold execOp
  simp only [hx, hy, Sem.run_bind, h1, h2, Result.andThen_ok]
  rfl
theorem execNeq {ev : Operand → Value} {d : Option Nat} {x y : Operand} {t t2 : TypeId} {o3 : String} {o4 : Array Edge} {o5 : Option (Nat × Bool)} {p q : Rg} (hx : ev x = rgV p) (hy : ev y = rgV q) (w : World) : (execOp ev ⟨d, .binOp .neq 25 x y t2, t, o3, o4, o5⟩).run Try.prog w = .ok (.value (.bool (!decide (p = q)))) w := by
  have h1 : (eqGuard .neq 25 x y (rgV p) (rgV q)).run Try.prog w = .ok () w := run_eqGuard_agg w .neq 25 x y _ _ (by kernel_rfl)
  have h2 : (binOp .neq 25 (rgV p) (rgV q)).run Try.prog w = .ok (.bool (!decide (p = q))) w := by
    rw [show rgV p = .agg #[.int .i64 p.nd.1, .int .i64 p.nd.2, .string p.nm, .int .i64 p.at_.1, .int .i64 p.at_.2, .string p.vl, .bool p.gn] from rfl, show rgV q = .agg #[.int .i64 q.nd.1, .int .i64 q.nd.2, .string q.nm, .int .i64 q.at_.1, .int .i64 q.at_.2, .string q.vl, .bool q.gn] from rfl, run_neq_struct]
    have h3 := equalRg p q w
    rw [show rgV p = .agg #[.int .i64 p.nd.1, .int .i64 p.nd.2, .string p.nm, .int .i64 p.at_.1, .int .i64 p.at_.2, .string p.vl, .bool p.gn] from rfl, show rgV q = .agg #[.int .i64 q.nd.1, .int .i64 q.nd.2, .string q.nm, .int .i64 q.at_.1, .int .i64 q.at_.2, .string q.vl, .bool q.gn] from rfl] at h3
    rw [h3]
    rfl
  unfold execOp
  simp only [hx, hy, Sem.run_bind, h1, h2, Result.andThen_ok]
  rfl
theorem take_more {A B : List Rg} {i : Nat} (ha : i < A.length) (hb : i < B.length) (h : A.take i = B.take i) (e : A[i] = B[i]) : A.take (i + 1) = B.take (i + 1) := by
  rw [List.take_succ_eq_append_getElem ha, List.take_succ_eq_append_getElem hb, h, e]

set_option maxRecDepth 100000 in
set_option maxHeartbeats 8000000 in
theorem refSame_any (G1 G2 : Nat → Prop) (va vb : Value) (A B : List Rg) (w : World) (ha : LsE rgCells 7 G1 w va A) (hb : LsE rgCells 7 G2 w vb B) :
    Calls Try.prog 17 #[va, vb] w fun e w' => e = .returned (.bool (decide (A = B))) ∧ Below w.heap.size w w' := by
  obtain ⟨a1, c1, rfl⟩ := ha.form
  obtain ⟨a2, c2, rfl⟩ := hb.form
  have hla := ha.len
  have hlb := hb.len
  have HA : Hid (LsE rgCells 7 G1 w (.slice a1 A.length c1) A) := ha
  have HB : Hid (LsE rgCells 7 G2 w (.slice a2 B.length c2) B) := hb
  clear ha hb
  by_cases hn : A.length = B.length
  · have HN : Hid (A.length = B.length) := hn
    obtain ⟨n, en⟩ : ∃ n, n = B.length := ⟨_, rfl⟩
    have HN2 : Hid (n = B.length) := en
    rw [hn, ← en]
    rw [hn, ← en] at HA hla
    rw [← en] at HB hlb
    have HNa : Hid (n = A.length) := (by show _ = _; rw [hn, en])
    clear hn en
    go_enter Try.func17, Try.ntmps17
    go_wp2_with fail
    go_loopw [5] (fun iv wr => ∃ (i : Nat), iv = .int .i64 (i : Int) ∧ i ≤ n ∧ Hid (A.take i = B.take i) ∧ Hid (Below w.heap.size w wr)) (fun iv _ => n - (intOf iv).toNat)
    case atStart => exact ⟨0, rfl, Nat.zero_le _, rfl, Below.refl _ _⟩
    case round =>
      obtain ⟨i, rfl, hil, HT, HBw⟩ := hrel
      by_cases hlt : i < n
      · have hia : i < A.length := by rw [← HNa.out]; exact hlt
        have hib : i < B.length := by rw [← HN2.out]; exact hlt
        have HA2 := HA.out
        have HB2 := HB.out
        rw [HNa.out] at HA2
        obtain ⟨b1, o1, cap1, ev, _, hl1, hr1⟩ := HA2.row7 (i := i) hia
        injection ev with ev1 _ ev3
        subst ev1
        subst ev3
        clear HA2
        rw [HN2.out] at HB2
        obtain ⟨b2, o2, cap2, ev, _, hl2, hr2⟩ := HB2.row7 (i := i) hib
        injection ev with ev1 _ ev3
        subst ev1
        subst ev3
        clear HB2
        have HTk0 := take_more hia hib HT.out
        have HNe0 : A[i] ≠ B[i] → A ≠ B := fun h e => h (by subst e; rfl)
        obtain ⟨x, ex⟩ : ∃ x, x = A[i] := ⟨_, rfl⟩
        obtain ⟨y, ey⟩ : ∃ y, y = B[i] := ⟨_, rfl⟩
        rw [← ex] at hr1 HTk0 HNe0
        rw [← ey] at hr2 HTk0 HNe0
        have HTk1 : Hid (x = y → A.take (i + 1) = B.take (i + 1)) := HTk0
        have HNe1 : Hid (x ≠ y → A ≠ B) := HNe0
        have HG1 : Hid (b1 < w.heap.size) := hl1
        have HG2 : Hid (b2 < w.heap.size) := hl2
        have AH0 : Hid (w.cell? ⟨b1, o1 + i * 7, none⟩ = some (.int .i64 x.nd.1)) := hr1 0 _ rfl
        have AH1 : Hid (w.cell? ⟨b1, o1 + i * 7 + 1, none⟩ = some (.int .i64 x.nd.2)) := hr1 1 _ rfl
        have AH2 : Hid (w.cell? ⟨b1, o1 + i * 7 + 2, none⟩ = some (.string x.nm)) := hr1 2 _ rfl
        have AH3 : Hid (w.cell? ⟨b1, o1 + i * 7 + 3, none⟩ = some (.int .i64 x.at_.1)) := hr1 3 _ rfl
        have AH4 : Hid (w.cell? ⟨b1, o1 + i * 7 + 4, none⟩ = some (.int .i64 x.at_.2)) := hr1 4 _ rfl
        have AH5 : Hid (w.cell? ⟨b1, o1 + i * 7 + 5, none⟩ = some (.string x.vl)) := hr1 5 _ rfl
        have AH6 : Hid (w.cell? ⟨b1, o1 + i * 7 + 6, none⟩ = some (.bool x.gn)) := hr1 6 _ rfl
        have CH0 : Hid (w.cell? ⟨b2, o2 + i * 7, none⟩ = some (.int .i64 y.nd.1)) := hr2 0 _ rfl
        have CH1 : Hid (w.cell? ⟨b2, o2 + i * 7 + 1, none⟩ = some (.int .i64 y.nd.2)) := hr2 1 _ rfl
        have CH2 : Hid (w.cell? ⟨b2, o2 + i * 7 + 2, none⟩ = some (.string y.nm)) := hr2 2 _ rfl
        have CH3 : Hid (w.cell? ⟨b2, o2 + i * 7 + 3, none⟩ = some (.int .i64 y.at_.1)) := hr2 3 _ rfl
        have CH4 : Hid (w.cell? ⟨b2, o2 + i * 7 + 4, none⟩ = some (.int .i64 y.at_.2)) := hr2 4 _ rfl
        have CH5 : Hid (w.cell? ⟨b2, o2 + i * 7 + 5, none⟩ = some (.string y.vl)) := hr2 5 _ rfl
        have CH6 : Hid (w.cell? ⟨b2, o2 + i * 7 + 6, none⟩ = some (.bool y.gn)) := hr2 6 _ rfl
        have k1 : (i : Int) < (n : Int) := by omega
        have k0 : (0 : Int) ≤ (i : Int) := by omega
        clear ex ey hr1 hr2 hl1 hl2 HTk0 HNe0 hia hib
        go_wp2_with fail
        by_cases he : x = y
        · have HE : Hid (x = y) := he
          have HTk : Hid (A.take (i + 1) = B.take (i + 1)) := HTk1.out he
          clear he HTk1 HNe1
          refine wp_region_held_drew (S := fun W' => Below w.heap.size w W') (by kernel_rfl) HBw.out.drew (fun hHeld => ?_)
          obtain ⟨Ua10u0, eW⟩ : ∃ X, X = wr.drew := ⟨_, rfl⟩
          have hb : Below wr.heap.size wr Ua10u0 := by rw [eW]; exact (Below.refl _ _).drew
          replace HBw : Hid (Below w.heap.size w Ua10u0) := HBw.out.trans (hb.mono HBw.out.size)
          rw [← eW] at hHeld ⊢
          clear eW hb
          refine tkW 0 (some 17) (v := ?_) ?_ hHeld ?_
          rotate_left
          · (intro ww _; go_simp; try with_reducible rfl)
          refine tkW 1 (some 18) (v := ?_) ?_ hHeld ?_
          rotate_left
          · (intro ww _; go_simp; try with_reducible rfl)
          refine tkW 2 (some 19) (v := ?_) ?_ hHeld ?_
          rotate_left
          · (intro ww hSw; (try dsimp only at hSw); go_simp; try with_reducible rfl)
          refine tkW 3 (some 20) (v := ?_) ?_ hHeld ?_
          rotate_left
          · (intro ww hSw; (try dsimp only at hSw); have hbw := hSw; have a0 : ww.cell? ⟨b1, o1 + i * 7, none⟩ = some (.int .i64 x.nd.1) := (hbw.cell (p := ⟨b1, o1 + i * 7, none⟩) HG1.out).trans AH0.out; have a1 : ww.cell? ⟨b1, o1 + i * 7 + 1, none⟩ = some (.int .i64 x.nd.2) := (hbw.cell (p := ⟨b1, o1 + i * 7 + 1, none⟩) HG1.out).trans AH1.out; have a2 : ww.cell? ⟨b1, o1 + i * 7 + 2, none⟩ = some (.string x.nm) := (hbw.cell (p := ⟨b1, o1 + i * 7 + 2, none⟩) HG1.out).trans AH2.out; have a3 : ww.cell? ⟨b1, o1 + i * 7 + 3, none⟩ = some (.int .i64 x.at_.1) := (hbw.cell (p := ⟨b1, o1 + i * 7 + 3, none⟩) HG1.out).trans AH3.out; have a4 : ww.cell? ⟨b1, o1 + i * 7 + 4, none⟩ = some (.int .i64 x.at_.2) := (hbw.cell (p := ⟨b1, o1 + i * 7 + 4, none⟩) HG1.out).trans AH4.out; have a5 : ww.cell? ⟨b1, o1 + i * 7 + 5, none⟩ = some (.string x.vl) := (hbw.cell (p := ⟨b1, o1 + i * 7 + 5, none⟩) HG1.out).trans AH5.out; have a6 : ww.cell? ⟨b1, o1 + i * 7 + 6, none⟩ = some (.bool x.gn) := (hbw.cell (p := ⟨b1, o1 + i * 7 + 6, none⟩) HG1.out).trans AH6.out; go_simp; try with_reducible rfl)
          refine tkW 4 (some 21) (v := ?_) ?_ hHeld ?_
          rotate_left
          · (intro ww _; go_simp; try with_reducible rfl)
          refine tkW 5 (some 22) (v := ?_) ?_ hHeld ?_
          rotate_left
          · (intro ww _; go_simp; try with_reducible rfl)
          refine tkW 6 (some 23) (v := ?_) ?_ hHeld ?_
          rotate_left
          · (intro ww hSw; (try dsimp only at hSw); go_simp; try with_reducible rfl)
          refine tkW 7 (some 24) (v := ?_) ?_ hHeld ?_
          rotate_left
          · (intro ww hSw; (try dsimp only at hSw); have hbw := hSw; have c0 : ww.cell? ⟨b2, o2 + i * 7, none⟩ = some (.int .i64 y.nd.1) := (hbw.cell (p := ⟨b2, o2 + i * 7, none⟩) HG2.out).trans CH0.out; have c1 : ww.cell? ⟨b2, o2 + i * 7 + 1, none⟩ = some (.int .i64 y.nd.2) := (hbw.cell (p := ⟨b2, o2 + i * 7 + 1, none⟩) HG2.out).trans CH1.out; have c2 : ww.cell? ⟨b2, o2 + i * 7 + 2, none⟩ = some (.string y.nm) := (hbw.cell (p := ⟨b2, o2 + i * 7 + 2, none⟩) HG2.out).trans CH2.out; have c3 : ww.cell? ⟨b2, o2 + i * 7 + 3, none⟩ = some (.int .i64 y.at_.1) := (hbw.cell (p := ⟨b2, o2 + i * 7 + 3, none⟩) HG2.out).trans CH3.out; have c4 : ww.cell? ⟨b2, o2 + i * 7 + 4, none⟩ = some (.int .i64 y.at_.2) := (hbw.cell (p := ⟨b2, o2 + i * 7 + 4, none⟩) HG2.out).trans CH4.out; have c5 : ww.cell? ⟨b2, o2 + i * 7 + 5, none⟩ = some (.string y.vl) := (hbw.cell (p := ⟨b2, o2 + i * 7 + 5, none⟩) HG2.out).trans CH5.out; have c6 : ww.cell? ⟨b2, o2 + i * 7 + 6, none⟩ = some (.bool y.gn) := (hbw.cell (p := ⟨b2, o2 + i * 7 + 6, none⟩) HG2.out).trans CH6.out; go_simp; try with_reducible rfl)
          refine tkW 8 (some 25) (v := .bool false) ?_ hHeld ?_
          · (intro ww hSw; (try dsimp only at hSw); rw [execNeq (p := x) (q := y) rfl rfl ww, decide_eq_true HE.out]; rfl)
          refine wpAnyH_done (by kernel_rfl) ?_ _
          clear hHeld
          go_wp2
          go_roundw
          case rel => exact ⟨i + 1, by go_num, by omega, HTk, HBw⟩
          case measure => simp [intOf]; omega
        · have HE : Hid (x ≠ y) := he
          have HNe : Hid (decide (A = B) = false) := decide_eq_false (HNe1.out he)
          clear he HTk1 HNe1
          refine wp_region_held_drew (S := fun W' => Below w.heap.size w W') (by kernel_rfl) HBw.out.drew (fun hHeld => ?_)
          obtain ⟨Ub11u0, eW⟩ : ∃ X, X = wr.drew := ⟨_, rfl⟩
          have hb : Below wr.heap.size wr Ub11u0 := by rw [eW]; exact (Below.refl _ _).drew
          replace HBw : Hid (Below w.heap.size w Ub11u0) := HBw.out.trans (hb.mono HBw.out.size)
          rw [← eW] at hHeld ⊢
          clear eW hb
          refine tkW 0 (some 17) (v := ?_) ?_ hHeld ?_
          rotate_left
          · (intro ww _; go_simp; try with_reducible rfl)
          refine tkW 1 (some 18) (v := ?_) ?_ hHeld ?_
          rotate_left
          · (intro ww _; go_simp; try with_reducible rfl)
          refine tkW 2 (some 19) (v := ?_) ?_ hHeld ?_
          rotate_left
          · (intro ww hSw; (try dsimp only at hSw); go_simp; try with_reducible rfl)
          refine tkW 3 (some 20) (v := ?_) ?_ hHeld ?_
          rotate_left
          · (intro ww hSw; (try dsimp only at hSw); have hbw := hSw; have a0 : ww.cell? ⟨b1, o1 + i * 7, none⟩ = some (.int .i64 x.nd.1) := (hbw.cell (p := ⟨b1, o1 + i * 7, none⟩) HG1.out).trans AH0.out; have a1 : ww.cell? ⟨b1, o1 + i * 7 + 1, none⟩ = some (.int .i64 x.nd.2) := (hbw.cell (p := ⟨b1, o1 + i * 7 + 1, none⟩) HG1.out).trans AH1.out; have a2 : ww.cell? ⟨b1, o1 + i * 7 + 2, none⟩ = some (.string x.nm) := (hbw.cell (p := ⟨b1, o1 + i * 7 + 2, none⟩) HG1.out).trans AH2.out; have a3 : ww.cell? ⟨b1, o1 + i * 7 + 3, none⟩ = some (.int .i64 x.at_.1) := (hbw.cell (p := ⟨b1, o1 + i * 7 + 3, none⟩) HG1.out).trans AH3.out; have a4 : ww.cell? ⟨b1, o1 + i * 7 + 4, none⟩ = some (.int .i64 x.at_.2) := (hbw.cell (p := ⟨b1, o1 + i * 7 + 4, none⟩) HG1.out).trans AH4.out; have a5 : ww.cell? ⟨b1, o1 + i * 7 + 5, none⟩ = some (.string x.vl) := (hbw.cell (p := ⟨b1, o1 + i * 7 + 5, none⟩) HG1.out).trans AH5.out; have a6 : ww.cell? ⟨b1, o1 + i * 7 + 6, none⟩ = some (.bool x.gn) := (hbw.cell (p := ⟨b1, o1 + i * 7 + 6, none⟩) HG1.out).trans AH6.out; go_simp; try with_reducible rfl)
          refine tkW 4 (some 21) (v := ?_) ?_ hHeld ?_
          rotate_left
          · (intro ww _; go_simp; try with_reducible rfl)
          refine tkW 5 (some 22) (v := ?_) ?_ hHeld ?_
          rotate_left
          · (intro ww _; go_simp; try with_reducible rfl)
          refine tkW 6 (some 23) (v := ?_) ?_ hHeld ?_
          rotate_left
          · (intro ww hSw; (try dsimp only at hSw); go_simp; try with_reducible rfl)
          refine tkW 7 (some 24) (v := ?_) ?_ hHeld ?_
          rotate_left
          · (intro ww hSw; (try dsimp only at hSw); have hbw := hSw; have c0 : ww.cell? ⟨b2, o2 + i * 7, none⟩ = some (.int .i64 y.nd.1) := (hbw.cell (p := ⟨b2, o2 + i * 7, none⟩) HG2.out).trans CH0.out; have c1 : ww.cell? ⟨b2, o2 + i * 7 + 1, none⟩ = some (.int .i64 y.nd.2) := (hbw.cell (p := ⟨b2, o2 + i * 7 + 1, none⟩) HG2.out).trans CH1.out; have c2 : ww.cell? ⟨b2, o2 + i * 7 + 2, none⟩ = some (.string y.nm) := (hbw.cell (p := ⟨b2, o2 + i * 7 + 2, none⟩) HG2.out).trans CH2.out; have c3 : ww.cell? ⟨b2, o2 + i * 7 + 3, none⟩ = some (.int .i64 y.at_.1) := (hbw.cell (p := ⟨b2, o2 + i * 7 + 3, none⟩) HG2.out).trans CH3.out; have c4 : ww.cell? ⟨b2, o2 + i * 7 + 4, none⟩ = some (.int .i64 y.at_.2) := (hbw.cell (p := ⟨b2, o2 + i * 7 + 4, none⟩) HG2.out).trans CH4.out; have c5 : ww.cell? ⟨b2, o2 + i * 7 + 5, none⟩ = some (.string y.vl) := (hbw.cell (p := ⟨b2, o2 + i * 7 + 5, none⟩) HG2.out).trans CH5.out; have c6 : ww.cell? ⟨b2, o2 + i * 7 + 6, none⟩ = some (.bool y.gn) := (hbw.cell (p := ⟨b2, o2 + i * 7 + 6, none⟩) HG2.out).trans CH6.out; go_simp; try with_reducible rfl)
          refine tkW 8 (some 25) (v := .bool true) ?_ hHeld ?_
          · (intro ww hSw; (try dsimp only at hSw); rw [execNeq (p := x) (q := y) rfl rfl ww, decide_eq_false HE.out]; rfl)
          refine wpAnyH_done (by kernel_rfl) ?_ _
          clear hHeld
          go_wp2
          go_ret
          exact ⟨ret_bool (by rw [HNe.out]), HBw.out⟩
      · have HI : Hid (decide (A = B) = true) := by
          have h1 := HT.out
          have h2 := HNa.out
          have h3 := HN2.out
          rw [List.take_of_length_le (by omega), List.take_of_length_le (by omega)] at h1
          exact decide_eq_true h1
        go_wp2
        go_ret
        exact ⟨ret_bool (by rw [HI.out]), HBw.out⟩
  · have HNe : Hid (decide (A = B) = false) := decide_eq_false fun e => hn (by rw [e])
    have q : ((A.length : Int) == (B.length : Int)) = false := by simp; omega
    clear hn
    go_enter Try.func17, Try.ntmps17
    go_wp2
    go_ret
    exact ⟨ret_bool (by rw [HNe.out]), Below.refl _ _⟩

end Go.Proofs.Ytoljacnipkibiaa
