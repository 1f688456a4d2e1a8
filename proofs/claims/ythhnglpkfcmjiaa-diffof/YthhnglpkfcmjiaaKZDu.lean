/- Equality of steps; the document's Same of two patches. -/
import Derived.Test.YthhnglpkfcmjiaaKPlainPz
import Derived.Test.YthhnglpkfcmjiaaKVtK
import Derived.Deep.AppendLies
import Derived.Deep.Cut
import Derived.Test.YthhnglpkfcmjiaaKVtT
namespace Go.Proofs.Ythhnglpkfcmjiaa
open Go.RowKit
set_option linter.unusedVariables false
set_option linter.unusedSimpArgs false
noncomputable instance decPa : DecidableEq Pa := fun a b => Classical.propDecidable _
theorem txtP (a b : ByteArray) : (a.toList == b.toList) = decide (a = b) := by
  rw [Go.Lib.toList_data, Go.Lib.toList_data]
  by_cases e : a = b
  · subst e; simp
  · rw [decide_eq_false e]
    exact beq_eq_false_iff_ne.2 fun h => e (tx_ext h)
set_option maxRecDepth 100000 in
theorem equalPa (a b : Pa) (w : World) : (Op.equalIn 10000 45 (paV a) (paV b)).run Try.prog w = .ok (decide (a = b)) w := by
  obtain ⟨akd, ⟨akc, akr⟩, ⟨apc, apr⟩, ⟨aac, aar⟩, anm, avl⟩ := a
  obtain ⟨bkd, ⟨bkc, bkr⟩, ⟨bpc, bpr⟩, ⟨bac, bar⟩, bnm, bvl⟩ := b
  have hS : Try.prog.underlying 45 = some (.struct (Try.prog.fieldsOf 45)) := by kernel_rfl
  have hp : Try.prog.stoodInHeld 45 = false := by kernel_rfl
  show (Op.equalIn 10000 45 (.agg #[.int .i64 akd, .int .i64 akc, .int .i64 akr, .int .i64 apc, .int .i64 apr, .int .i64 aac, .int .i64 aar, .string anm, .string avl]) (.agg #[.int .i64 bkd, .int .i64 bkc, .int .i64 bkr, .int .i64 bpc, .int .i64 bpr, .int .i64 bac, .int .i64 bar, .string bnm, .string bvl])).run Try.prog w = _
  rw [show (10000 : Nat) = 9999 + 1 from rfl, run_equalIn_agg w 9999 45 _ _ hS hp]
  simp only [Program.fieldsOf, Try.underlying45]
  have hn := txtP anm bnm
  have hv := txtP avl bvl
  clear hS hp
  go_simp
  by_cases h0 : akd = bkd
  · by_cases h1 : akc = bkc
    · by_cases h2 : akr = bkr
      · by_cases h3 : apc = bpc
        · by_cases h4 : apr = bpr
          · by_cases h5 : aac = bac
            · by_cases h6 : aar = bar
              · by_cases h7 : anm = bnm
                · by_cases h8 : avl = bvl <;> simp [h0, h1, h2, h3, h4, h5, h6, h7, h8, hn, hv]
                · simp [h0, h1, h2, h3, h4, h5, h6, h7, hn]
              · simp [h0, h1, h2, h3, h4, h5, h6]
            · simp [h0, h1, h2, h3, h4, h5]
          · simp [h0, h1, h2, h3, h4]
        · simp [h0, h1, h2, h3]
      · simp [h0, h1, h2]
    · simp [h0, h1]
  · simp [h0]
theorem execNeqP {ev : Operand → Value} {d : Option Nat} {x y : Operand} {t t2 : TypeId} {o3 : String} {o4 : Array Edge} {o5 : Option (Nat × Bool)} {p q : Pa} (hx : ev x = paV p) (hy : ev y = paV q) (w : World) : (execOp ev ⟨d, .binOp .neq 45 x y t2, t, o3, o4, o5⟩).run Try.prog w = .ok (.value (.bool (!decide (p = q)))) w := by
  have h1 : (eqGuard .neq 45 x y (paV p) (paV q)).run Try.prog w = .ok () w := run_eqGuard_agg w .neq 45 x y _ _ (by kernel_rfl)
  have h2 : (binOp .neq 45 (paV p) (paV q)).run Try.prog w = .ok (.bool (!decide (p = q))) w := by
    rw [show paV p = .agg #[.int .i64 p.kd, .int .i64 p.k.1, .int .i64 p.k.2, .int .i64 p.pa.1, .int .i64 p.pa.2, .int .i64 p.af.1, .int .i64 p.af.2, .string p.nm, .string p.vl] from rfl, show paV q = .agg #[.int .i64 q.kd, .int .i64 q.k.1, .int .i64 q.k.2, .int .i64 q.pa.1, .int .i64 q.pa.2, .int .i64 q.af.1, .int .i64 q.af.2, .string q.nm, .string q.vl] from rfl, run_neq_struct]
    have h3 := equalPa p q w
    rw [show paV p = .agg #[.int .i64 p.kd, .int .i64 p.k.1, .int .i64 p.k.2, .int .i64 p.pa.1, .int .i64 p.pa.2, .int .i64 p.af.1, .int .i64 p.af.2, .string p.nm, .string p.vl] from rfl, show paV q = .agg #[.int .i64 q.kd, .int .i64 q.k.1, .int .i64 q.k.2, .int .i64 q.pa.1, .int .i64 q.pa.2, .int .i64 q.af.1, .int .i64 q.af.2, .string q.nm, .string q.vl] from rfl] at h3
    rw [h3]
    rfl
  unfold execOp
  simp only [hx, hy, Sem.run_bind, h1, h2, Result.andThen_ok]
  rfl
theorem take_moreP {A B : List Pa} {i : Nat} (ha : i < A.length) (hb : i < B.length) (h : A.take i = B.take i) (e : A[i] = B[i]) : A.take (i + 1) = B.take (i + 1) := by
  rw [List.take_succ_eq_append_getElem ha, List.take_succ_eq_append_getElem hb, h, e]
theorem row9P {G : Nat → Prop} {w : World} {v : Value} {L : List Pa} (h : LsE paCells 9 G w v L) {i : Nat} (hi : i < L.length) : ∃ b o cap, v = .slice (some ⟨b, o, none⟩) L.length cap ∧ G b ∧ b < w.heap.size ∧ ∀ j u, (paCells L[i])[j]? = some u → w.cell? ⟨b, o + i * 9 + j, none⟩ = some u := by
  obtain ⟨a, cap, e, _, _, hr⟩ := h
  obtain ⟨b, o, e2, hg, hl, hcs⟩ := hr.resolve_left (fun e => by rw [e] at hi; simp at hi)
  subst e2
  exact ⟨b, o, cap, e, hg, hl, hcs i hi⟩
set_option maxRecDepth 100000 in
set_option maxHeartbeats 8000000 in
theorem refSameP_any (G1 G2 : Nat → Prop) (va vb : Value) (A B : List Pa) (w : World) (ha : LsE paCells 9 G1 w va A) (hb : LsE paCells 9 G2 w vb B) :
    Calls Try.prog 14 #[va, vb] w fun e w' => e = .returned (.bool (decide (A = B))) ∧ Below w.heap.size w w' := by
  obtain ⟨a1, c1, rfl⟩ := ha.form
  obtain ⟨a2, c2, rfl⟩ := hb.form
  have hla := ha.len
  have hlb := hb.len
  have HA : Hid (LsE paCells 9 G1 w (.slice a1 A.length c1) A) := ha
  have HB : Hid (LsE paCells 9 G2 w (.slice a2 B.length c2) B) := hb
  clear ha hb
  by_cases hn : A.length = B.length
  · have HN : Hid (A.length = B.length) := hn
    obtain ⟨n, en⟩ : ∃ n, n = B.length := ⟨_, rfl⟩
    have HN2 : Hid (n = B.length) := en
    rw [hn, ← en]
    rw [hn, ← en] at HA hla
    rw [← en] at HB hlb
    have HNa : Hid (n = A.length) := (by show _ = _; rw [hn, en])
    clear hn en
    go_enter Try.func14, Try.ntmps14
    go_wp2_with fail
    go_loopw [5] (fun iv wr => ∃ (i : Nat), iv = .int .i64 (i : Int) ∧ i ≤ n ∧ Hid (A.take i = B.take i) ∧ Hid (Below w.heap.size w wr)) (fun iv _ => n - (intOf iv).toNat)
    case atStart => exact ⟨0, rfl, Nat.zero_le _, rfl, Below.refl _ _⟩
    case round =>
      obtain ⟨i, rfl, hil, HT, HBw⟩ := hrel
      by_cases hlt : i < n
      · have hia : i < A.length := by rw [← HNa.out]; exact hlt
        have hib : i < B.length := by rw [← HN2.out]; exact hlt
        have HA2 := HA.out
        have HB2 := HB.out
        rw [HNa.out] at HA2
        obtain ⟨b1, o1, cap1, ev, _, hl1, hr1⟩ := row9P HA2 hia
        injection ev with ev1 _ ev3
        subst ev1
        subst ev3
        clear HA2
        rw [HN2.out] at HB2
        obtain ⟨b2, o2, cap2, ev, _, hl2, hr2⟩ := row9P HB2 hib
        injection ev with ev1 _ ev3
        subst ev1
        subst ev3
        clear HB2
        have HTk0 := take_moreP hia hib HT.out
        have HNe0 : A[i] ≠ B[i] → A ≠ B := fun h e => h (by subst e; rfl)
        obtain ⟨x, ex⟩ : ∃ x, x = A[i] := ⟨_, rfl⟩
        obtain ⟨y, ey⟩ : ∃ y, y = B[i] := ⟨_, rfl⟩
        rw [← ex] at hr1 HTk0 HNe0
        rw [← ey] at hr2 HTk0 HNe0
        have HTk1 : Hid (x = y → A.take (i + 1) = B.take (i + 1)) := HTk0
        have HNe1 : Hid (x ≠ y → A ≠ B) := HNe0
        have HG1 : Hid (b1 < w.heap.size) := hl1
        have HG2 : Hid (b2 < w.heap.size) := hl2
        have AH0 : Hid (w.cell? ⟨b1, o1 + i * 9, none⟩ = some (.int .i64 x.kd)) := hr1 0 _ rfl
        have AH1 : Hid (w.cell? ⟨b1, o1 + i * 9 + 1, none⟩ = some (.int .i64 x.k.1)) := hr1 1 _ rfl
        have AH2 : Hid (w.cell? ⟨b1, o1 + i * 9 + 2, none⟩ = some (.int .i64 x.k.2)) := hr1 2 _ rfl
        have AH3 : Hid (w.cell? ⟨b1, o1 + i * 9 + 3, none⟩ = some (.int .i64 x.pa.1)) := hr1 3 _ rfl
        have AH4 : Hid (w.cell? ⟨b1, o1 + i * 9 + 4, none⟩ = some (.int .i64 x.pa.2)) := hr1 4 _ rfl
        have AH5 : Hid (w.cell? ⟨b1, o1 + i * 9 + 5, none⟩ = some (.int .i64 x.af.1)) := hr1 5 _ rfl
        have AH6 : Hid (w.cell? ⟨b1, o1 + i * 9 + 6, none⟩ = some (.int .i64 x.af.2)) := hr1 6 _ rfl
        have AH7 : Hid (w.cell? ⟨b1, o1 + i * 9 + 7, none⟩ = some (.string x.nm)) := hr1 7 _ rfl
        have AH8 : Hid (w.cell? ⟨b1, o1 + i * 9 + 8, none⟩ = some (.string x.vl)) := hr1 8 _ rfl
        have CH0 : Hid (w.cell? ⟨b2, o2 + i * 9, none⟩ = some (.int .i64 y.kd)) := hr2 0 _ rfl
        have CH1 : Hid (w.cell? ⟨b2, o2 + i * 9 + 1, none⟩ = some (.int .i64 y.k.1)) := hr2 1 _ rfl
        have CH2 : Hid (w.cell? ⟨b2, o2 + i * 9 + 2, none⟩ = some (.int .i64 y.k.2)) := hr2 2 _ rfl
        have CH3 : Hid (w.cell? ⟨b2, o2 + i * 9 + 3, none⟩ = some (.int .i64 y.pa.1)) := hr2 3 _ rfl
        have CH4 : Hid (w.cell? ⟨b2, o2 + i * 9 + 4, none⟩ = some (.int .i64 y.pa.2)) := hr2 4 _ rfl
        have CH5 : Hid (w.cell? ⟨b2, o2 + i * 9 + 5, none⟩ = some (.int .i64 y.af.1)) := hr2 5 _ rfl
        have CH6 : Hid (w.cell? ⟨b2, o2 + i * 9 + 6, none⟩ = some (.int .i64 y.af.2)) := hr2 6 _ rfl
        have CH7 : Hid (w.cell? ⟨b2, o2 + i * 9 + 7, none⟩ = some (.string y.nm)) := hr2 7 _ rfl
        have CH8 : Hid (w.cell? ⟨b2, o2 + i * 9 + 8, none⟩ = some (.string y.vl)) := hr2 8 _ rfl
        have k1 : (i : Int) < (n : Int) := by omega
        have k0 : (0 : Int) ≤ (i : Int) := by omega
        clear ex ey hr1 hr2 hl1 hl2 HTk0 HNe0 hia hib
        go_wp2_with fail
        by_cases he : x = y
        · have HE : Hid (x = y) := he
          have HTk : Hid (A.take (i + 1) = B.take (i + 1)) := HTk1.out he
          clear he HTk1 HNe1
          refine wp_region_held_drew (S := fun W' => Below w.heap.size w W') (by kernel_rfl) HBw.out.drew (fun hHeld => ?_)
          obtain ⟨Ua1u0, eW⟩ : ∃ X, X = wr.drew := ⟨_, rfl⟩
          have hb : Below wr.heap.size wr Ua1u0 := by rw [eW]; exact (Below.refl _ _).drew
          replace HBw : Hid (Below w.heap.size w Ua1u0) := HBw.out.trans (hb.mono HBw.out.size)
          rw [← eW] at hHeld ⊢
          clear eW hb
          refine tkW 0 (some 17) (v := ?_) ?_ hHeld ?_
          rotate_left
          · (intro ww _; go_simp; try with_reducible rfl)
          refine tkW 1 (some 18) (v := ?_) ?_ hHeld ?_
          rotate_left
          · (intro ww _; go_simp; try with_reducible rfl)
          refine tkW 2 (some 19) (v := ?_) ?_ hHeld ?_
          rotate_left
          · (intro ww hSw; (try dsimp only at hSw); go_simp; try with_reducible rfl)
          refine tkW 3 (some 20) (v := ?_) ?_ hHeld ?_
          rotate_left
          · (intro ww hSw; (try dsimp only at hSw); have hbw := hSw; have a0 : ww.cell? ⟨b1, o1 + i * 9, none⟩ = some (.int .i64 x.kd) := (hbw.cell (p := ⟨b1, o1 + i * 9, none⟩) HG1.out).trans AH0.out; have a1 : ww.cell? ⟨b1, o1 + i * 9 + 1, none⟩ = some (.int .i64 x.k.1) := (hbw.cell (p := ⟨b1, o1 + i * 9 + 1, none⟩) HG1.out).trans AH1.out; have a2 : ww.cell? ⟨b1, o1 + i * 9 + 2, none⟩ = some (.int .i64 x.k.2) := (hbw.cell (p := ⟨b1, o1 + i * 9 + 2, none⟩) HG1.out).trans AH2.out; have a3 : ww.cell? ⟨b1, o1 + i * 9 + 3, none⟩ = some (.int .i64 x.pa.1) := (hbw.cell (p := ⟨b1, o1 + i * 9 + 3, none⟩) HG1.out).trans AH3.out; have a4 : ww.cell? ⟨b1, o1 + i * 9 + 4, none⟩ = some (.int .i64 x.pa.2) := (hbw.cell (p := ⟨b1, o1 + i * 9 + 4, none⟩) HG1.out).trans AH4.out; have a5 : ww.cell? ⟨b1, o1 + i * 9 + 5, none⟩ = some (.int .i64 x.af.1) := (hbw.cell (p := ⟨b1, o1 + i * 9 + 5, none⟩) HG1.out).trans AH5.out; have a6 : ww.cell? ⟨b1, o1 + i * 9 + 6, none⟩ = some (.int .i64 x.af.2) := (hbw.cell (p := ⟨b1, o1 + i * 9 + 6, none⟩) HG1.out).trans AH6.out; have a7 : ww.cell? ⟨b1, o1 + i * 9 + 7, none⟩ = some (.string x.nm) := (hbw.cell (p := ⟨b1, o1 + i * 9 + 7, none⟩) HG1.out).trans AH7.out; have a8 : ww.cell? ⟨b1, o1 + i * 9 + 8, none⟩ = some (.string x.vl) := (hbw.cell (p := ⟨b1, o1 + i * 9 + 8, none⟩) HG1.out).trans AH8.out; go_simp; try with_reducible rfl)
          refine tkW 4 (some 21) (v := ?_) ?_ hHeld ?_
          rotate_left
          · (intro ww _; go_simp; try with_reducible rfl)
          refine tkW 5 (some 22) (v := ?_) ?_ hHeld ?_
          rotate_left
          · (intro ww _; go_simp; try with_reducible rfl)
          refine tkW 6 (some 23) (v := ?_) ?_ hHeld ?_
          rotate_left
          · (intro ww hSw; (try dsimp only at hSw); go_simp; try with_reducible rfl)
          refine tkW 7 (some 24) (v := ?_) ?_ hHeld ?_
          rotate_left
          · (intro ww hSw; (try dsimp only at hSw); have hbw := hSw; have c0 : ww.cell? ⟨b2, o2 + i * 9, none⟩ = some (.int .i64 y.kd) := (hbw.cell (p := ⟨b2, o2 + i * 9, none⟩) HG2.out).trans CH0.out; have c1 : ww.cell? ⟨b2, o2 + i * 9 + 1, none⟩ = some (.int .i64 y.k.1) := (hbw.cell (p := ⟨b2, o2 + i * 9 + 1, none⟩) HG2.out).trans CH1.out; have c2 : ww.cell? ⟨b2, o2 + i * 9 + 2, none⟩ = some (.int .i64 y.k.2) := (hbw.cell (p := ⟨b2, o2 + i * 9 + 2, none⟩) HG2.out).trans CH2.out; have c3 : ww.cell? ⟨b2, o2 + i * 9 + 3, none⟩ = some (.int .i64 y.pa.1) := (hbw.cell (p := ⟨b2, o2 + i * 9 + 3, none⟩) HG2.out).trans CH3.out; have c4 : ww.cell? ⟨b2, o2 + i * 9 + 4, none⟩ = some (.int .i64 y.pa.2) := (hbw.cell (p := ⟨b2, o2 + i * 9 + 4, none⟩) HG2.out).trans CH4.out; have c5 : ww.cell? ⟨b2, o2 + i * 9 + 5, none⟩ = some (.int .i64 y.af.1) := (hbw.cell (p := ⟨b2, o2 + i * 9 + 5, none⟩) HG2.out).trans CH5.out; have c6 : ww.cell? ⟨b2, o2 + i * 9 + 6, none⟩ = some (.int .i64 y.af.2) := (hbw.cell (p := ⟨b2, o2 + i * 9 + 6, none⟩) HG2.out).trans CH6.out; have c7 : ww.cell? ⟨b2, o2 + i * 9 + 7, none⟩ = some (.string y.nm) := (hbw.cell (p := ⟨b2, o2 + i * 9 + 7, none⟩) HG2.out).trans CH7.out; have c8 : ww.cell? ⟨b2, o2 + i * 9 + 8, none⟩ = some (.string y.vl) := (hbw.cell (p := ⟨b2, o2 + i * 9 + 8, none⟩) HG2.out).trans CH8.out; go_simp; try with_reducible rfl)
          refine tkW 8 (some 25) (v := .bool false) ?_ hHeld ?_
          · (intro ww hSw; (try dsimp only at hSw); rw [execNeqP (p := x) (q := y) rfl rfl ww, decide_eq_true HE.out]; rfl)
          refine wpAnyH_done (by kernel_rfl) ?_ _
          clear hHeld
          go_wp2
          go_roundw
          case rel => exact ⟨i + 1, by go_num, by omega, HTk, HBw⟩
          case measure => simp [intOf]; omega
        · have HE : Hid (x ≠ y) := he
          have HNe : Hid (decide (A = B) = false) := decide_eq_false (HNe1.out he)
          clear he HTk1 HNe1
          refine wp_region_held_drew (S := fun W' => Below w.heap.size w W') (by kernel_rfl) HBw.out.drew (fun hHeld => ?_)
          obtain ⟨Ub2u0, eW⟩ : ∃ X, X = wr.drew := ⟨_, rfl⟩
          have hb : Below wr.heap.size wr Ub2u0 := by rw [eW]; exact (Below.refl _ _).drew
          replace HBw : Hid (Below w.heap.size w Ub2u0) := HBw.out.trans (hb.mono HBw.out.size)
          rw [← eW] at hHeld ⊢
          clear eW hb
          refine tkW 0 (some 17) (v := ?_) ?_ hHeld ?_
          rotate_left
          · (intro ww _; go_simp; try with_reducible rfl)
          refine tkW 1 (some 18) (v := ?_) ?_ hHeld ?_
          rotate_left
          · (intro ww _; go_simp; try with_reducible rfl)
          refine tkW 2 (some 19) (v := ?_) ?_ hHeld ?_
          rotate_left
          · (intro ww hSw; (try dsimp only at hSw); go_simp; try with_reducible rfl)
          refine tkW 3 (some 20) (v := ?_) ?_ hHeld ?_
          rotate_left
          · (intro ww hSw; (try dsimp only at hSw); have hbw := hSw; have a0 : ww.cell? ⟨b1, o1 + i * 9, none⟩ = some (.int .i64 x.kd) := (hbw.cell (p := ⟨b1, o1 + i * 9, none⟩) HG1.out).trans AH0.out; have a1 : ww.cell? ⟨b1, o1 + i * 9 + 1, none⟩ = some (.int .i64 x.k.1) := (hbw.cell (p := ⟨b1, o1 + i * 9 + 1, none⟩) HG1.out).trans AH1.out; have a2 : ww.cell? ⟨b1, o1 + i * 9 + 2, none⟩ = some (.int .i64 x.k.2) := (hbw.cell (p := ⟨b1, o1 + i * 9 + 2, none⟩) HG1.out).trans AH2.out; have a3 : ww.cell? ⟨b1, o1 + i * 9 + 3, none⟩ = some (.int .i64 x.pa.1) := (hbw.cell (p := ⟨b1, o1 + i * 9 + 3, none⟩) HG1.out).trans AH3.out; have a4 : ww.cell? ⟨b1, o1 + i * 9 + 4, none⟩ = some (.int .i64 x.pa.2) := (hbw.cell (p := ⟨b1, o1 + i * 9 + 4, none⟩) HG1.out).trans AH4.out; have a5 : ww.cell? ⟨b1, o1 + i * 9 + 5, none⟩ = some (.int .i64 x.af.1) := (hbw.cell (p := ⟨b1, o1 + i * 9 + 5, none⟩) HG1.out).trans AH5.out; have a6 : ww.cell? ⟨b1, o1 + i * 9 + 6, none⟩ = some (.int .i64 x.af.2) := (hbw.cell (p := ⟨b1, o1 + i * 9 + 6, none⟩) HG1.out).trans AH6.out; have a7 : ww.cell? ⟨b1, o1 + i * 9 + 7, none⟩ = some (.string x.nm) := (hbw.cell (p := ⟨b1, o1 + i * 9 + 7, none⟩) HG1.out).trans AH7.out; have a8 : ww.cell? ⟨b1, o1 + i * 9 + 8, none⟩ = some (.string x.vl) := (hbw.cell (p := ⟨b1, o1 + i * 9 + 8, none⟩) HG1.out).trans AH8.out; go_simp; try with_reducible rfl)
          refine tkW 4 (some 21) (v := ?_) ?_ hHeld ?_
          rotate_left
          · (intro ww _; go_simp; try with_reducible rfl)
          refine tkW 5 (some 22) (v := ?_) ?_ hHeld ?_
          rotate_left
          · (intro ww _; go_simp; try with_reducible rfl)
          refine tkW 6 (some 23) (v := ?_) ?_ hHeld ?_
          rotate_left
          · (intro ww hSw; (try dsimp only at hSw); go_simp; try with_reducible rfl)
          refine tkW 7 (some 24) (v := ?_) ?_ hHeld ?_
          rotate_left
          · (intro ww hSw; (try dsimp only at hSw); have hbw := hSw; have c0 : ww.cell? ⟨b2, o2 + i * 9, none⟩ = some (.int .i64 y.kd) := (hbw.cell (p := ⟨b2, o2 + i * 9, none⟩) HG2.out).trans CH0.out; have c1 : ww.cell? ⟨b2, o2 + i * 9 + 1, none⟩ = some (.int .i64 y.k.1) := (hbw.cell (p := ⟨b2, o2 + i * 9 + 1, none⟩) HG2.out).trans CH1.out; have c2 : ww.cell? ⟨b2, o2 + i * 9 + 2, none⟩ = some (.int .i64 y.k.2) := (hbw.cell (p := ⟨b2, o2 + i * 9 + 2, none⟩) HG2.out).trans CH2.out; have c3 : ww.cell? ⟨b2, o2 + i * 9 + 3, none⟩ = some (.int .i64 y.pa.1) := (hbw.cell (p := ⟨b2, o2 + i * 9 + 3, none⟩) HG2.out).trans CH3.out; have c4 : ww.cell? ⟨b2, o2 + i * 9 + 4, none⟩ = some (.int .i64 y.pa.2) := (hbw.cell (p := ⟨b2, o2 + i * 9 + 4, none⟩) HG2.out).trans CH4.out; have c5 : ww.cell? ⟨b2, o2 + i * 9 + 5, none⟩ = some (.int .i64 y.af.1) := (hbw.cell (p := ⟨b2, o2 + i * 9 + 5, none⟩) HG2.out).trans CH5.out; have c6 : ww.cell? ⟨b2, o2 + i * 9 + 6, none⟩ = some (.int .i64 y.af.2) := (hbw.cell (p := ⟨b2, o2 + i * 9 + 6, none⟩) HG2.out).trans CH6.out; have c7 : ww.cell? ⟨b2, o2 + i * 9 + 7, none⟩ = some (.string y.nm) := (hbw.cell (p := ⟨b2, o2 + i * 9 + 7, none⟩) HG2.out).trans CH7.out; have c8 : ww.cell? ⟨b2, o2 + i * 9 + 8, none⟩ = some (.string y.vl) := (hbw.cell (p := ⟨b2, o2 + i * 9 + 8, none⟩) HG2.out).trans CH8.out; go_simp; try with_reducible rfl)
          refine tkW 8 (some 25) (v := .bool true) ?_ hHeld ?_
          · (intro ww hSw; (try dsimp only at hSw); rw [execNeqP (p := x) (q := y) rfl rfl ww, decide_eq_false HE.out]; rfl)
          refine wpAnyH_done (by kernel_rfl) ?_ _
          clear hHeld
          go_wp2
          go_ret
          exact ⟨ret_bool (by rw [HNe.out]), HBw.out⟩
      · have HI : Hid (decide (A = B) = true) := by
          have h1 := HT.out
          have h2 := HNa.out
          have h3 := HN2.out
          rw [List.take_of_length_le (by omega), List.take_of_length_le (by omega)] at h1
          exact decide_eq_true h1
        go_wp2
        go_ret
        exact ⟨ret_bool (by rw [HI.out]), HBw.out⟩
  · have HNe : Hid (decide (A = B) = false) := decide_eq_false fun e => hn (by rw [e])
    have q : ((A.length : Int) == (B.length : Int)) = false := by simp; omega
    clear hn
    go_enter Try.func14, Try.ntmps14
    go_wp2
    go_ret
    exact ⟨ret_bool (by rw [HNe.out]), Below.refl _ _⟩
end Go.Proofs.Ythhnglpkfcmjiaa

namespace Go.Proofs.Ythhnglpkfcmjiaa
open Go.RowKit
set_option linter.unusedVariables false
set_option linter.unusedSimpArgs false
set_option maxRecDepth 100000 in
set_option maxHeartbeats 16000000 in
theorem refCopy_n (m : Nat) : ∀ (G : Nat → Prop) (t : VT) (v : Value) (w : World), t.sz ≤ m → VIs G w v t → Calls Try.prog 11 #[v] w fun e w' => ∃ v' F, e = .returned v' ∧ VIs F w' v' t ∧ (∀ k, F k → w.heap.size ≤ k ∧ k < w'.heap.size) ∧ Below w.heap.size w w' ∧ ∃ av kv, v' = .agg #[.int .i64 t.k.1, .int .i64 t.k.2, .string t.tg, .string t.tx, av, kv] ∧ SepF m w' F av kv t := by
  induction m with
  | zero => intro _ t _ _ h; have := t.sz_pos; omega
  | succ m ih =>
    intro G t v w hm hv
    obtain ⟨aa, ca, ak, ck, e1, fd⟩ := hv.form
    subst e1
    have Hfd := hide9 fd
    obtain ⟨i0, hin, hz0, hz1, hz2⟩ := info_parts infoVn
    obtain ⟨W0, eW⟩ : ∃ X, X = (w.alloc (.cells #[.int .i64 t.k.1, .int .i64 t.k.2, .string t.tg, .string t.tx, .slice aa t.at_.length ca, .slice ak t.ks.length ck] 27)).alloc (.cells #[.int .i64 0, .int .i64 0, .string ⟨#[]⟩, .string ⟨#[]⟩, .slice none 0 0, .slice none 0 0] 27) := ⟨_, rfl⟩
    have HC : Hid (Cp0 w t aa ca ak ck W0) := (by rw [eW]; have h2 := heap_alloc_new (w.alloc (.cells #[.int .i64 t.k.1, .int .i64 t.k.2, .string t.tg, .string t.tx, .slice aa t.at_.length ca, .slice ak t.ks.length ck] 27)) (.cells #[.int .i64 0, .int .i64 0, .string ⟨#[]⟩, .string ⟨#[]⟩, .slice none 0 0, .slice none 0 0] 27); rw [show (w.alloc (.cells #[.int .i64 t.k.1, .int .i64 t.k.2, .string t.tg, .string t.tx, .slice aa t.at_.length ca, .slice ak t.ks.length ck] 27)).heap.size = w.heap.size + 1 by simp] at h2; exact ⟨(Below.heap_alloc _ _ _ (by simp)).trans (heap_alloc_new w _), h2, ((Below.refl _ _).alloc (Nat.le_refl _) _).alloc (by simp) _⟩)
    have HE0 := hide9 eW
    have hlk := fd.ks.len
    clear hv fd eW
    go_enter Try.func11, Try.ntmps11
    go_wp2
    rw [← HE0.out]
    clear HE0
    rename_i KK hKK
    have REST : ∀ (ob eb : Nat) (a9 : Option Addr) (c9 : Nat) (W1 : World), Hid (CpS m w t aa ca ak ck (fun k => (Value.slice a9 t.at_.length c9).ownBlock = some k) ob (.slice a9 t.at_.length c9) (.slice none 0 0) [] 0 W1) → KK { tmps := #[.agg #[.int .i64 t.k.1, .int .i64 t.k.2, .string t.tg, .string t.tx, .slice aa t.at_.length ca, .slice ak t.ks.length ck], .pointer (some ⟨w.heap.size, 0, none⟩), .pointer (some ⟨w.heap.size + 1, 0, none⟩), .pointer (some ⟨ob, 0, none⟩), undef, .pointer (some ⟨w.heap.size, 0, none⟩), .agg #[.int .i64 t.k.1, .int .i64 t.k.2], .pointer (some ⟨w.heap.size, 2, none⟩), .string t.tg, .pointer (some ⟨w.heap.size, 3, none⟩), .string t.tx, .slice (some ⟨eb, 0, none⟩) 0 0, .pointer (some ⟨w.heap.size, 4, none⟩), .slice aa t.at_.length ca, .slice a9 t.at_.length c9, .agg #[.int .i64 t.k.1, .int .i64 t.k.2, .string t.tg, .string t.tx, (.slice a9 t.at_.length c9), .slice none 0 0], undef, undef, undef, undef, undef, undef, undef, undef, undef, undef, undef, undef, undef, undef, undef, undef, undef, undef, undef], defers := [] } W1 := by
      clear HC
      intro ob eb a9 c9 W1 HP
      refine hKK _ _ ?_
      clear hKK
      have z5 := (row6 HP.out.c0.tb).2.2.2.2.2
      go_wp2
      go_loopw [4] (fun iv wr => ∃ (i : Nat) (kv : Value) (E : List (VT × Value × Value)) (H : Nat → Prop), iv = .int .i64 (i : Int) ∧ i ≤ t.ks.length ∧ Hid (CpS m w t aa ca ak ck H ob (.slice a9 t.at_.length c9) kv E i wr)) (fun iv _ => t.ks.length - (intOf iv).toNat)
      case atStart => exact ⟨0, _, _, _, rfl, Nat.zero_le _, HP⟩
      case round =>
        clear HP z5
        obtain ⟨i, kv, E, H, rfl, hi, HP⟩ := hrel
        have z5 := (row6 HP.out.c0.tb).2.2.2.2.2
        by_cases hlt : i < t.ks.length
        · obtain ⟨b1, o1, rfl, _, hl1, hv1⟩ := Hfd.out.ks.kid hlt
          have hszx : t.ks[i].sz ≤ m := (by have := VT.kid (t := t) hlt; omega)
          obtain ⟨x, ex⟩ : ∃ x, x = t.ks[i] := ⟨_, rfl⟩
          rw [← ex] at hv1 hszx
          have Hx : Hid (x = t.ks[i]) := ex
          obtain ⟨xa, cx, xk, dx, p0, p1, p2, p3, p4, p5, fx⟩ := hv1.cells
          have HKc := hide9 (And.intro hl1 (And.intro p0 (And.intro p1 (And.intro p2 (And.intro p3 (And.intro p4 p5))))))
          have HFx : Hid (FdIs (fun k => k < w.heap.size) wr (.slice xa x.at_.length cx) (.slice xk x.ks.length dx) x.at_ x.ks) := fx.turn HP.out.c0.bel.size (fun k _ q => ⟨q, HP.out.c0.bel.block k q⟩)
          have Hsz : Hid (x.sz ≤ m) := hszx
          have k1 : (i : Int) < (t.ks.length : Int) := by omega
          have k0 : (0 : Int) ≤ (i : Int) := by omega
          have HQ1 : Hid (w.heap.size < wr.heap.size ∧ wr.cell? ⟨w.heap.size, 5, none⟩ = some (.slice (some ⟨b1, o1, none⟩) t.ks.length ck)) := ⟨row_lt HP.out.c0.tb, z5⟩
          obtain ⟨ka, kc, ekv⟩ := OwnE.form HP.out.row
          subst ekv
          have HQ2 : Hid (ob < wr.heap.size ∧ wr.cell? ⟨ob, 5, none⟩ = some (.slice ka E.length kc)) := ⟨row_lt HP.out.obx, (row6 HP.out.obx).2.2.2.2.2⟩
          have HEl : Hid (E.length = i) := (by have h9 := congrArg List.length HP.out.es; rw [List.length_map, List.length_take] at h9; show _ = _; omega)
          clear hl1 hv1 hszx ex fx p0 p1 p2 p3 p4 p5
          go_upto_region 5 with fail
          clear z5
          refine wp_region_held_drew (S := fun W' => Cp0 w t aa ca (some ⟨b1, o1, none⟩) ck W') (by kernel_rfl) (HP.out.c0.below (Below.refl _ _).drew) (fun hHeld => ?_)
          obtain ⟨Uq1u0, eW⟩ : ∃ X, X = wr.drew := ⟨_, rfl⟩
          have hb : Below wr.heap.size wr Uq1u0 := by rw [eW]; exact (Below.refl _ _).drew
          replace HP : Hid (CpS m w t aa ca (some ⟨b1, o1, none⟩) ck H ob (.slice a9 t.at_.length c9) (.slice ka E.length kc) E i Uq1u0) := HP.out.below hb
          replace HFx : Hid (FdIs (fun k => k < w.heap.size) Uq1u0 (.slice xa x.at_.length cx) (.slice xk x.ks.length dx) x.at_ x.ks) := HFx.out.below hb
          rw [← eW] at hHeld ⊢
          clear eW hb
          refine tkW 0 (some 23) (v := ?_) ?_ hHeld ?_
          rotate_left
          · (intro ww _; go_simp; try with_reducible rfl)
          refine tkW 2 (some 25) (v := ?_) ?_ hHeld ?_
          rotate_left
          · (intro ww _; go_simp; try with_reducible rfl)
          refine tkW 3 (some 26) (v := ?_) ?_ hHeld ?_
          rotate_left
          · (intro ww hSw; (try dsimp only at hSw); have q5 : ww.cell? ⟨w.heap.size, 5, none⟩ = some (.slice (some ⟨b1, o1, none⟩) t.ks.length ck) := (row6 hSw.tb).2.2.2.2.2; go_simp; try with_reducible rfl)
          refine tkW 4 (some 27) (v := ?_) ?_ hHeld ?_
          rotate_left
          · (intro ww _; go_simp; try with_reducible rfl)
          refine tkW 5 (some 28) (v := ?_) ?_ hHeld ?_
          rotate_left
          · (intro ww hSw; (try dsimp only at hSw); go_simp; try with_reducible rfl)
          refine tkW 6 (some 29) (v := ?_) ?_ hHeld ?_
          rotate_left
          · (intro ww hSw; (try dsimp only at hSw); obtain ⟨p0, p1, p2, p3, p4, p5⟩ := HKc.out.2; replace p0 := (hSw.bel.cell (p := ⟨b1, o1 + i * 6, none⟩) HKc.out.1).trans p0; replace p1 := (hSw.bel.cell (p := ⟨b1, o1 + i * 6 + 1, none⟩) HKc.out.1).trans p1; replace p2 := (hSw.bel.cell (p := ⟨b1, o1 + i * 6 + 2, none⟩) HKc.out.1).trans p2; replace p3 := (hSw.bel.cell (p := ⟨b1, o1 + i * 6 + 3, none⟩) HKc.out.1).trans p3; replace p4 := (hSw.bel.cell (p := ⟨b1, o1 + i * 6 + 4, none⟩) HKc.out.1).trans p4; replace p5 := (hSw.bel.cell (p := ⟨b1, o1 + i * 6 + 5, none⟩) HKc.out.1).trans p5; go_simp; try with_reducible rfl)
          refine wpAnyH_ready (rs := [1, 7]) (by kernel_rfl) (by simp) ?_
          refine AllReadyH.cons (o := ⟨some 24, _, _, _, _, _⟩) rfl (fun K hK => ?_) (AllReadyH.cons (o := ⟨some 30, _, _, _, _, _⟩) rfl (fun K hK => ?_) AllReadyH.nil)
          · have q5 := (row6 HP.out.obx).2.2.2.2.2
            go_simp
            refine hK.out _ _ (hHeld) (fun hHeld2 => ?_)
            clear hK K hHeld
            have hHeld := hHeld2
            clear hHeld2
            (try simp only [Act.put, List.setIfInBounds_toArray, List.set_cons_zero, List.set_cons_succ])
            clear q5
            refine wpAnyH_ready (rs := [7]) (by kernel_rfl) (by simp) ?_
            refine AllReadyH.cons (o := ⟨some 30, _, _, _, _, _⟩) rfl (fun K hK => ?_) AllReadyH.nil
            go_simp
            refine (ih (fun k => k < w.heap.size) x _ _ Hsz.out (VIs.of HFx.out)).mono ?_
            rintro e Uq1u2 ⟨v7, F7, rfl, hv7, hF7, hb, av7, kv7, e8, hs7⟩
            obtain ⟨ya, cy, yk, dy, e7, fy⟩ := hv7.form
            subst e7
            have e9 : (.slice ya x.at_.length cy = av7) ∧ (.slice yk x.ks.length dy = kv7) := (by simpa using e8)
            obtain ⟨e9, e10⟩ := e9
            subst e9 e10
            have HS7 : Hid (∃ Wk, CpS m w t aa ca (some ⟨b1, o1, none⟩) ck H ob (.slice a9 t.at_.length c9) (.slice ka E.length kc) E i Wk ∧ Below Wk.heap.size Wk Uq1u2 ∧ (∀ k, F7 k → Wk.heap.size ≤ k ∧ k < Uq1u2.heap.size) ∧ FdIs F7 Uq1u2 (.slice ya x.at_.length cy) (.slice yk x.ks.length dy) x.at_ x.ks ∧ SepF m Uq1u2 F7 (.slice ya x.at_.length cy) (.slice yk x.ks.length dy) x) := ⟨_, HP.out, hb, hF7, fy, hs7⟩
            have HP7 : Hid (CpS m w t aa ca (some ⟨b1, o1, none⟩) ck H ob (.slice a9 t.at_.length c9) (.slice ka E.length kc) E i Uq1u2) := HP.out.below hb
            clear hv7 hF7 fy HP HFx hs7 e8
            (try go_wp2_with fail)
            refine hK.out _ _ (HP7.out.c0) (fun hHeld2 => ?_)
            clear hK K hHeld
            have hHeld := hHeld2
            clear hHeld2
            (try simp only [Act.put, List.setIfInBounds_toArray, List.set_cons_zero, List.set_cons_succ])
            clear hb
            refine wpAnyH_ready (rs := [8]) (by kernel_rfl) (by simp) ?_
            refine AllReadyH.cons (o := ⟨some 31, _, _, _, _, _⟩) rfl (fun K hK => ?_) AllReadyH.nil
            have hbx : Below Uq1u2.heap.size Uq1u2 (Uq1u2.alloc (.cells #[.int .i64 x.k.1, .int .i64 x.k.2, .string x.tg, .string x.tx, .slice ya x.at_.length cy, .slice yk x.ks.length dy] 27)) := (Below.refl _ _).alloc (Nat.le_refl _) _
            go_simp
            refine hK.out _ _ (hHeld.below hbx) (fun hHeld2 => ?_)
            clear hK K hHeld
            have hHeld := hHeld2
            clear hHeld2
            (try simp only [Act.put, List.setIfInBounds_toArray, List.set_cons_zero, List.set_cons_succ])
            obtain ⟨Uq1u3, eW⟩ : ∃ X, X = Uq1u2.alloc (.cells #[.int .i64 x.k.1, .int .i64 x.k.2, .string x.tg, .string x.tx, .slice ya x.at_.length cy, .slice yk x.ks.length dy] 27) := ⟨_, rfl⟩
            have hb : Below Uq1u2.heap.size Uq1u2 Uq1u3 := by rw [eW]; exact (Below.refl _ _).alloc (Nat.le_refl _) _
            have HT : Hid (Uq1u3.heap[Uq1u2.heap.size]? = some (.cells #[.int .i64 x.k.1, .int .i64 x.k.2, .string x.tg, .string x.tx, .slice ya x.at_.length cy, .slice yk x.ks.length dy] 27)) := (by rw [eW]; exact heap_alloc_new _ _)
            replace HS7 : Hid (∃ Wk, CpS m w t aa ca (some ⟨b1, o1, none⟩) ck H ob (.slice a9 t.at_.length c9) (.slice ka E.length kc) E i Wk ∧ Below Wk.heap.size Wk Uq1u3 ∧ (∀ k, F7 k → Wk.heap.size ≤ k ∧ k < Uq1u3.heap.size) ∧ FdIs F7 Uq1u3 (.slice ya x.at_.length cy) (.slice yk x.ks.length dy) x.at_ x.ks ∧ SepF m Uq1u3 F7 (.slice ya x.at_.length cy) (.slice yk x.ks.length dy) x) := (by obtain ⟨Wk, h1, h2, h3, h4, h5⟩ := HS7.out; exact ⟨Wk, h1, h2.trans (hb.mono h2.size), fun k q => ⟨(h3 k q).1, Nat.lt_of_lt_of_le (h3 k q).2 hb.size⟩, h4.below hb, h5.turn m fun k q => hb.block k (h3 k q).2⟩)
            replace HP7 : Hid (CpS m w t aa ca (some ⟨b1, o1, none⟩) ck H ob (.slice a9 t.at_.length c9) (.slice ka E.length kc) E i Uq1u3) := HP7.out.below hb
            rw [← eW] at hHeld ⊢
            clear eW
            clear hbx
            obtain ⟨tb9, etb⟩ : ∃ b, b = Uq1u2.heap.size := ⟨_, rfl⟩
            rw [← etb] at HT ⊢
            clear etb
            clear hb
            refine wpAnyH_ready (rs := [9]) (by kernel_rfl) (by simp) ?_
            refine AllReadyH.cons (o := ⟨some 32, _, _, _, _, _⟩) rfl (fun K hK => ?_) AllReadyH.nil
            refine step_append_lies _ rfl _ _ 25 rfl (w.heap.size + 2) 27 i0 (.agg #[.int .i64 0, .int .i64 0, .string ⟨#[]⟩, .string ⟨#[]⟩, .slice none 0 0, .slice none 0 0]) 6 96 Try.underlying25 hin hz0 hz1 hz2 rfl (by decide) (.slice ka E.length kc) E.length (flatE vnC E) rfl HP7.out.row ⟨tb9, 0, none⟩ 1 1 (vnC (x, .slice ya x.at_.length cy, .slice yk x.ks.length dy)) rfl rfl (fun j u hj => by rw [Addr.add_lit, Nat.zero_add, cell_of_row _ tb9 _ _ _ _ HT.out]; simpa [vnC, ndC] using hj) (fun y hy => by simp [vnC, ndC] at hy; rcases hy with rfl | rfl | rfl | rfl | rfl | rfl <;> rfl) (by decide) (by have := HEl.out; have := Hfd.out.ks.len; unfold maxLen; omega) (by have := HEl.out; have := Hfd.out.ks.len; omega) (by have := row_lt HP7.out.c0.rb; omega) Uq1u3.heap.size rfl ?_
            intro g3 c3 Uq1u4 hown3 hgr3 hat3 hlt3
            have hown4 : OwnVn (w.heap.size + 2) Uq1u4 (.slice (some ⟨g3, 0, none⟩) (E.length + 1) c3) (E ++ [(x, .slice ya x.at_.length cy, .slice yk x.ks.length dy)]) := OwnE.snoc rfl hown3
            have HW3 : Hid (Uq1u3.heap.size ≤ Uq1u4.heap.size ∧ Uq1u4.heap[ob]? = some (.cells #[.int .i64 t.k.1, .int .i64 t.k.2, .string t.tg, .string t.tx, (.slice a9 t.at_.length c9), (.slice ka E.length kc)] 27)) := ⟨hgr3.size, (hgr3.block _ (row_lt HP7.out.obx) (fun e => HP7.out.ho.2 e.symm)).trans HP7.out.obx⟩
            have HPn : Hid (∃ H2, CpS m w t aa ca (some ⟨b1, o1, none⟩) ck H2 ob (.slice a9 t.at_.length c9) (.slice (some ⟨g3, 0, none⟩) (E.length + 1) c3) (E ++ [(x, .slice ya x.at_.length cy, .slice yk x.ks.length dy)]) (i + 1) (Uq1u4.setCell ⟨ob, 5, none⟩ (.slice (some ⟨g3, 0, none⟩) (E.length + 1) c3))) := (by obtain ⟨Wk, h1, h2, h3, h4, h5⟩ := HS7.out; exact ⟨_, h1.push hlt Hx.out h2 h3 h4 h5 hown4 hgr3 (hat3.elim (fun e => .inl e.symm) (fun e => .inr (by rw [e]; rfl)))⟩)
            have hC3 : Cp0 w t aa ca (some ⟨b1, o1, none⟩) ck Uq1u4 := HP7.out.c0.grown hgr3 (fun k e => (OwnE.lt HP7.out.row k e).1)
            clear hown3 hown4 hgr3 hat3 hlt3 HS7 HP7 HT
            refine hK.out _ _ (hC3) (fun hHeld2 => ?_)
            clear hK K hHeld
            have hHeld := hHeld2
            clear hHeld2
            (try simp only [Act.put, List.setIfInBounds_toArray, List.set_cons_zero, List.set_cons_succ])
            clear hC3
            refine tkW 10 (some 33) (v := ?_) ?_ hHeld ?_
            rotate_left
            · (intro ww _; go_simp; try with_reducible rfl)
            refine wpAnyH_ready (rs := [11]) (by kernel_rfl) (by simp) ?_
            refine AllReadyH.cons (o := ⟨none, _, _, _, _, _⟩) rfl (fun K hK => ?_) AllReadyH.nil
            have o5 := (row6 HW3.out.2).2.2.2.2.2
            have o6 := row6f HW3.out.2 5
            go_simp
            refine hK.out _ _ ((by obtain ⟨_, h9⟩ := HPn.out; exact h9.c0)) (fun hHeld2 => ?_)
            clear hK K hHeld
            have hHeld := hHeld2
            clear hHeld2
            (try simp only [Act.put, List.setIfInBounds_toArray, List.set_cons_zero, List.set_cons_succ])
            obtain ⟨Uq1u5, eWn⟩ : ∃ X, X = Uq1u4.setCell ⟨ob, 5, none⟩ (.slice (some ⟨g3, 0, none⟩) (E.length + 1) c3) := ⟨_, rfl⟩
            rw [← eWn] at HPn hHeld ⊢
            clear eWn o5 o6 HW3
            refine wpAnyH_done (by kernel_rfl) ?_ _
            clear hHeld
            obtain ⟨H2, hpn⟩ := HPn.out
            have HP9 := hide9 hpn
            clear hpn HPn
            have n1 : IntKind.i64.wrap ((i : Int) + 1) = (i : Int) + 1 := by rw [IntKind.wrap_i64]; omega
            go_wp2
            go_roundw
            case rel => exact ⟨i + 1, _, _, H2, by go_num, by omega, HP9⟩
            case measure => simp [intOf]; omega
          · go_simp
            refine (ih (fun k => k < w.heap.size) x _ _ Hsz.out (VIs.of HFx.out)).mono ?_
            rintro e Uq1u6 ⟨v7, F7, rfl, hv7, hF7, hb, av7, kv7, e8, hs7⟩
            obtain ⟨ya, cy, yk, dy, e7, fy⟩ := hv7.form
            subst e7
            have e9 : (.slice ya x.at_.length cy = av7) ∧ (.slice yk x.ks.length dy = kv7) := (by simpa using e8)
            obtain ⟨e9, e10⟩ := e9
            subst e9 e10
            have HS7 : Hid (∃ Wk, CpS m w t aa ca (some ⟨b1, o1, none⟩) ck H ob (.slice a9 t.at_.length c9) (.slice ka E.length kc) E i Wk ∧ Below Wk.heap.size Wk Uq1u6 ∧ (∀ k, F7 k → Wk.heap.size ≤ k ∧ k < Uq1u6.heap.size) ∧ FdIs F7 Uq1u6 (.slice ya x.at_.length cy) (.slice yk x.ks.length dy) x.at_ x.ks ∧ SepF m Uq1u6 F7 (.slice ya x.at_.length cy) (.slice yk x.ks.length dy) x) := ⟨_, HP.out, hb, hF7, fy, hs7⟩
            have HP7 : Hid (CpS m w t aa ca (some ⟨b1, o1, none⟩) ck H ob (.slice a9 t.at_.length c9) (.slice ka E.length kc) E i Uq1u6) := HP.out.below hb
            clear hv7 hF7 fy HP HFx hs7 e8
            (try go_wp2_with fail)
            refine hK.out _ _ (HP7.out.c0) (fun hHeld2 => ?_)
            clear hK K hHeld
            have hHeld := hHeld2
            clear hHeld2
            (try simp only [Act.put, List.setIfInBounds_toArray, List.set_cons_zero, List.set_cons_succ])
            clear hb
            refine wpAnyH_ready (rs := [1, 8]) (by kernel_rfl) (by simp) ?_
            refine AllReadyH.cons (o := ⟨some 24, _, _, _, _, _⟩) rfl (fun K hK => ?_) (AllReadyH.cons (o := ⟨some 31, _, _, _, _, _⟩) rfl (fun K hK => ?_) AllReadyH.nil)
            · have q5 := (row6 HP7.out.obx).2.2.2.2.2
              go_simp
              refine hK.out _ _ (hHeld) (fun hHeld2 => ?_)
              clear hK K hHeld
              have hHeld := hHeld2
              clear hHeld2
              (try simp only [Act.put, List.setIfInBounds_toArray, List.set_cons_zero, List.set_cons_succ])
              clear q5
              refine wpAnyH_ready (rs := [8]) (by kernel_rfl) (by simp) ?_
              refine AllReadyH.cons (o := ⟨some 31, _, _, _, _, _⟩) rfl (fun K hK => ?_) AllReadyH.nil
              have hbx : Below Uq1u6.heap.size Uq1u6 (Uq1u6.alloc (.cells #[.int .i64 x.k.1, .int .i64 x.k.2, .string x.tg, .string x.tx, .slice ya x.at_.length cy, .slice yk x.ks.length dy] 27)) := (Below.refl _ _).alloc (Nat.le_refl _) _
              go_simp
              refine hK.out _ _ (hHeld.below hbx) (fun hHeld2 => ?_)
              clear hK K hHeld
              have hHeld := hHeld2
              clear hHeld2
              (try simp only [Act.put, List.setIfInBounds_toArray, List.set_cons_zero, List.set_cons_succ])
              obtain ⟨Uq1u8, eW⟩ : ∃ X, X = Uq1u6.alloc (.cells #[.int .i64 x.k.1, .int .i64 x.k.2, .string x.tg, .string x.tx, .slice ya x.at_.length cy, .slice yk x.ks.length dy] 27) := ⟨_, rfl⟩
              have hb : Below Uq1u6.heap.size Uq1u6 Uq1u8 := by rw [eW]; exact (Below.refl _ _).alloc (Nat.le_refl _) _
              have HT : Hid (Uq1u8.heap[Uq1u6.heap.size]? = some (.cells #[.int .i64 x.k.1, .int .i64 x.k.2, .string x.tg, .string x.tx, .slice ya x.at_.length cy, .slice yk x.ks.length dy] 27)) := (by rw [eW]; exact heap_alloc_new _ _)
              replace HS7 : Hid (∃ Wk, CpS m w t aa ca (some ⟨b1, o1, none⟩) ck H ob (.slice a9 t.at_.length c9) (.slice ka E.length kc) E i Wk ∧ Below Wk.heap.size Wk Uq1u8 ∧ (∀ k, F7 k → Wk.heap.size ≤ k ∧ k < Uq1u8.heap.size) ∧ FdIs F7 Uq1u8 (.slice ya x.at_.length cy) (.slice yk x.ks.length dy) x.at_ x.ks ∧ SepF m Uq1u8 F7 (.slice ya x.at_.length cy) (.slice yk x.ks.length dy) x) := (by obtain ⟨Wk, h1, h2, h3, h4, h5⟩ := HS7.out; exact ⟨Wk, h1, h2.trans (hb.mono h2.size), fun k q => ⟨(h3 k q).1, Nat.lt_of_lt_of_le (h3 k q).2 hb.size⟩, h4.below hb, h5.turn m fun k q => hb.block k (h3 k q).2⟩)
              replace HP7 : Hid (CpS m w t aa ca (some ⟨b1, o1, none⟩) ck H ob (.slice a9 t.at_.length c9) (.slice ka E.length kc) E i Uq1u8) := HP7.out.below hb
              rw [← eW] at hHeld ⊢
              clear eW
              clear hbx
              obtain ⟨tb9, etb⟩ : ∃ b, b = Uq1u6.heap.size := ⟨_, rfl⟩
              rw [← etb] at HT ⊢
              clear etb
              clear hb
              refine wpAnyH_ready (rs := [9]) (by kernel_rfl) (by simp) ?_
              refine AllReadyH.cons (o := ⟨some 32, _, _, _, _, _⟩) rfl (fun K hK => ?_) AllReadyH.nil
              refine step_append_lies _ rfl _ _ 25 rfl (w.heap.size + 2) 27 i0 (.agg #[.int .i64 0, .int .i64 0, .string ⟨#[]⟩, .string ⟨#[]⟩, .slice none 0 0, .slice none 0 0]) 6 96 Try.underlying25 hin hz0 hz1 hz2 rfl (by decide) (.slice ka E.length kc) E.length (flatE vnC E) rfl HP7.out.row ⟨tb9, 0, none⟩ 1 1 (vnC (x, .slice ya x.at_.length cy, .slice yk x.ks.length dy)) rfl rfl (fun j u hj => by rw [Addr.add_lit, Nat.zero_add, cell_of_row _ tb9 _ _ _ _ HT.out]; simpa [vnC, ndC] using hj) (fun y hy => by simp [vnC, ndC] at hy; rcases hy with rfl | rfl | rfl | rfl | rfl | rfl <;> rfl) (by decide) (by have := HEl.out; have := Hfd.out.ks.len; unfold maxLen; omega) (by have := HEl.out; have := Hfd.out.ks.len; omega) (by have := row_lt HP7.out.c0.rb; omega) Uq1u8.heap.size rfl ?_
              intro g3 c3 Uq1u9 hown3 hgr3 hat3 hlt3
              have hown4 : OwnVn (w.heap.size + 2) Uq1u9 (.slice (some ⟨g3, 0, none⟩) (E.length + 1) c3) (E ++ [(x, .slice ya x.at_.length cy, .slice yk x.ks.length dy)]) := OwnE.snoc rfl hown3
              have HW3 : Hid (Uq1u8.heap.size ≤ Uq1u9.heap.size ∧ Uq1u9.heap[ob]? = some (.cells #[.int .i64 t.k.1, .int .i64 t.k.2, .string t.tg, .string t.tx, (.slice a9 t.at_.length c9), (.slice ka E.length kc)] 27)) := ⟨hgr3.size, (hgr3.block _ (row_lt HP7.out.obx) (fun e => HP7.out.ho.2 e.symm)).trans HP7.out.obx⟩
              have HPn : Hid (∃ H2, CpS m w t aa ca (some ⟨b1, o1, none⟩) ck H2 ob (.slice a9 t.at_.length c9) (.slice (some ⟨g3, 0, none⟩) (E.length + 1) c3) (E ++ [(x, .slice ya x.at_.length cy, .slice yk x.ks.length dy)]) (i + 1) (Uq1u9.setCell ⟨ob, 5, none⟩ (.slice (some ⟨g3, 0, none⟩) (E.length + 1) c3))) := (by obtain ⟨Wk, h1, h2, h3, h4, h5⟩ := HS7.out; exact ⟨_, h1.push hlt Hx.out h2 h3 h4 h5 hown4 hgr3 (hat3.elim (fun e => .inl e.symm) (fun e => .inr (by rw [e]; rfl)))⟩)
              have hC3 : Cp0 w t aa ca (some ⟨b1, o1, none⟩) ck Uq1u9 := HP7.out.c0.grown hgr3 (fun k e => (OwnE.lt HP7.out.row k e).1)
              clear hown3 hown4 hgr3 hat3 hlt3 HS7 HP7 HT
              refine hK.out _ _ (hC3) (fun hHeld2 => ?_)
              clear hK K hHeld
              have hHeld := hHeld2
              clear hHeld2
              (try simp only [Act.put, List.setIfInBounds_toArray, List.set_cons_zero, List.set_cons_succ])
              clear hC3
              refine tkW 10 (some 33) (v := ?_) ?_ hHeld ?_
              rotate_left
              · (intro ww _; go_simp; try with_reducible rfl)
              refine wpAnyH_ready (rs := [11]) (by kernel_rfl) (by simp) ?_
              refine AllReadyH.cons (o := ⟨none, _, _, _, _, _⟩) rfl (fun K hK => ?_) AllReadyH.nil
              have o5 := (row6 HW3.out.2).2.2.2.2.2
              have o6 := row6f HW3.out.2 5
              go_simp
              refine hK.out _ _ ((by obtain ⟨_, h9⟩ := HPn.out; exact h9.c0)) (fun hHeld2 => ?_)
              clear hK K hHeld
              have hHeld := hHeld2
              clear hHeld2
              (try simp only [Act.put, List.setIfInBounds_toArray, List.set_cons_zero, List.set_cons_succ])
              obtain ⟨Uq1u10, eWn⟩ : ∃ X, X = Uq1u9.setCell ⟨ob, 5, none⟩ (.slice (some ⟨g3, 0, none⟩) (E.length + 1) c3) := ⟨_, rfl⟩
              rw [← eWn] at HPn hHeld ⊢
              clear eWn o5 o6 HW3
              refine wpAnyH_done (by kernel_rfl) ?_ _
              clear hHeld
              obtain ⟨H2, hpn⟩ := HPn.out
              have HP9 := hide9 hpn
              clear hpn HPn
              have n1 : IntKind.i64.wrap ((i : Int) + 1) = (i : Int) + 1 := by rw [IntKind.wrap_i64]; omega
              go_wp2
              go_roundw
              case rel => exact ⟨i + 1, _, _, H2, by go_num, by omega, HP9⟩
              case measure => simp [intOf]; omega
            · have hbx : Below Uq1u6.heap.size Uq1u6 (Uq1u6.alloc (.cells #[.int .i64 x.k.1, .int .i64 x.k.2, .string x.tg, .string x.tx, .slice ya x.at_.length cy, .slice yk x.ks.length dy] 27)) := (Below.refl _ _).alloc (Nat.le_refl _) _
              go_simp
              refine hK.out _ _ (hHeld.below hbx) (fun hHeld2 => ?_)
              clear hK K hHeld
              have hHeld := hHeld2
              clear hHeld2
              (try simp only [Act.put, List.setIfInBounds_toArray, List.set_cons_zero, List.set_cons_succ])
              obtain ⟨Uq1u11, eW⟩ : ∃ X, X = Uq1u6.alloc (.cells #[.int .i64 x.k.1, .int .i64 x.k.2, .string x.tg, .string x.tx, .slice ya x.at_.length cy, .slice yk x.ks.length dy] 27) := ⟨_, rfl⟩
              have hb : Below Uq1u6.heap.size Uq1u6 Uq1u11 := by rw [eW]; exact (Below.refl _ _).alloc (Nat.le_refl _) _
              have HT : Hid (Uq1u11.heap[Uq1u6.heap.size]? = some (.cells #[.int .i64 x.k.1, .int .i64 x.k.2, .string x.tg, .string x.tx, .slice ya x.at_.length cy, .slice yk x.ks.length dy] 27)) := (by rw [eW]; exact heap_alloc_new _ _)
              replace HS7 : Hid (∃ Wk, CpS m w t aa ca (some ⟨b1, o1, none⟩) ck H ob (.slice a9 t.at_.length c9) (.slice ka E.length kc) E i Wk ∧ Below Wk.heap.size Wk Uq1u11 ∧ (∀ k, F7 k → Wk.heap.size ≤ k ∧ k < Uq1u11.heap.size) ∧ FdIs F7 Uq1u11 (.slice ya x.at_.length cy) (.slice yk x.ks.length dy) x.at_ x.ks ∧ SepF m Uq1u11 F7 (.slice ya x.at_.length cy) (.slice yk x.ks.length dy) x) := (by obtain ⟨Wk, h1, h2, h3, h4, h5⟩ := HS7.out; exact ⟨Wk, h1, h2.trans (hb.mono h2.size), fun k q => ⟨(h3 k q).1, Nat.lt_of_lt_of_le (h3 k q).2 hb.size⟩, h4.below hb, h5.turn m fun k q => hb.block k (h3 k q).2⟩)
              replace HP7 : Hid (CpS m w t aa ca (some ⟨b1, o1, none⟩) ck H ob (.slice a9 t.at_.length c9) (.slice ka E.length kc) E i Uq1u11) := HP7.out.below hb
              rw [← eW] at hHeld ⊢
              clear eW
              clear hbx
              obtain ⟨tb9, etb⟩ : ∃ b, b = Uq1u6.heap.size := ⟨_, rfl⟩
              rw [← etb] at HT ⊢
              clear etb
              clear hb
              refine wpAnyH_ready (rs := [1]) (by kernel_rfl) (by simp) ?_
              refine AllReadyH.cons (o := ⟨some 24, _, _, _, _, _⟩) rfl (fun K hK => ?_) AllReadyH.nil
              have q5 := (row6 HP7.out.obx).2.2.2.2.2
              go_simp
              refine hK.out _ _ (hHeld) (fun hHeld2 => ?_)
              clear hK K hHeld
              have hHeld := hHeld2
              clear hHeld2
              (try simp only [Act.put, List.setIfInBounds_toArray, List.set_cons_zero, List.set_cons_succ])
              clear q5
              refine wpAnyH_ready (rs := [9]) (by kernel_rfl) (by simp) ?_
              refine AllReadyH.cons (o := ⟨some 32, _, _, _, _, _⟩) rfl (fun K hK => ?_) AllReadyH.nil
              refine step_append_lies _ rfl _ _ 25 rfl (w.heap.size + 2) 27 i0 (.agg #[.int .i64 0, .int .i64 0, .string ⟨#[]⟩, .string ⟨#[]⟩, .slice none 0 0, .slice none 0 0]) 6 96 Try.underlying25 hin hz0 hz1 hz2 rfl (by decide) (.slice ka E.length kc) E.length (flatE vnC E) rfl HP7.out.row ⟨tb9, 0, none⟩ 1 1 (vnC (x, .slice ya x.at_.length cy, .slice yk x.ks.length dy)) rfl rfl (fun j u hj => by rw [Addr.add_lit, Nat.zero_add, cell_of_row _ tb9 _ _ _ _ HT.out]; simpa [vnC, ndC] using hj) (fun y hy => by simp [vnC, ndC] at hy; rcases hy with rfl | rfl | rfl | rfl | rfl | rfl <;> rfl) (by decide) (by have := HEl.out; have := Hfd.out.ks.len; unfold maxLen; omega) (by have := HEl.out; have := Hfd.out.ks.len; omega) (by have := row_lt HP7.out.c0.rb; omega) Uq1u11.heap.size rfl ?_
              intro g3 c3 Uq1u13 hown3 hgr3 hat3 hlt3
              have hown4 : OwnVn (w.heap.size + 2) Uq1u13 (.slice (some ⟨g3, 0, none⟩) (E.length + 1) c3) (E ++ [(x, .slice ya x.at_.length cy, .slice yk x.ks.length dy)]) := OwnE.snoc rfl hown3
              have HW3 : Hid (Uq1u11.heap.size ≤ Uq1u13.heap.size ∧ Uq1u13.heap[ob]? = some (.cells #[.int .i64 t.k.1, .int .i64 t.k.2, .string t.tg, .string t.tx, (.slice a9 t.at_.length c9), (.slice ka E.length kc)] 27)) := ⟨hgr3.size, (hgr3.block _ (row_lt HP7.out.obx) (fun e => HP7.out.ho.2 e.symm)).trans HP7.out.obx⟩
              have HPn : Hid (∃ H2, CpS m w t aa ca (some ⟨b1, o1, none⟩) ck H2 ob (.slice a9 t.at_.length c9) (.slice (some ⟨g3, 0, none⟩) (E.length + 1) c3) (E ++ [(x, .slice ya x.at_.length cy, .slice yk x.ks.length dy)]) (i + 1) (Uq1u13.setCell ⟨ob, 5, none⟩ (.slice (some ⟨g3, 0, none⟩) (E.length + 1) c3))) := (by obtain ⟨Wk, h1, h2, h3, h4, h5⟩ := HS7.out; exact ⟨_, h1.push hlt Hx.out h2 h3 h4 h5 hown4 hgr3 (hat3.elim (fun e => .inl e.symm) (fun e => .inr (by rw [e]; rfl)))⟩)
              have hC3 : Cp0 w t aa ca (some ⟨b1, o1, none⟩) ck Uq1u13 := HP7.out.c0.grown hgr3 (fun k e => (OwnE.lt HP7.out.row k e).1)
              clear hown3 hown4 hgr3 hat3 hlt3 HS7 HP7 HT
              refine hK.out _ _ (hC3) (fun hHeld2 => ?_)
              clear hK K hHeld
              have hHeld := hHeld2
              clear hHeld2
              (try simp only [Act.put, List.setIfInBounds_toArray, List.set_cons_zero, List.set_cons_succ])
              clear hC3
              refine tkW 10 (some 33) (v := ?_) ?_ hHeld ?_
              rotate_left
              · (intro ww _; go_simp; try with_reducible rfl)
              refine wpAnyH_ready (rs := [11]) (by kernel_rfl) (by simp) ?_
              refine AllReadyH.cons (o := ⟨none, _, _, _, _, _⟩) rfl (fun K hK => ?_) AllReadyH.nil
              have o5 := (row6 HW3.out.2).2.2.2.2.2
              have o6 := row6f HW3.out.2 5
              go_simp
              refine hK.out _ _ ((by obtain ⟨_, h9⟩ := HPn.out; exact h9.c0)) (fun hHeld2 => ?_)
              clear hK K hHeld
              have hHeld := hHeld2
              clear hHeld2
              (try simp only [Act.put, List.setIfInBounds_toArray, List.set_cons_zero, List.set_cons_succ])
              obtain ⟨Uq1u14, eWn⟩ : ∃ X, X = Uq1u13.setCell ⟨ob, 5, none⟩ (.slice (some ⟨g3, 0, none⟩) (E.length + 1) c3) := ⟨_, rfl⟩
              rw [← eWn] at HPn hHeld ⊢
              clear eWn o5 o6 HW3
              refine wpAnyH_done (by kernel_rfl) ?_ _
              clear hHeld
              obtain ⟨H2, hpn⟩ := HPn.out
              have HP9 := hide9 hpn
              clear hpn HPn
              have n1 : IntKind.i64.wrap ((i : Int) + 1) = (i : Int) + 1 := by rw [IntKind.wrap_i64]; omega
              go_wp2
              go_roundw
              case rel => exact ⟨i + 1, _, _, H2, by go_num, by omega, HP9⟩
              case measure => simp [intOf]; omega
        · have ei : i = t.ks.length := by omega
          subst ei
          have hdn := HP.out.done Hfd.out.ks.len Hfd.out.al
          have hse := HP.out.sep Hfd.out.ks.len Hfd.out.al
          have HRr := hide9 HP.out.c0.rb
          obtain ⟨ka, kc, ekv⟩ := OwnE.form HP.out.row
          have HEl : Hid (E.length = t.ks.length) := (by have h9 := congrArg List.length HP.out.es; rw [List.length_map, List.length_take] at h9; show _ = _; omega)
          subst ekv
          have z6 := row6 HP.out.obx
          obtain ⟨n0, n1, n2, n3, n4, n5⟩ := z6
          have HE : Hid ((wr.setRow (w.heap.size + 1) #[.int .i64 t.k.1, .int .i64 t.k.2, .string t.tg, .string t.tx, (.slice a9 t.at_.length c9), (.slice ka E.length kc)]).heap[w.heap.size + 1]? = some (.cells #[.int .i64 t.k.1, .int .i64 t.k.2, .string t.tg, .string t.tx, (.slice a9 t.at_.length c9), (.slice ka E.length kc)] 27)) := setRow_same HRr.out
          have HB : Hid (Below w.heap.size w (wr.setRow (w.heap.size + 1) #[.int .i64 t.k.1, .int .i64 t.k.2, .string t.tg, .string t.tx, (.slice a9 t.at_.length c9), (.slice ka E.length kc)])) := HP.out.c0.bel.grown (grown_setRow _ _ _) HP.out.c0.bel.size (fun k e => by cases e; omega)
          have HFf : Hid (FdIs (fun k => H k ∨ (Value.slice ka E.length kc).ownBlock = some k) (wr.setRow (w.heap.size + 1) #[.int .i64 t.k.1, .int .i64 t.k.2, .string t.tg, .string t.tx, (.slice a9 t.at_.length c9), (.slice ka E.length kc)]) (.slice a9 t.at_.length c9) (.slice ka E.length kc) t.at_ t.ks ∧ SepF (m + 1) (wr.setRow (w.heap.size + 1) #[.int .i64 t.k.1, .int .i64 t.k.2, .string t.tg, .string t.tx, (.slice a9 t.at_.length c9), (.slice ka E.length kc)]) (fun k => H k ∨ (Value.slice ka E.length kc).ownBlock = some k) (.slice a9 t.at_.length c9) (.slice ka E.length kc) t ∧ ∀ k, (H k ∨ (Value.slice ka E.length kc).ownBlock = some k) → w.heap.size ≤ k ∧ k < wr.heap.size) := (by have hq : ∀ k, (H k ∨ (Value.slice ka E.length kc).ownBlock = some k) → w.heap.size + 2 ≤ k ∧ k < wr.heap.size := fun k q => q.elim (fun q => ⟨(HP.out.hH k q).1, (HP.out.hH k q).2.1⟩) (fun q => OwnE.lt HP.out.row k q); exact ⟨hdn.turn (by simp) (fun k q _ => ⟨q, setRow_other _ _ _ _ (by have := (hq k q).1; omega)⟩), hse.turn _ (fun k q => setRow_other _ _ _ _ (by have := (hq k q).1; omega)), fun k q => ⟨by have := (hq k q).1; omega, (hq k q).2⟩⟩)
          have k1 : ¬ (t.ks.length : Int) < (t.ks.length : Int) := by omega
          clear hdn hse HP
          go_wp2_with (refine wpList_store_row rfl 27 (.tmp 2) (.tmp 34) rfl (w.heap.size + 1) 27 #[.int .i64 0, .int .i64 0, .string ⟨#[]⟩, .string ⟨#[]⟩, .slice none 0 0, .slice none 0 0] #[.int .i64 t.k.1, .int .i64 t.k.2, .string t.tg, .string t.tx, (.slice a9 t.at_.length c9), (.slice ka E.length kc)] rfl rfl HRr.out sizeVN rfl (by simp [Value.oneCell']) ?_)
          refine bodyPost_ret (results_cell_row rfl _ _ (w.heap.size + 1) _ _ _ _ rfl HE.out Try.underlying27 rfl sizeVN) rfl ?_
          exact ⟨_, rfl, _, ⟨_, _, rfl, HFf.out.1⟩, fun k q => ⟨(HFf.out.2.2 k q).1, by simp; exact (HFf.out.2.2 k q).2⟩, HB.out, _, _, rfl, HFf.out.2.1⟩
    refine wp_region_held_drew (S := fun W' => Cp0 w t aa ca ak ck W') (by kernel_rfl) (HC.out.below (Below.refl _ _).drew) (fun hHeld => ?_)
    obtain ⟨Uc2u0, eW⟩ : ∃ X, X = W0.drew := ⟨_, rfl⟩
    have hb : Below W0.heap.size W0 Uc2u0 := by rw [eW]; exact (Below.refl _ _).drew
    replace HC : Hid (Cp0 w t aa ca ak ck Uc2u0) := HC.out.below hb
    rw [← eW] at hHeld ⊢
    clear eW hb
    refine tkW 0 (some 5) (v := ?_) ?_ hHeld ?_
    rotate_left
    · (intro ww _; go_simp; try with_reducible rfl)
    refine tkW 1 (some 6) (v := ?_) ?_ hHeld ?_
    rotate_left
    · (intro ww hSw; (try dsimp only at hSw); have t0 : ww.cell? ⟨w.heap.size, 0, none⟩ = some (.int .i64 t.k.1) := (by rw [cell_of_row _ _ _ _ _ _ hSw.tb]; rfl); have t1 : ww.cell? ⟨w.heap.size, 1, none⟩ = some (.int .i64 t.k.2) := (by rw [cell_of_row _ _ _ _ _ _ hSw.tb]; rfl); have t2 : ww.cell? ⟨w.heap.size, 2, none⟩ = some (.string t.tg) := (by rw [cell_of_row _ _ _ _ _ _ hSw.tb]; rfl); have t3 : ww.cell? ⟨w.heap.size, 3, none⟩ = some (.string t.tx) := (by rw [cell_of_row _ _ _ _ _ _ hSw.tb]; rfl); have t4 : ww.cell? ⟨w.heap.size, 4, none⟩ = some (.slice aa t.at_.length ca) := (by rw [cell_of_row _ _ _ _ _ _ hSw.tb]; rfl); have t5 : ww.cell? ⟨w.heap.size, 5, none⟩ = some (.slice ak t.ks.length ck) := (by rw [cell_of_row _ _ _ _ _ _ hSw.tb]; rfl); go_simp; try with_reducible rfl)
    refine tkW 2 (some 7) (v := ?_) ?_ hHeld ?_
    rotate_left
    · (intro ww _; go_simp; try with_reducible rfl)
    refine tkW 3 (some 8) (v := ?_) ?_ hHeld ?_
    rotate_left
    · (intro ww hSw; (try dsimp only at hSw); have t0 : ww.cell? ⟨w.heap.size, 0, none⟩ = some (.int .i64 t.k.1) := (by rw [cell_of_row _ _ _ _ _ _ hSw.tb]; rfl); have t1 : ww.cell? ⟨w.heap.size, 1, none⟩ = some (.int .i64 t.k.2) := (by rw [cell_of_row _ _ _ _ _ _ hSw.tb]; rfl); have t2 : ww.cell? ⟨w.heap.size, 2, none⟩ = some (.string t.tg) := (by rw [cell_of_row _ _ _ _ _ _ hSw.tb]; rfl); have t3 : ww.cell? ⟨w.heap.size, 3, none⟩ = some (.string t.tx) := (by rw [cell_of_row _ _ _ _ _ _ hSw.tb]; rfl); have t4 : ww.cell? ⟨w.heap.size, 4, none⟩ = some (.slice aa t.at_.length ca) := (by rw [cell_of_row _ _ _ _ _ _ hSw.tb]; rfl); have t5 : ww.cell? ⟨w.heap.size, 5, none⟩ = some (.slice ak t.ks.length ck) := (by rw [cell_of_row _ _ _ _ _ _ hSw.tb]; rfl); go_simp; try with_reducible rfl)
    refine tkW 4 (some 9) (v := ?_) ?_ hHeld ?_
    rotate_left
    · (intro ww _; go_simp; try with_reducible rfl)
    refine tkW 5 (some 10) (v := ?_) ?_ hHeld ?_
    rotate_left
    · (intro ww hSw; (try dsimp only at hSw); have t0 : ww.cell? ⟨w.heap.size, 0, none⟩ = some (.int .i64 t.k.1) := (by rw [cell_of_row _ _ _ _ _ _ hSw.tb]; rfl); have t1 : ww.cell? ⟨w.heap.size, 1, none⟩ = some (.int .i64 t.k.2) := (by rw [cell_of_row _ _ _ _ _ _ hSw.tb]; rfl); have t2 : ww.cell? ⟨w.heap.size, 2, none⟩ = some (.string t.tg) := (by rw [cell_of_row _ _ _ _ _ _ hSw.tb]; rfl); have t3 : ww.cell? ⟨w.heap.size, 3, none⟩ = some (.string t.tx) := (by rw [cell_of_row _ _ _ _ _ _ hSw.tb]; rfl); have t4 : ww.cell? ⟨w.heap.size, 4, none⟩ = some (.slice aa t.at_.length ca) := (by rw [cell_of_row _ _ _ _ _ _ hSw.tb]; rfl); have t5 : ww.cell? ⟨w.heap.size, 5, none⟩ = some (.slice ak t.ks.length ck) := (by rw [cell_of_row _ _ _ _ _ _ hSw.tb]; rfl); go_simp; try with_reducible rfl)
    refine tkW 7 (some 12) (v := ?_) ?_ hHeld ?_
    rotate_left
    · (intro ww _; go_simp; try with_reducible rfl)
    refine tkW 8 (some 13) (v := ?_) ?_ hHeld ?_
    rotate_left
    · (intro ww hSw; (try dsimp only at hSw); have t0 : ww.cell? ⟨w.heap.size, 0, none⟩ = some (.int .i64 t.k.1) := (by rw [cell_of_row _ _ _ _ _ _ hSw.tb]; rfl); have t1 : ww.cell? ⟨w.heap.size, 1, none⟩ = some (.int .i64 t.k.2) := (by rw [cell_of_row _ _ _ _ _ _ hSw.tb]; rfl); have t2 : ww.cell? ⟨w.heap.size, 2, none⟩ = some (.string t.tg) := (by rw [cell_of_row _ _ _ _ _ _ hSw.tb]; rfl); have t3 : ww.cell? ⟨w.heap.size, 3, none⟩ = some (.string t.tx) := (by rw [cell_of_row _ _ _ _ _ _ hSw.tb]; rfl); have t4 : ww.cell? ⟨w.heap.size, 4, none⟩ = some (.slice aa t.at_.length ca) := (by rw [cell_of_row _ _ _ _ _ _ hSw.tb]; rfl); have t5 : ww.cell? ⟨w.heap.size, 5, none⟩ = some (.slice ak t.ks.length ck) := (by rw [cell_of_row _ _ _ _ _ _ hSw.tb]; rfl); go_simp; try with_reducible rfl)
    refine wpAnyH_ready (rs := [6, 11]) (by kernel_rfl) (by simp) ?_
    refine AllReadyH.cons (o := ⟨some 11, _, _, _, _, _⟩) rfl (fun K hK => ?_) (AllReadyH.cons (o := ⟨some 3, _, _, _, _, _⟩) rfl (fun K hK => ?_) AllReadyH.nil)
    · have hbx : Below Uc2u0.heap.size Uc2u0 (Uc2u0.alloc (.cells #[] 77)) := (Below.refl _ _).alloc (Nat.le_refl _) _
      have HC0 := HC
      go_simp
      refine hK.out _ _ (hHeld.below hbx) (fun hHeld2 => ?_)
      clear hK K hHeld
      have hHeld := hHeld2
      clear hHeld2
      (try simp only [Act.put, List.setIfInBounds_toArray, List.set_cons_zero, List.set_cons_succ])
      obtain ⟨Uc2u1, eW⟩ : ∃ X, X = Uc2u0.alloc (.cells #[] 77) := ⟨_, rfl⟩
      have hb : Below Uc2u0.heap.size Uc2u0 Uc2u1 := by rw [eW]; exact (Below.refl _ _).alloc (Nat.le_refl _) _
      replace HC : Hid (Cp0 w t aa ca ak ck Uc2u1) := HC.out.below hb
      have HO : Hid (OwnAt (w.heap.size + 2) Uc2u1 (.slice (some ⟨Uc2u0.heap.size, 0, none⟩) 0 0) []) := (by rw [eW]; exact World.ownsRow_made Uc2u0 #[] 0 (by have := row_lt HC0.out.rb; omega) (by unfold maxLen; omega) (by simp))
      rw [← eW] at hHeld ⊢
      clear eW
      clear hbx
      obtain ⟨eb, eeb⟩ : ∃ b, b = Uc2u0.heap.size := ⟨_, rfl⟩
      have Heb : Hid (w.heap.size + 2 ≤ eb) := (by have h9 := row_lt HC0.out.rb; show _ ≤ _; omega)
      rw [← eeb] at HO ⊢
      clear eeb HC0
      clear hb
      refine wpAnyH_ready (rs := [9, 11]) (by kernel_rfl) (by simp) ?_
      refine AllReadyH.cons (o := ⟨some 14, _, _, _, _, _⟩) rfl (fun K hK => ?_) (AllReadyH.cons (o := ⟨some 3, _, _, _, _, _⟩) rfl (fun K hK => ?_) AllReadyH.nil)
      · refine step_appA rfl _ _ rfl (w.heap.size + 2) (.slice (some ⟨eb, 0, none⟩) 0 0) rfl HO.out (by have := row_lt HC.out.rb; omega) (fun k => k < w.heap.size) (.slice aa t.at_.length ca) t.at_ rfl (Hfd.out.at_.turn HC.out.bel.size fun k _ q => ⟨q, HC.out.bel.block k q⟩) Hfd.out.al ?_
        intro v9 Uc2u2 hown9 hgr9
        obtain ⟨a9, c9, e9⟩ := OwnE.form hown9
        subst e9
        have HC9 : Hid (Cp0 w t aa ca ak ck Uc2u2) := HC.out.grown hgr9 (fun k e => by cases e; exact Heb.out)
        have HV : Hid (OwnAt (w.heap.size + 2) Uc2u2 (.slice a9 t.at_.length c9) t.at_) := hown9
        clear HC HO
        have HC := HC9
        clear HC9 hown9 hgr9
        refine hK.out _ _ (HC.out) (fun hHeld2 => ?_)
        clear hK K hHeld
        have hHeld := hHeld2
        clear hHeld2
        (try simp only [Act.put, List.setIfInBounds_toArray, List.set_cons_zero, List.set_cons_succ])
        refine tkW 10 (some 15) (v := ?_) ?_ hHeld ?_
        rotate_left
        · (intro ww hSw; (try dsimp only at hSw); go_simp; try with_reducible rfl)
        refine wpAnyH_ready (rs := [11]) (by kernel_rfl) (by simp) ?_
        refine AllReadyH.cons (o := ⟨some 3, _, _, _, _, _⟩) rfl (fun K hK => ?_) AllReadyH.nil
        have HC1 := HC
        have HV1 := HV
        have hbx : Below Uc2u2.heap.size Uc2u2 (Uc2u2.alloc (.cells #[.int .i64 0, .int .i64 0, .string ⟨#[]⟩, .string ⟨#[]⟩, .slice none 0 0, .slice none 0 0] 27)) := (Below.refl _ _).alloc (Nat.le_refl _) _
        go_simp
        refine hK.out _ _ (hHeld.below hbx) (fun hHeld2 => ?_)
        clear hK K hHeld
        have hHeld := hHeld2
        clear hHeld2
        (try simp only [Act.put, List.setIfInBounds_toArray, List.set_cons_zero, List.set_cons_succ])
        obtain ⟨Uc2u3, eW⟩ : ∃ X, X = Uc2u2.alloc (.cells #[.int .i64 0, .int .i64 0, .string ⟨#[]⟩, .string ⟨#[]⟩, .slice none 0 0, .slice none 0 0] 27) := ⟨_, rfl⟩
        have hb : Below Uc2u2.heap.size Uc2u2 Uc2u3 := by rw [eW]; exact (Below.refl _ _).alloc (Nat.le_refl _) _
        replace HC : Hid (Cp0 w t aa ca ak ck Uc2u3) := HC.out.below hb
        replace HV : Hid (OwnAt (w.heap.size + 2) Uc2u3 (.slice a9 t.at_.length c9) t.at_) := HV.out.below hb
        have HZ : Hid (Uc2u3.heap[Uc2u2.heap.size]? = some (.cells #[.int .i64 0, .int .i64 0, .string ⟨#[]⟩, .string ⟨#[]⟩, .slice none 0 0, .slice none 0 0] 27)) := by rw [eW]; exact heap_alloc_new _ _
        rw [← eW] at hHeld ⊢
        clear eW
        clear hbx
        obtain ⟨ob, enb⟩ : ∃ b, b = Uc2u2.heap.size := ⟨_, rfl⟩
        have Hob : Hid (w.heap.size + 2 ≤ ob) := (by have h9 := row_lt HC1.out.rb; show _ ≤ _; omega)
        have Hvo : Hid ((Value.slice a9 t.at_.length c9).ownBlock ≠ some ob) := (fun e => by have h9 := (OwnE.lt HV1.out ob e).2; omega)
        rw [← enb] at HZ ⊢
        clear enb
        clear HC1
        clear HV1
        clear hb
        refine wpAnyH_ready (rs := [12]) (by kernel_rfl) (by simp) ?_
        refine AllReadyH.cons (o := ⟨none, _, _, _, _, _⟩) rfl (fun K hK => ?_) AllReadyH.nil
        refine step_store_row rfl 27 (.tmp 3) (.tmp 15) rfl ob 27 #[.int .i64 0, .int .i64 0, .string ⟨#[]⟩, .string ⟨#[]⟩, .slice none 0 0, .slice none 0 0] #[.int .i64 t.k.1, .int .i64 t.k.2, .string t.tg, .string t.tx, (.slice a9 t.at_.length c9), .slice none 0 0] rfl rfl HZ.out sizeVN rfl (by simp [Value.oneCell']) ?_
        refine hK.out _ _ (⟨(setRow_other _ _ _ _ (by have := Hob.out; omega)).trans hHeld.tb, (setRow_other _ _ _ _ (by have := Hob.out; omega)).trans hHeld.rb, hHeld.bel.grown (grown_setRow _ _ _) hHeld.bel.size (fun k e => by cases e; have := Hob.out; omega)⟩) (fun hHeld2 => ?_)
        clear hK K hHeld
        have hHeld := hHeld2
        clear hHeld2
        (try simp only [Act.put, List.setIfInBounds_toArray, List.set_cons_zero, List.set_cons_succ])
        obtain ⟨Uc2u4, eWn⟩ : ∃ X, X = Uc2u3.setRow ob #[.int .i64 t.k.1, .int .i64 t.k.2, .string t.tg, .string t.tx, (.slice a9 t.at_.length c9), .slice none 0 0] := ⟨_, rfl⟩
        have HVo : Hid ((Value.slice a9 t.at_.length c9).ownBlock ≠ some ob) := Hvo.out
        have HP : Hid (CpS m w t aa ca ak ck (fun k => (Value.slice a9 t.at_.length c9).ownBlock = some k) ob (.slice a9 t.at_.length c9) (.slice none 0 0) [] 0 Uc2u4) := (by rw [eWn]; exact ⟨⟨(setRow_other _ _ _ _ (by have := Hob.out; omega)).trans HC.out.tb, (setRow_other _ _ _ _ (by have := Hob.out; omega)).trans HC.out.rb, HC.out.bel.grown (grown_setRow _ _ _) HC.out.bel.size (fun k e => by cases e; have := Hob.out; omega)⟩, setRow_same HZ.out, (OwnE.lsE atCells_len HV.out (by have := Hfd.out.al; omega) (fun k e => e)).turn (by simp) (fun k q _ => ⟨q, setRow_other _ _ _ _ (fun e => HVo.out (by rw [q, e]))⟩), OwnE.nil0 _ _, by simp, fun x hx => absurd hx (by simp), fun k q => ⟨(OwnE.lt HV.out k q).1, (by simp; exact (OwnE.lt HV.out k q).2), fun e => HVo.out (by rw [q, e]), by simp [Value.ownBlock]⟩, ⟨Hob.out, by simp [Value.ownBlock]⟩, OwnE.low (OwnE.keep HV.out fun k e => setRow_other _ _ _ _ (fun e2 => HVo.out (by rw [e, e2]))) (Nat.zero_le _), fun k e => e, ⟨fun _ _ => False, fun j h => absurd h (by simp), fun _ _ q => q.elim, fun _ _ _ _ q => q.elim⟩⟩)
        rw [← eWn] at hHeld ⊢
        clear eWn HZ HV HC
        refine wpAnyH_done (by kernel_rfl) ?_ _
        clear hHeld
        exact REST _ _ _ _ _ HP
      · have HC1 := HC
        have HO1 := HO
        have hbx : Below Uc2u1.heap.size Uc2u1 (Uc2u1.alloc (.cells #[.int .i64 0, .int .i64 0, .string ⟨#[]⟩, .string ⟨#[]⟩, .slice none 0 0, .slice none 0 0] 27)) := (Below.refl _ _).alloc (Nat.le_refl _) _
        go_simp
        refine hK.out _ _ (hHeld.below hbx) (fun hHeld2 => ?_)
        clear hK K hHeld
        have hHeld := hHeld2
        clear hHeld2
        (try simp only [Act.put, List.setIfInBounds_toArray, List.set_cons_zero, List.set_cons_succ])
        obtain ⟨Uc2u5, eW⟩ : ∃ X, X = Uc2u1.alloc (.cells #[.int .i64 0, .int .i64 0, .string ⟨#[]⟩, .string ⟨#[]⟩, .slice none 0 0, .slice none 0 0] 27) := ⟨_, rfl⟩
        have hb : Below Uc2u1.heap.size Uc2u1 Uc2u5 := by rw [eW]; exact (Below.refl _ _).alloc (Nat.le_refl _) _
        replace HC : Hid (Cp0 w t aa ca ak ck Uc2u5) := HC.out.below hb
        replace HO : Hid (OwnAt (w.heap.size + 2) Uc2u5 (.slice (some ⟨eb, 0, none⟩) 0 0) []) := HO.out.below hb
        have HZ : Hid (Uc2u5.heap[Uc2u1.heap.size]? = some (.cells #[.int .i64 0, .int .i64 0, .string ⟨#[]⟩, .string ⟨#[]⟩, .slice none 0 0, .slice none 0 0] 27)) := by rw [eW]; exact heap_alloc_new _ _
        rw [← eW] at hHeld ⊢
        clear eW
        clear hbx
        obtain ⟨ob, enb⟩ : ∃ b, b = Uc2u1.heap.size := ⟨_, rfl⟩
        have Hob : Hid (w.heap.size + 2 ≤ ob) := (by have h9 := row_lt HC1.out.rb; show _ ≤ _; omega)
        have Heo : Hid (eb ≠ ob) := (by have h9 := (OwnE.lt HO1.out eb rfl).2; show _ ≠ _; omega)
        rw [← enb] at HZ ⊢
        clear enb
        clear HC1
        clear HO1
        clear hb
        refine wpAnyH_ready (rs := [9]) (by kernel_rfl) (by simp) ?_
        refine AllReadyH.cons (o := ⟨some 14, _, _, _, _, _⟩) rfl (fun K hK => ?_) AllReadyH.nil
        refine step_appA rfl _ _ rfl (w.heap.size + 2) (.slice (some ⟨eb, 0, none⟩) 0 0) rfl HO.out (by have := row_lt HC.out.rb; omega) (fun k => k < w.heap.size) (.slice aa t.at_.length ca) t.at_ rfl (Hfd.out.at_.turn HC.out.bel.size fun k _ q => ⟨q, HC.out.bel.block k q⟩) Hfd.out.al ?_
        intro v9 Uc2u6 hown9 hgr9
        obtain ⟨a9, c9, e9⟩ := OwnE.form hown9
        subst e9
        have HC9 : Hid (Cp0 w t aa ca ak ck Uc2u6) := HC.out.grown hgr9 (fun k e => by cases e; exact Heb.out)
        have HV : Hid (OwnAt (w.heap.size + 2) Uc2u6 (.slice a9 t.at_.length c9) t.at_) := hown9
        replace HZ : Hid (Uc2u6.heap[ob]? = some (.cells #[.int .i64 0, .int .i64 0, .string ⟨#[]⟩, .string ⟨#[]⟩, .slice none 0 0, .slice none 0 0] 27)) := (hgr9.block _ (row_lt HZ.out) (fun e => by injection e with e; exact Heo.out e.symm)).trans HZ.out
        clear HC HO
        have HC := HC9
        clear HC9 hown9 hgr9
        refine hK.out _ _ (HC.out) (fun hHeld2 => ?_)
        clear hK K hHeld
        have hHeld := hHeld2
        clear hHeld2
        (try simp only [Act.put, List.setIfInBounds_toArray, List.set_cons_zero, List.set_cons_succ])
        refine tkW 10 (some 15) (v := ?_) ?_ hHeld ?_
        rotate_left
        · (intro ww hSw; (try dsimp only at hSw); go_simp; try with_reducible rfl)
        refine wpAnyH_ready (rs := [12]) (by kernel_rfl) (by simp) ?_
        refine AllReadyH.cons (o := ⟨none, _, _, _, _, _⟩) rfl (fun K hK => ?_) AllReadyH.nil
        refine step_store_row rfl 27 (.tmp 3) (.tmp 15) rfl ob 27 #[.int .i64 0, .int .i64 0, .string ⟨#[]⟩, .string ⟨#[]⟩, .slice none 0 0, .slice none 0 0] #[.int .i64 t.k.1, .int .i64 t.k.2, .string t.tg, .string t.tx, (.slice a9 t.at_.length c9), .slice none 0 0] rfl rfl HZ.out sizeVN rfl (by simp [Value.oneCell']) ?_
        refine hK.out _ _ (⟨(setRow_other _ _ _ _ (by have := Hob.out; omega)).trans hHeld.tb, (setRow_other _ _ _ _ (by have := Hob.out; omega)).trans hHeld.rb, hHeld.bel.grown (grown_setRow _ _ _) hHeld.bel.size (fun k e => by cases e; have := Hob.out; omega)⟩) (fun hHeld2 => ?_)
        clear hK K hHeld
        have hHeld := hHeld2
        clear hHeld2
        (try simp only [Act.put, List.setIfInBounds_toArray, List.set_cons_zero, List.set_cons_succ])
        obtain ⟨Uc2u7, eWn⟩ : ∃ X, X = Uc2u6.setRow ob #[.int .i64 t.k.1, .int .i64 t.k.2, .string t.tg, .string t.tx, (.slice a9 t.at_.length c9), .slice none 0 0] := ⟨_, rfl⟩
        have HVo : Hid ((Value.slice a9 t.at_.length c9).ownBlock ≠ some ob) := (fun e => by obtain ⟨cu9, hc9⟩ := ownsRow_type HV.out _ e; rw [HZ.out] at hc9; injection hc9 with hc9; injection hc9 with _ hc9; exact absurd hc9 (by decide))
        have HP : Hid (CpS m w t aa ca ak ck (fun k => (Value.slice a9 t.at_.length c9).ownBlock = some k) ob (.slice a9 t.at_.length c9) (.slice none 0 0) [] 0 Uc2u7) := (by rw [eWn]; exact ⟨⟨(setRow_other _ _ _ _ (by have := Hob.out; omega)).trans HC.out.tb, (setRow_other _ _ _ _ (by have := Hob.out; omega)).trans HC.out.rb, HC.out.bel.grown (grown_setRow _ _ _) HC.out.bel.size (fun k e => by cases e; have := Hob.out; omega)⟩, setRow_same HZ.out, (OwnE.lsE atCells_len HV.out (by have := Hfd.out.al; omega) (fun k e => e)).turn (by simp) (fun k q _ => ⟨q, setRow_other _ _ _ _ (fun e => HVo.out (by rw [q, e]))⟩), OwnE.nil0 _ _, by simp, fun x hx => absurd hx (by simp), fun k q => ⟨(OwnE.lt HV.out k q).1, (by simp; exact (OwnE.lt HV.out k q).2), fun e => HVo.out (by rw [q, e]), by simp [Value.ownBlock]⟩, ⟨Hob.out, by simp [Value.ownBlock]⟩, OwnE.low (OwnE.keep HV.out fun k e => setRow_other _ _ _ _ (fun e2 => HVo.out (by rw [e, e2]))) (Nat.zero_le _), fun k e => e, ⟨fun _ _ => False, fun j h => absurd h (by simp), fun _ _ q => q.elim, fun _ _ _ _ q => q.elim⟩⟩)
        rw [← eWn] at hHeld ⊢
        clear eWn HZ HV HC
        refine wpAnyH_done (by kernel_rfl) ?_ _
        clear hHeld
        exact REST _ _ _ _ _ HP
    · have HC1 := HC
      have hbx : Below Uc2u0.heap.size Uc2u0 (Uc2u0.alloc (.cells #[.int .i64 0, .int .i64 0, .string ⟨#[]⟩, .string ⟨#[]⟩, .slice none 0 0, .slice none 0 0] 27)) := (Below.refl _ _).alloc (Nat.le_refl _) _
      go_simp
      refine hK.out _ _ (hHeld.below hbx) (fun hHeld2 => ?_)
      clear hK K hHeld
      have hHeld := hHeld2
      clear hHeld2
      (try simp only [Act.put, List.setIfInBounds_toArray, List.set_cons_zero, List.set_cons_succ])
      obtain ⟨Uc2u8, eW⟩ : ∃ X, X = Uc2u0.alloc (.cells #[.int .i64 0, .int .i64 0, .string ⟨#[]⟩, .string ⟨#[]⟩, .slice none 0 0, .slice none 0 0] 27) := ⟨_, rfl⟩
      have hb : Below Uc2u0.heap.size Uc2u0 Uc2u8 := by rw [eW]; exact (Below.refl _ _).alloc (Nat.le_refl _) _
      replace HC : Hid (Cp0 w t aa ca ak ck Uc2u8) := HC.out.below hb
      have HZ : Hid (Uc2u8.heap[Uc2u0.heap.size]? = some (.cells #[.int .i64 0, .int .i64 0, .string ⟨#[]⟩, .string ⟨#[]⟩, .slice none 0 0, .slice none 0 0] 27)) := by rw [eW]; exact heap_alloc_new _ _
      rw [← eW] at hHeld ⊢
      clear eW
      clear hbx
      obtain ⟨ob, enb⟩ : ∃ b, b = Uc2u0.heap.size := ⟨_, rfl⟩
      have Hob : Hid (w.heap.size + 2 ≤ ob) := (by have h9 := row_lt HC1.out.rb; show _ ≤ _; omega)
      rw [← enb] at HZ ⊢
      clear enb
      clear HC1
      clear hb
      refine wpAnyH_ready (rs := [6]) (by kernel_rfl) (by simp) ?_
      refine AllReadyH.cons (o := ⟨some 11, _, _, _, _, _⟩) rfl (fun K hK => ?_) AllReadyH.nil
      have HZ0 := HZ
      have hbx : Below Uc2u8.heap.size Uc2u8 (Uc2u8.alloc (.cells #[] 77)) := (Below.refl _ _).alloc (Nat.le_refl _) _
      have HC0 := HC
      go_simp
      refine hK.out _ _ (hHeld.below hbx) (fun hHeld2 => ?_)
      clear hK K hHeld
      have hHeld := hHeld2
      clear hHeld2
      (try simp only [Act.put, List.setIfInBounds_toArray, List.set_cons_zero, List.set_cons_succ])
      obtain ⟨Uc2u9, eW⟩ : ∃ X, X = Uc2u8.alloc (.cells #[] 77) := ⟨_, rfl⟩
      have hb : Below Uc2u8.heap.size Uc2u8 Uc2u9 := by rw [eW]; exact (Below.refl _ _).alloc (Nat.le_refl _) _
      replace HC : Hid (Cp0 w t aa ca ak ck Uc2u9) := HC.out.below hb
      replace HZ : Hid (Uc2u9.heap[ob]? = some (.cells #[.int .i64 0, .int .i64 0, .string ⟨#[]⟩, .string ⟨#[]⟩, .slice none 0 0, .slice none 0 0] 27)) := (hb.block _ (row_lt HZ.out)).trans HZ.out
      have HO : Hid (OwnAt (w.heap.size + 2) Uc2u9 (.slice (some ⟨Uc2u8.heap.size, 0, none⟩) 0 0) []) := (by rw [eW]; exact World.ownsRow_made Uc2u8 #[] 0 (by have := row_lt HC0.out.rb; omega) (by unfold maxLen; omega) (by simp))
      have Heo : Hid (Uc2u8.heap.size ≠ ob) := (by have h9 := row_lt HZ0.out; show _ ≠ _; omega)
      rw [← eW] at hHeld ⊢
      clear eW
      clear hbx
      obtain ⟨eb, eeb⟩ : ∃ b, b = Uc2u8.heap.size := ⟨_, rfl⟩
      have Heb : Hid (w.heap.size + 2 ≤ eb) := (by have h9 := row_lt HC0.out.rb; show _ ≤ _; omega)
      rw [← eeb] at HO ⊢
      rw [← eeb] at Heo
      clear eeb HC0
      clear HZ0
      clear hb
      refine wpAnyH_ready (rs := [9]) (by kernel_rfl) (by simp) ?_
      refine AllReadyH.cons (o := ⟨some 14, _, _, _, _, _⟩) rfl (fun K hK => ?_) AllReadyH.nil
      refine step_appA rfl _ _ rfl (w.heap.size + 2) (.slice (some ⟨eb, 0, none⟩) 0 0) rfl HO.out (by have := row_lt HC.out.rb; omega) (fun k => k < w.heap.size) (.slice aa t.at_.length ca) t.at_ rfl (Hfd.out.at_.turn HC.out.bel.size fun k _ q => ⟨q, HC.out.bel.block k q⟩) Hfd.out.al ?_
      intro v9 Uc2u10 hown9 hgr9
      obtain ⟨a9, c9, e9⟩ := OwnE.form hown9
      subst e9
      have HC9 : Hid (Cp0 w t aa ca ak ck Uc2u10) := HC.out.grown hgr9 (fun k e => by cases e; exact Heb.out)
      have HV : Hid (OwnAt (w.heap.size + 2) Uc2u10 (.slice a9 t.at_.length c9) t.at_) := hown9
      replace HZ : Hid (Uc2u10.heap[ob]? = some (.cells #[.int .i64 0, .int .i64 0, .string ⟨#[]⟩, .string ⟨#[]⟩, .slice none 0 0, .slice none 0 0] 27)) := (hgr9.block _ (row_lt HZ.out) (fun e => by injection e with e; exact Heo.out e.symm)).trans HZ.out
      clear HC HO
      have HC := HC9
      clear HC9 hown9 hgr9
      refine hK.out _ _ (HC.out) (fun hHeld2 => ?_)
      clear hK K hHeld
      have hHeld := hHeld2
      clear hHeld2
      (try simp only [Act.put, List.setIfInBounds_toArray, List.set_cons_zero, List.set_cons_succ])
      refine tkW 10 (some 15) (v := ?_) ?_ hHeld ?_
      rotate_left
      · (intro ww hSw; (try dsimp only at hSw); go_simp; try with_reducible rfl)
      refine wpAnyH_ready (rs := [12]) (by kernel_rfl) (by simp) ?_
      refine AllReadyH.cons (o := ⟨none, _, _, _, _, _⟩) rfl (fun K hK => ?_) AllReadyH.nil
      refine step_store_row rfl 27 (.tmp 3) (.tmp 15) rfl ob 27 #[.int .i64 0, .int .i64 0, .string ⟨#[]⟩, .string ⟨#[]⟩, .slice none 0 0, .slice none 0 0] #[.int .i64 t.k.1, .int .i64 t.k.2, .string t.tg, .string t.tx, (.slice a9 t.at_.length c9), .slice none 0 0] rfl rfl HZ.out sizeVN rfl (by simp [Value.oneCell']) ?_
      refine hK.out _ _ (⟨(setRow_other _ _ _ _ (by have := Hob.out; omega)).trans hHeld.tb, (setRow_other _ _ _ _ (by have := Hob.out; omega)).trans hHeld.rb, hHeld.bel.grown (grown_setRow _ _ _) hHeld.bel.size (fun k e => by cases e; have := Hob.out; omega)⟩) (fun hHeld2 => ?_)
      clear hK K hHeld
      have hHeld := hHeld2
      clear hHeld2
      (try simp only [Act.put, List.setIfInBounds_toArray, List.set_cons_zero, List.set_cons_succ])
      obtain ⟨Uc2u11, eWn⟩ : ∃ X, X = Uc2u10.setRow ob #[.int .i64 t.k.1, .int .i64 t.k.2, .string t.tg, .string t.tx, (.slice a9 t.at_.length c9), .slice none 0 0] := ⟨_, rfl⟩
      have HVo : Hid ((Value.slice a9 t.at_.length c9).ownBlock ≠ some ob) := (fun e => by obtain ⟨cu9, hc9⟩ := ownsRow_type HV.out _ e; rw [HZ.out] at hc9; injection hc9 with hc9; injection hc9 with _ hc9; exact absurd hc9 (by decide))
      have HP : Hid (CpS m w t aa ca ak ck (fun k => (Value.slice a9 t.at_.length c9).ownBlock = some k) ob (.slice a9 t.at_.length c9) (.slice none 0 0) [] 0 Uc2u11) := (by rw [eWn]; exact ⟨⟨(setRow_other _ _ _ _ (by have := Hob.out; omega)).trans HC.out.tb, (setRow_other _ _ _ _ (by have := Hob.out; omega)).trans HC.out.rb, HC.out.bel.grown (grown_setRow _ _ _) HC.out.bel.size (fun k e => by cases e; have := Hob.out; omega)⟩, setRow_same HZ.out, (OwnE.lsE atCells_len HV.out (by have := Hfd.out.al; omega) (fun k e => e)).turn (by simp) (fun k q _ => ⟨q, setRow_other _ _ _ _ (fun e => HVo.out (by rw [q, e]))⟩), OwnE.nil0 _ _, by simp, fun x hx => absurd hx (by simp), fun k q => ⟨(OwnE.lt HV.out k q).1, (by simp; exact (OwnE.lt HV.out k q).2), fun e => HVo.out (by rw [q, e]), by simp [Value.ownBlock]⟩, ⟨Hob.out, by simp [Value.ownBlock]⟩, OwnE.low (OwnE.keep HV.out fun k e => setRow_other _ _ _ _ (fun e2 => HVo.out (by rw [e, e2]))) (Nat.zero_le _), fun k e => e, ⟨fun _ _ => False, fun j h => absurd h (by simp), fun _ _ q => q.elim, fun _ _ _ _ q => q.elim⟩⟩)
      rw [← eWn] at hHeld ⊢
      clear eWn HZ HV HC
      refine wpAnyH_done (by kernel_rfl) ?_ _
      clear hHeld
      exact REST _ _ _ _ _ HP
theorem refCopy_sep (G : Nat → Prop) (t : VT) (v : Value) (w : World) (hv : VIs G w v t) : Calls Try.prog 11 #[v] w fun e w' => ∃ v' F, e = .returned v' ∧ VIs F w' v' t ∧ (∀ k, F k → w.heap.size ≤ k ∧ k < w'.heap.size) ∧ Below w.heap.size w w' ∧ ∃ av kv, v' = .agg #[.int .i64 t.k.1, .int .i64 t.k.2, .string t.tg, .string t.tx, av, kv] ∧ SepF t.sz w' F av kv t := refCopy_n t.sz G t v w (Nat.le_refl _) hv
theorem refCopy_any (G : Nat → Prop) (t : VT) (v : Value) (w : World) (hv : VIs G w v t) : Calls Try.prog 11 #[v] w fun e w' => ∃ v' F, e = .returned v' ∧ VIs F w' v' t ∧ (∀ k, F k → w.heap.size ≤ k ∧ k < w'.heap.size) ∧ Below w.heap.size w w' := (refCopy_sep G t v w hv).mono fun e w' ⟨v', F, h1, h2, h3, h4, _⟩ => ⟨v', F, h1, h2, h3, h4⟩
end Go.Proofs.Ythhnglpkfcmjiaa

namespace Go.Proofs.Ythhnglpkfcmjiaa
open Go.RowKit
set_option linter.unusedVariables false
set_option linter.unusedSimpArgs false
theorem refSame_any (G1 G2 : Nat → Prop) (a b : VT) (va vb : Value) (w : World) (ha : VIs G1 w va a) (hb : VIs G2 w vb b) : Calls Try.prog 15 #[va, vb] w fun e w' => e = .returned (.bool (eqV a b)) ∧ Below w.heap.size w w' := refSame_n a.sz G1 G2 a b va vb w (Nat.le_refl _) ha hb
end Go.Proofs.Ythhnglpkfcmjiaa
