/- Equality of attributes and of trees: the program's and the document's. -/
import Derived.Test.YtljmlbidbacdjabVtA
import Derived.Lib.Strings
namespace Go.Proofs.Ytljmlbidbacdjab
open Go.RowKit
set_option linter.unusedVariables false
set_option linter.unusedSimpArgs false

theorem txt_eq (a b : ByteArray) : (a.toList == b.toList) = decide (a = b) := by
  rw [Go.Lib.toList_data, Go.Lib.toList_data]
  by_cases e : a = b
  · subst e; simp
  · rw [decide_eq_false e]
    exact beq_eq_false_iff_ne.2 fun h => e (tx_ext h)
set_option maxRecDepth 100000 in
theorem equalAt (a b : At) (w : World) : (Op.equalIn 10000 63 (.agg #[.string a.1, .string a.2]) (.agg #[.string b.1, .string b.2])).run Try.prog w = .ok (decide (a = b)) w := by
  obtain ⟨an, av⟩ := a
  obtain ⟨bn, bv⟩ := b
  have hS : Try.prog.underlying 63 = some (.struct (Try.prog.fieldsOf 63)) := by kernel_rfl
  have hp : Try.prog.stoodInHeld 63 = false := by kernel_rfl
  rw [show (10000 : Nat) = 9999 + 1 from rfl, run_equalIn_agg w 9999 63 _ _ hS hp]
  simp only [Program.fieldsOf, Try.underlying63]
  have hn := txt_eq an bn
  have hv := txt_eq av bv
  clear hS hp
  go_simp
  by_cases h1 : an = bn
  · by_cases h2 : av = bv <;> simp [h1, h2, hn, hv]
  · simp [h1, hn]
theorem execNeqA {ev : Operand → Value} {d : Option Nat} {x y : Operand} {t t2 : TypeId} {o3 : String} {o4 : Array Edge} {o5 : Option (Nat × Bool)} {p q : At} (hx : ev x = .agg #[.string p.1, .string p.2]) (hy : ev y = .agg #[.string q.1, .string q.2]) (w : World) : (execOp ev ⟨d, .binOp .neq 63 x y t2, t, o3, o4, o5⟩).run Try.prog w = .ok (.value (.bool (!decide (p = q)))) w := by
  have h1 : (eqGuard .neq 63 x y (.agg #[.string p.1, .string p.2]) (.agg #[.string q.1, .string q.2])).run Try.prog w = .ok () w := run_eqGuard_agg w .neq 63 x y _ _ (by kernel_rfl)
  have h2 : (binOp .neq 63 (.agg #[.string p.1, .string p.2]) (.agg #[.string q.1, .string q.2])).run Try.prog w = .ok (.bool (!decide (p = q))) w := by
    rw [run_neq_struct]
    rw [equalAt p q w]
    rfl
  unfold execOp
  simp only [hx, hy, Sem.run_bind, h1, h2, Result.andThen_ok]
  rfl
theorem LsE.rowA {G : Nat → Prop} {w : World} {a : Option Addr} {n c : Nat} {D : List At} (h : LsE atCells 2 G w (.slice a n c) D) {i : Nat} (hi : i < D.length) : ∃ b o, a = some ⟨b, o, none⟩ ∧ G b ∧ b < w.heap.size ∧ w.cell? ⟨b, o + i * 2, none⟩ = some (.string D[i].1) ∧ w.cell? ⟨b, o + i * 2 + 1, none⟩ = some (.string D[i].2) := by
  obtain ⟨a1, c1, e, _, _, h3⟩ := h
  injection e with e1 e2 e3
  subst e1
  obtain ⟨b, o, e4, g, hlt, hr⟩ := h3.resolve_left (fun e => by rw [e] at hi; simp at hi)
  exact ⟨b, o, e4, g, hlt, hr i hi 0 _ rfl, hr i hi 1 _ rfl⟩

set_option maxRecDepth 100000 in
set_option maxHeartbeats 8000000 in
theorem sameAttrs_any (G1 G2 : Nat → Prop) (va vb : Value) (A B : List At) (w : World) (ha : LsE atCells 2 G1 w va A) (hb : LsE atCells 2 G2 w vb B) :
    Calls Try.prog 29 #[va, vb] w fun e w' => e = .returned (.bool (decide (A = B))) ∧ Below w.heap.size w w' := by
  obtain ⟨a1, c1, rfl⟩ := ha.form
  obtain ⟨a2, c2, rfl⟩ := hb.form
  have hla := ha.len
  have hlb := hb.len
  have HA : Hid (LsE atCells 2 G1 w (.slice a1 A.length c1) A) := ha
  have HB : Hid (LsE atCells 2 G2 w (.slice a2 B.length c2) B) := hb
  clear ha hb
  by_cases hn : A.length = B.length
  · obtain ⟨n, en⟩ : ∃ n, n = B.length := ⟨_, rfl⟩
    have HN2 : Hid (n = B.length) := en
    rw [hn, ← en]
    rw [hn, ← en] at HA hla
    rw [← en] at HB hlb
    have HNa : Hid (n = A.length) := (by show _ = _; rw [hn, en])
    clear hn en
    go_enter Try.func29, Try.ntmps29
    go_wp2_with fail
    go_loopw [5] (fun iv wr => ∃ (i : Nat), iv = .int .i64 (i : Int) ∧ i ≤ n ∧ Hid (A.take i = B.take i) ∧ Hid (Below w.heap.size w wr)) (fun iv _ => n - (intOf iv).toNat)
    case atStart => exact ⟨0, rfl, Nat.zero_le _, rfl, Below.refl _ _⟩
    case round =>
      obtain ⟨i, rfl, hil, HT, HBw⟩ := hrel
      by_cases hlt : i < n
      · have hia : i < A.length := by rw [← HNa.out]; exact hlt
        have hib : i < B.length := by rw [← HN2.out]; exact hlt
        obtain ⟨b1, o1, rfl, _, hl1, hr1, hr1b⟩ := HA.out.rowA (i := i) hia
        obtain ⟨b2, o2, rfl, _, hl2, hr2, hr2b⟩ := HB.out.rowA (i := i) hib
        have HTk0 := take_next hia hib HT.out
        have HNe0 : A[i] ≠ B[i] → A ≠ B := fun h e => h (by subst e; rfl)
        obtain ⟨x, ex⟩ : ∃ x, x = A[i] := ⟨_, rfl⟩
        obtain ⟨y, ey⟩ : ∃ y, y = B[i] := ⟨_, rfl⟩
        rw [← ex] at hr1 hr1b HTk0 HNe0
        rw [← ey] at hr2 hr2b HTk0 HNe0
        have HTk1 : Hid (x = y → A.take (i + 1) = B.take (i + 1)) := HTk0
        have HNe1 : Hid (x ≠ y → A ≠ B) := HNe0
        have HG1 : Hid (b1 < w.heap.size ∧ _ ∧ _) := ⟨hl1, hr1, hr1b⟩
        have HG2 : Hid (b2 < w.heap.size ∧ _ ∧ _) := ⟨hl2, hr2, hr2b⟩
        have k1 : (i : Int) < (n : Int) := by omega
        have k0 : (0 : Int) ≤ (i : Int) := by omega
        clear ex ey hr1 hr2 hl1 hl2 hr1b hr2b HTk0 HNe0 hia hib
        go_wp2_with fail
        by_cases he : x = y
        · have HE : Hid (x = y) := he
          have HTk : Hid (A.take (i + 1) = B.take (i + 1)) := HTk1.out he
          clear he HTk1 HNe1
          refine wp_region_held_drew (S := fun W' => Below w.heap.size w W') (by kernel_rfl) HBw.out.drew (fun hHeld => ?_)
          obtain ⟨Ua1u0, eW⟩ : ∃ X, X = wr.drew := ⟨_, rfl⟩
          have hb : Below wr.heap.size wr Ua1u0 := by rw [eW]; exact (Below.refl _ _).drew
          replace HBw : Hid (Below w.heap.size w Ua1u0) := HBw.out.trans (hb.mono HBw.out.size)
          rw [← eW] at hHeld ⊢
          clear eW hb
          refine tkW 0 (some 17) (v := ?_) ?_ hHeld ?_
          rotate_left
          · (intro ww _; go_simp; try with_reducible rfl)
          refine tkW 1 (some 18) (v := ?_) ?_ hHeld ?_
          rotate_left
          · (intro ww _; go_simp; try with_reducible rfl)
          refine tkW 2 (some 19) (v := ?_) ?_ hHeld ?_
          rotate_left
          · (intro ww hSw; (try dsimp only at hSw); go_simp; try with_reducible rfl)
          refine tkW 3 (some 20) (v := ?_) ?_ hHeld ?_
          rotate_left
          · (intro ww hSw; (try dsimp only at hSw); have a0 : ww.cell? ⟨b1, o1 + i * 2, none⟩ = some (.string x.1) := (hSw.cell (p := ⟨b1, o1 + i * 2, none⟩) HG1.out.1).trans HG1.out.2.1; have a1 : ww.cell? ⟨b1, o1 + i * 2 + 1, none⟩ = some (.string x.2) := (hSw.cell (p := ⟨b1, o1 + i * 2 + 1, none⟩) HG1.out.1).trans HG1.out.2.2; go_simp; try with_reducible rfl)
          refine tkW 4 (some 21) (v := ?_) ?_ hHeld ?_
          rotate_left
          · (intro ww _; go_simp; try with_reducible rfl)
          refine tkW 5 (some 22) (v := ?_) ?_ hHeld ?_
          rotate_left
          · (intro ww _; go_simp; try with_reducible rfl)
          refine tkW 6 (some 23) (v := ?_) ?_ hHeld ?_
          rotate_left
          · (intro ww hSw; (try dsimp only at hSw); go_simp; try with_reducible rfl)
          refine tkW 7 (some 24) (v := ?_) ?_ hHeld ?_
          rotate_left
          · (intro ww hSw; (try dsimp only at hSw); have c0 : ww.cell? ⟨b2, o2 + i * 2, none⟩ = some (.string y.1) := (hSw.cell (p := ⟨b2, o2 + i * 2, none⟩) HG2.out.1).trans HG2.out.2.1; have c1 : ww.cell? ⟨b2, o2 + i * 2 + 1, none⟩ = some (.string y.2) := (hSw.cell (p := ⟨b2, o2 + i * 2 + 1, none⟩) HG2.out.1).trans HG2.out.2.2; go_simp; try with_reducible rfl)
          refine tkW 8 (some 25) (v := .bool false) ?_ hHeld ?_
          · (intro ww hSw; (try dsimp only at hSw); rw [execNeqA (p := x) (q := y) rfl rfl ww, decide_eq_true HE.out]; rfl)
          refine wpAnyH_done (by kernel_rfl) ?_ _
          clear hHeld
          go_wp2
          go_roundw
          case rel => exact ⟨i + 1, by go_num, by omega, HTk, HBw⟩
          case measure => simp [intOf]; omega
        · have HE : Hid (x ≠ y) := he
          have HNe : Hid (decide (A = B) = false) := decide_eq_false (HNe1.out he)
          clear he HTk1 HNe1
          refine wp_region_held_drew (S := fun W' => Below w.heap.size w W') (by kernel_rfl) HBw.out.drew (fun hHeld => ?_)
          obtain ⟨Ub2u0, eW⟩ : ∃ X, X = wr.drew := ⟨_, rfl⟩
          have hb : Below wr.heap.size wr Ub2u0 := by rw [eW]; exact (Below.refl _ _).drew
          replace HBw : Hid (Below w.heap.size w Ub2u0) := HBw.out.trans (hb.mono HBw.out.size)
          rw [← eW] at hHeld ⊢
          clear eW hb
          refine tkW 0 (some 17) (v := ?_) ?_ hHeld ?_
          rotate_left
          · (intro ww _; go_simp; try with_reducible rfl)
          refine tkW 1 (some 18) (v := ?_) ?_ hHeld ?_
          rotate_left
          · (intro ww _; go_simp; try with_reducible rfl)
          refine tkW 2 (some 19) (v := ?_) ?_ hHeld ?_
          rotate_left
          · (intro ww hSw; (try dsimp only at hSw); go_simp; try with_reducible rfl)
          refine tkW 3 (some 20) (v := ?_) ?_ hHeld ?_
          rotate_left
          · (intro ww hSw; (try dsimp only at hSw); have a0 : ww.cell? ⟨b1, o1 + i * 2, none⟩ = some (.string x.1) := (hSw.cell (p := ⟨b1, o1 + i * 2, none⟩) HG1.out.1).trans HG1.out.2.1; have a1 : ww.cell? ⟨b1, o1 + i * 2 + 1, none⟩ = some (.string x.2) := (hSw.cell (p := ⟨b1, o1 + i * 2 + 1, none⟩) HG1.out.1).trans HG1.out.2.2; go_simp; try with_reducible rfl)
          refine tkW 4 (some 21) (v := ?_) ?_ hHeld ?_
          rotate_left
          · (intro ww _; go_simp; try with_reducible rfl)
          refine tkW 5 (some 22) (v := ?_) ?_ hHeld ?_
          rotate_left
          · (intro ww _; go_simp; try with_reducible rfl)
          refine tkW 6 (some 23) (v := ?_) ?_ hHeld ?_
          rotate_left
          · (intro ww hSw; (try dsimp only at hSw); go_simp; try with_reducible rfl)
          refine tkW 7 (some 24) (v := ?_) ?_ hHeld ?_
          rotate_left
          · (intro ww hSw; (try dsimp only at hSw); have c0 : ww.cell? ⟨b2, o2 + i * 2, none⟩ = some (.string y.1) := (hSw.cell (p := ⟨b2, o2 + i * 2, none⟩) HG2.out.1).trans HG2.out.2.1; have c1 : ww.cell? ⟨b2, o2 + i * 2 + 1, none⟩ = some (.string y.2) := (hSw.cell (p := ⟨b2, o2 + i * 2 + 1, none⟩) HG2.out.1).trans HG2.out.2.2; go_simp; try with_reducible rfl)
          refine tkW 8 (some 25) (v := .bool true) ?_ hHeld ?_
          · (intro ww hSw; (try dsimp only at hSw); rw [execNeqA (p := x) (q := y) rfl rfl ww, decide_eq_false HE.out]; rfl)
          refine wpAnyH_done (by kernel_rfl) ?_ _
          clear hHeld
          go_wp2
          go_ret
          exact ⟨ret_bool (by rw [HNe.out]), HBw.out⟩
      · have HI : Hid (decide (A = B) = true) := by
          have h1 := HT.out
          have h2 := HNa.out
          have h3 := HN2.out
          rw [List.take_of_length_le (by omega), List.take_of_length_le (by omega)] at h1
          exact decide_eq_true h1
        go_wp2
        go_ret
        exact ⟨ret_bool (by rw [HI.out]), HBw.out⟩
  · have HNe : Hid (decide (A = B) = false) := decide_eq_false fun e => hn (by rw [e])
    have q : ((A.length : Int) == (B.length : Int)) = false := by simp; omega
    clear hn
    go_enter Try.func29, Try.ntmps29
    go_wp2
    go_ret
    exact ⟨ret_bool (by rw [HNe.out]), Below.refl _ _⟩

end Go.Proofs.Ytljmlbidbacdjab
