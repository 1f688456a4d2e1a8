/- The document's Keys and Find; whether two rows of stamps are the same. -/
import Derived.Test.YtnanlmmmppcipaaVtKd
import Derived.Deep.Cut
namespace Go.Proofs.Ytnanlmmmppcipaa
open Go.RowKit Go.Shelf
set_option linter.unusedVariables false
set_option linter.unusedSimpArgs false

theorem sizeVF : (Try.prog.info? 27).map (·.size) = some 6 := by kernel_rfl
set_option maxRecDepth 100000 in
set_option maxHeartbeats 4000000 in
theorem flatN_any (N : Nat) (t : VT) (v : Value) (w : World) (hN : N ≤ w.heap.size) (hv : VIs (fun k => k < N) w v t) (hsz : t.sz ≤ 1048576) : Calls Try.prog 24 #[v] w fun e w' => ∃ v' E, e = .returned v' ∧ OwnVn N w' v' E ∧ E.map Prod.fst = flT t ∧ (∀ x ∈ E, FdIs (fun k => k < N) w' x.2.1 x.2.2 x.1.at_ x.1.ks) ∧ Below w.heap.size w w' := by
  obtain ⟨aa, ca, ak, ck, e1, fd⟩ := hv.form
  subst e1
  obtain ⟨W1, eW1⟩ : ∃ X, X = (w.alloc (.cells #[.int .i64 t.k.1, .int .i64 t.k.2, .string t.tg, .string t.tx, .slice aa t.at_.length ca, .slice ak t.ks.length ck] 27)) := ⟨_, rfl⟩
  obtain ⟨W2, eW2⟩ : ∃ X, X = W1.alloc (.cells #[] 27) := ⟨_, rfl⟩
  have hb1 : Below w.heap.size w W1 := (by rw [eW1]; exact (Below.refl _ _).alloc (Nat.le_refl _) _)
  have hs1 : W1.heap.size = w.heap.size + 1 := (by rw [eW1]; simp)
  have hb2 : Below W1.heap.size W1 W2 := (by rw [eW2]; exact (Below.refl _ _).alloc (Nat.le_refl _) _)
  have hbb := hb1.trans (hb2.mono hb1.size)
  have HO : Hid (OwnVn N W2 (.slice (some ⟨w.heap.size + 1, 0, none⟩) 0 0) []) := (by rw [eW2, ← hs1]; exact World.ownsRow_made W1 #[] 0 (by omega) (by unfold maxLen; omega) (by simp))
  have HV : Hid (FdIs (fun k => k < N) W2 (.slice aa t.at_.length ca) (.slice ak t.ks.length ck) t.at_ t.ks) := fd.turn hbb.size fun k q _ => ⟨q, hbb.block k (by omega)⟩
  have HB := hide9 hbb
  have HE := hide9 (And.intro eW1 eW2)
  clear hv fd hb1 hb2 hbb hs1 eW1 eW2
  go_enter Try.func24, Try.ntmps24
  go_wp2_with fail
  rw [← HE.out.1, ← HE.out.2]
  clear HE
  refine (flat_n N t.sz t _ _ [] _ (Nat.le_refl _) (VIs.of HV.out) HO.out ⟨_, _, rfl⟩ (Nat.le_trans hN HB.out.size) (by simpa using hsz)).mono ?_
  rintro e W3 ⟨v', E', rfl, h1, h2, h3, h4, _, g3, c3, e3⟩
  have HP := hide9 (And.intro h1 (And.intro h2 (And.intro h3 (HB.out.trans (h4.below (fun k q => by have h9 : w.heap.size + 1 = k := (by simpa [Value.ownBlock] using q); omega) HB.out.size)))))
  obtain ⟨n3, en3⟩ : ∃ n, n = ([] ++ E').length := ⟨_, rfl⟩
  rw [← en3] at e3
  subst e3
  clear en3
  clear h1 h2 h3 h4
  go_wp2
  go_ret
  exact ⟨_, _, rfl, HP.out.1, HP.out.2.1, HP.out.2.2.1, HP.out.2.2.2⟩

set_option maxRecDepth 100000 in
set_option maxHeartbeats 4000000 in
/-- The document's Keys. -/
theorem refKeys_any (G : Nat → Prop) (t : VT) (v : Value) (w : World) (h : VIs G w v t) (hsz : t.sz ≤ 1048576) : Calls Try.prog 29 #[v] w fun e w' => ∃ v', e = .returned v' ∧ OwnSt w.heap.size w' v' ((flT t).map VT.k) ∧ Below w.heap.size w w' := by
  obtain ⟨aa, ca, ak, ck, e1, fd⟩ := h.form
  subst e1
  obtain ⟨i0, hin, hz0, hz1, hz2⟩ := info_parts infoSk
  obtain ⟨W0, eW⟩ : ∃ X, X = (w.alloc (.cells #[.int .i64 t.k.1, .int .i64 t.k.2, .string t.tg, .string t.tx, .slice aa t.at_.length ca, .slice ak t.ks.length ck] 27)) := ⟨_, rfl⟩
  have hb0 : Below w.heap.size w W0 := (by rw [eW]; exact (Below.refl _ _).alloc (Nat.le_refl _) _)
  have HFd := hide9 (fd.below hb0)
  have HB := hide9 hb0
  have HE := hide9 eW
  clear h fd hb0 eW
  go_enter Try.func29, Try.ntmps29
  go_wp2_with fail
  rw [← HE.out]
  clear HE
  refine (flatF_any G t _ _ (VIs.of HFd.out) hsz).mono ?_
  clear HFd
  rintro e w1 ⟨v1, L, rfl, h1, h2, h3, h4⟩
  obtain ⟨a1, c1, e1⟩ := OwnE.form h1
  subst e1
  have hLl : L.length = t.sz := (by rw [← flT_len, ← h2, List.length_map])
  have hL2 : L.length ≤ 1048576 := by omega
  have HL := hide9 h1
  have HM : Hid (L.map kO = (flT t).map VT.k) := (by show _ = _; rw [← h2, List.map_map]; rfl)
  have HB1 : Hid (Below w.heap.size w w1) := HB.out.trans (h4.mono HB.out.size)
  clear h1 h2 h3 h4 HB hLl
  go_wp2
  go_loopw [4, 5] (fun sv iv wr => ∃ (i g : Nat) (c : Nat), iv = .int .i64 (i : Int) ∧ i ≤ L.length ∧ sv = .slice (some ⟨g, 0, none⟩) i c ∧ Hid (OwnSt w1.heap.size wr (.slice (some ⟨g, 0, none⟩) i c) ((L.take i).map kO)) ∧ Hid (Below w1.heap.size w1 wr)) (fun _ iv _ => L.length - (intOf iv).toNat)
  case atStart => exact ⟨0, _, _, rfl, Nat.zero_le _, rfl, World.ownsRow_made w1 #[] 0 (by omega) (by unfold maxLen; omega) (by simp), (Below.refl _ _).alloc (Nat.le_refl _) _⟩
  case round =>
    obtain ⟨i, gs, cs, rfl, hil, rfl, HR, HBr⟩ := hrel
    by_cases hlt : i < L.length
    · obtain ⟨g, cap, eg, _, hcs, _⟩ := OwnE.cells vnC_len HL.out hlt
      injection eg with e1 e8 e9
      subst e1
      clear e8 e9
      have hgl := (OwnE.lt HL.out g rfl).2
      have p0 : wr.cell? ⟨g, i * 6, none⟩ = some (.int .i64 L[i].1.k.1) := (HBr.out.cell (p := ⟨g, i * 6, none⟩) hgl).trans (hcs 0 _ rfl)
      have p1 : wr.cell? ⟨g, i * 6 + 1, none⟩ = some (.int .i64 L[i].1.k.2) := (HBr.out.cell (p := ⟨g, i * 6 + 1, none⟩) hgl).trans (hcs 1 _ rfl)
      have hsn : (L.take (i + 1)).map kO = (L.take i).map kO ++ [L[i].1.k] := (by rw [List.take_succ_eq_append_getElem hlt, List.map_append]; rfl)
      have hDl : ((L.take i).map kO).length = i := (by rw [List.length_map, List.length_take]; omega)
      obtain ⟨s, es⟩ : ∃ s, s = L[i].1.k := ⟨_, rfl⟩
      obtain ⟨D, eD⟩ : ∃ D, D = (L.take i).map kO := ⟨_, rfl⟩
      rw [← es] at p0 p1 hsn
      rw [← eD] at hsn hDl HR
      have Hsn := hide9 hsn
      have HDl := hide9 hDl
      obtain ⟨w4, ew4⟩ : ∃ X, X = wr.alloc (.cells #[.int .i64 s.1, .int .i64 s.2] 23) := ⟨_, rfl⟩
      have Hw4 := hide9 ew4
      have hb4 : Below wr.heap.size wr w4 := (by rw [ew4]; exact (Below.refl _ _).alloc (Nat.le_refl _) _)
      have hT4 : w4.heap[wr.heap.size]? = some (.cells #[.int .i64 s.1, .int .i64 s.2] 23) := (by rw [ew4]; exact heap_alloc_new _ _)
      have HT4 := hide9 hT4
      have HR4 := hide9 (OwnE.below HR.out hb4)
      have HB4 : Hid (Below w1.heap.size w1 w4) := HBr.out.trans (hb4.mono HBr.out.size)
      have k1 : (i : Int) < (L.length : Int) := by omega
      have k0 : (0 : Int) ≤ (i : Int) := by omega
      clear ew4 hb4 hT4 HR es eD hsn hDl hcs hgl
      go_wp2_with (at_builtin; refine Stp.to ?_)
      refine Stp.of ?_
      rw [← Hw4.out]
      clear p0 p1 Hw4
      refine wpList_append_lies w4 rfl _ _ 49 rfl w1.heap.size 23 i0 (.agg #[.int .i64 0, .int .i64 0]) 2 16 Try.underlying49 hin hz0 hz1 hz2 rfl (by decide) (.slice (some ⟨gs, 0, none⟩) i cs) i (flatE stCells D) rfl (by have h9 : w4.ownsRow w1.heap.size 23 2 (.slice (some ⟨gs, 0, none⟩) i cs) D.length (flatE stCells D) := HR4.out; rw [HDl.out] at h9; exact h9) ⟨wr.heap.size, 0, none⟩ 1 1 (stCells s) rfl rfl (World.news_of_block HT4.out) (fun y hy => by simp [stCells] at hy; rcases hy with rfl | rfl <;> rfl) (by decide) (by unfold maxLen; omega) (by omega) HB4.out.size w4.heap.size rfl ?_
      intro g5 c5 w5 hown5 hgr5 hat5 hlt5
      have HB5 : Hid (Below w1.heap.size w1 w5) := HB4.out.trans ((Touch.of_grown (F := fun k => (Value.slice (some ⟨gs, 0, none⟩) i cs).ownBlock = some k) hgr5 (fun k e _ => e)).below (fun k q => (OwnE.lt HR4.out k q).1) HB4.out.size)
      have HR5 : Hid (OwnSt w1.heap.size w5 (.slice (some ⟨g5, 0, none⟩) (i + 1) c5) ((L.take (i + 1)).map kO)) := (by show OwnSt _ _ _ _; rw [Hsn.out]; exact OwnE.snoc rfl (by rw [HDl.out]; exact hown5))
      clear hown5 hgr5 hat5 hlt5 HR4 HB4 HT4
      go_wp2
      go_roundw
      case rel => exact ⟨i + 1, g5, c5, by go_num, by omega, rfl, HR5, HB5⟩
      case measure => simp [intOf]; omega
    · obtain rfl : i = L.length := by omega
      have k1 : ¬ (L.length : Int) < (L.length : Int) := by omega
      have hs := HB1.out.size
      have HF := hide9 HR.out
      rw [List.take_length, HM.out] at HF
      go_wp2
      go_ret
      exact ⟨_, rfl, OwnE.low HF.out hs, HB1.out.trans (HBr.out.mono hs)⟩

set_option maxRecDepth 100000 in
set_option maxHeartbeats 4000000 in
/-- The document's Same of two rows of stamps. -/
theorem sameSt_any (B1 B2 : Nat) (v1 v2 : Value) (D1 D2 : List St) (w : World) (h1 : OwnSt B1 w v1 D1) (h2 : OwnSt B2 w v2 D2) (hl1 : D1.length ≤ 1048576) : Calls Try.prog 27 #[v1, v2] w fun e w' => e = .returned (.bool (decide (D1 = D2))) ∧ Below w.heap.size w w' := by
  obtain ⟨a1, c1, e1⟩ := OwnE.form h1
  obtain ⟨a2, c2, e2⟩ := OwnE.form h2
  subst e1 e2
  have H1 := hide9 h1
  have H2 := hide9 h2
  clear h1 h2
  by_cases hl : D1.length = D2.length
  · rw [← hl]
    have HL := hide9 hl
    clear hl
    have q : ((D1.length : Int) != (D1.length : Int)) = false := by simp
    have H2b : Hid (OwnSt B2 w (.slice a2 D1.length c2) D2) := (by rw [HL.out]; exact H2.out)
    go_enter Try.func27, Try.ntmps27
    go_wp2
    go_loopw [5] (fun iv wr => ∃ i : Nat, i ≤ D1.length ∧ iv = .int .i64 (i : Int) ∧ Hid (D1.take i = D2.take i) ∧ Hid (Below w.heap.size w wr)) (fun iv _ => D1.length - (intOf iv).toNat)
    case atStart => exact ⟨0, Nat.zero_le _, rfl, by (show _ = _; simp), Below.refl _ _⟩
    case round =>
      obtain ⟨i, hi, rfl, HT, HBr⟩ := hrel
      by_cases hlt : i < D1.length
      · have hlt2 : i < D2.length := by have := HL.out; omega
        obtain ⟨g1, cp1, eg1, _, hc1, _⟩ := OwnE.cells stCells_len H1.out hlt
        obtain ⟨g2, cp2, eg2, _, hc2, _⟩ := OwnE.cells stCells_len H2b.out hlt2
        injection eg1 with e1 e8 e9
        injection eg2 with e2 e6 e7
        subst e1 e2
        clear e8 e9 e6 e7
        have hg1 := (OwnE.lt H1.out g1 rfl).2
        have hg2 := (OwnE.lt H2b.out g2 rfl).2
        have hnx : D1[i] = D2[i] → D1.take (i + 1) = D2.take (i + 1) := fun e => take_next hlt hlt2 HT.out e
        have hno : D1[i] ≠ D2[i] → D1 ≠ D2 := fun h e => h (by simp only [e])
        have p0 : wr.cell? ⟨g1, i * 2, none⟩ = some (.int .i64 D1[i].1) := (HBr.out.cell (p := ⟨g1, i * 2, none⟩) hg1).trans (hc1 0 _ rfl)
        have p1 : wr.cell? ⟨g1, i * 2 + 1, none⟩ = some (.int .i64 D1[i].2) := (HBr.out.cell (p := ⟨g1, i * 2 + 1, none⟩) hg1).trans (hc1 1 _ rfl)
        have p2 : wr.cell? ⟨g2, i * 2, none⟩ = some (.int .i64 D2[i].1) := (HBr.out.cell (p := ⟨g2, i * 2, none⟩) hg2).trans (hc2 0 _ rfl)
        have p3 : wr.cell? ⟨g2, i * 2 + 1, none⟩ = some (.int .i64 D2[i].2) := (HBr.out.cell (p := ⟨g2, i * 2 + 1, none⟩) hg2).trans (hc2 1 _ rfl)
        have hs9 := HBr.out.size
        obtain ⟨s, es⟩ : ∃ s, s = D1[i] := ⟨_, rfl⟩
        obtain ⟨u, eu⟩ : ∃ u, u = D2[i] := ⟨_, rfl⟩
        rw [← es] at p0 p1 hnx hno
        rw [← eu] at p2 p3 hnx hno
        have HPs : Hid (g1 < wr.heap.size ∧ wr.cell? ⟨g1, i * 2, none⟩ = some (.int .i64 s.1) ∧ wr.cell? ⟨g1, i * 2 + 1, none⟩ = some (.int .i64 s.2)) := ⟨by omega, p0, p1⟩
        have HPu : Hid (g2 < wr.heap.size ∧ wr.cell? ⟨g2, i * 2, none⟩ = some (.int .i64 u.1) ∧ wr.cell? ⟨g2, i * 2 + 1, none⟩ = some (.int .i64 u.2)) := ⟨by omega, p2, p3⟩
        have HNx := hide9 hnx
        have HNo := hide9 hno
        have k1 : (i : Int) < (D1.length : Int) := by omega
        have k0 : (0 : Int) ≤ (i : Int) := by omega
        clear es eu hnx hno hc1 hc2 hg1 hg2 p0 p1 p2 p3 HT hs9
        go_upto_region 6 with fail
        refine wp_region_held_drew (S := fun W' => Below wr.heap.size wr W') (by kernel_rfl) (Below.refl _ _).drew (fun hHeld => ?_)
        obtain ⟨Us1u0, eW⟩ : ∃ X, X = wr.drew := ⟨_, rfl⟩
        have hb : Below wr.heap.size wr Us1u0 := by rw [eW]; exact (Below.refl _ _).drew
        rw [← eW] at hHeld ⊢
        clear eW hb
        refine tkW 0 (some 17) (v := ?_) ?_ hHeld ?_
        rotate_left
        · (intro ww _; go_simp; try with_reducible rfl)
        refine tkW 1 (some 18) (v := ?_) ?_ hHeld ?_
        rotate_left
        · (intro ww _; go_simp; try with_reducible rfl)
        refine tkW 2 (some 19) (v := ?_) ?_ hHeld ?_
        rotate_left
        · (intro ww hSw; (try dsimp only at hSw); go_simp; try with_reducible rfl)
        refine tkW 3 (some 20) (v := ?_) ?_ hHeld ?_
        rotate_left
        · (intro ww hSw; (try dsimp only at hSw); have c9 : ww.cell? ⟨g1, i * 2, none⟩ = some (.int .i64 s.1) := (hSw.cell (p := ⟨g1, i * 2, none⟩) HPs.out.1).trans HPs.out.2.1; have c8 : ww.cell? ⟨g1, i * 2 + 1, none⟩ = some (.int .i64 s.2) := (hSw.cell (p := ⟨g1, i * 2 + 1, none⟩) HPs.out.1).trans HPs.out.2.2; go_simp; try with_reducible rfl)
        refine tkW 4 (some 21) (v := ?_) ?_ hHeld ?_
        rotate_left
        · (intro ww _; go_simp; try with_reducible rfl)
        refine tkW 5 (some 22) (v := ?_) ?_ hHeld ?_
        rotate_left
        · (intro ww _; go_simp; try with_reducible rfl)
        refine tkW 6 (some 23) (v := ?_) ?_ hHeld ?_
        rotate_left
        · (intro ww hSw; (try dsimp only at hSw); go_simp; try with_reducible rfl)
        refine tkW 7 (some 24) (v := ?_) ?_ hHeld ?_
        rotate_left
        · (intro ww hSw; (try dsimp only at hSw); have c9 : ww.cell? ⟨g2, i * 2, none⟩ = some (.int .i64 u.1) := (hSw.cell (p := ⟨g2, i * 2, none⟩) HPu.out.1).trans HPu.out.2.1; have c8 : ww.cell? ⟨g2, i * 2 + 1, none⟩ = some (.int .i64 u.2) := (hSw.cell (p := ⟨g2, i * 2 + 1, none⟩) HPu.out.1).trans HPu.out.2.2; go_simp; try with_reducible rfl)
        refine tkW 8 (some 25) (v := .bool (!decide ((s.1, s.2) = (u.1, u.2)))) ?_ hHeld ?_
        · (intro ww hSw; (try dsimp only at hSw); have hq : ∀ w, (binOp .neq 23 (.agg #[.int .i64 s.1, .int .i64 s.2]) (.agg #[.int .i64 u.1, .int .i64 u.2])).run Try.prog w = .ok (.bool (!decide ((s.1, s.2) = (u.1, u.2)))) w := fun w => neqSt s.1 s.2 u.1 u.2 w; go_simp; try with_reducible rfl)
        refine wpAnyH_done (by kernel_rfl) ?_ _
        have HB2 := hide9 (HBr.out.trans (hHeld.mono HBr.out.size))
        clear hHeld
        by_cases hsu : s = u
        · have HM := hide9 (HNx.out hsu)
          have q8 : decide ((s.1, s.2) = (u.1, u.2)) = true := decide_eq_true hsu
          rw [q8]
          clear q8 hsu HNx HNo
          have n1 : IntKind.i64.wrap ((i : Int) + 1) = (i : Int) + 1 := by rw [IntKind.wrap_i64]; omega
          go_wp2
          go_roundw
          case rel => exact ⟨i + 1, by omega, by go_num, HM, HB2⟩
          case measure => simp [intOf]; omega
        · have HF := hide9 (HNo.out hsu)
          have q8 : decide ((s.1, s.2) = (u.1, u.2)) = false := decide_eq_false hsu
          rw [q8]
          clear q8 hsu HNx HNo
          go_wp2
          go_ret
          exact ⟨ret_bool (by simp [HF.out]), HB2.out⟩
      · have he : Hid (D1 = D2) := (by have h := HT.out; rw [List.take_of_length_le (by omega), List.take_of_length_le (by have := HL.out; omega)] at h; exact h)
        have k1 : ¬ (i : Int) < (D1.length : Int) := by omega
        go_wp2
        go_ret
        exact ⟨ret_bool (by simp [he.out]), HBr.out⟩
  · have q : ((D1.length : Int) != (D2.length : Int)) = true := (by rw [bne_iff_ne]; omega)
    have hne : Hid (D1 ≠ D2) := fun e => hl (by rw [e])
    clear hl
    go_enter Try.func27, Try.ntmps27
    go_wp2
    go_ret
    exact ⟨ret_bool (by simp [hne.out]), Below.refl _ _⟩

set_option maxRecDepth 100000 in
set_option maxHeartbeats 8000000 in
/-- The document's Find. -/
theorem refFind_any (G : Nat → Prop) (t : VT) (key : St) (v : Value) (w : World) (h : VIs G w v t) (hsz : t.sz ≤ 1048576) : Calls Try.prog 31 #[v, .agg #[.int .i64 key.1, .int .i64 key.2]] w fun e w' => ∃ (x : VT) (av kv : Value), e = .returned (.tuple #[.agg #[.int .i64 x.k.1, .int .i64 x.k.2, .string x.tg, .string x.tx, av, kv], .bool (fndT t key).isSome]) ∧ (fndT t key).getD tZ = x ∧ FdIs (fun k => k < w.heap.size) w' av kv x.at_ x.ks ∧ Below w.heap.size w w' := by
  obtain ⟨aa, ca, ak, ck, e1, fd⟩ := h.form
  subst e1
  obtain ⟨W0, eW⟩ : ∃ X, X = ((w.alloc (.cells #[.int .i64 t.k.1, .int .i64 t.k.2, .string t.tg, .string t.tx, .slice aa t.at_.length ca, .slice ak t.ks.length ck] 27)).alloc (.cells #[.int .i64 key.1, .int .i64 key.2] 23)).alloc (.cells #[.int .i64 0, .int .i64 0, .string ⟨#[]⟩, .string ⟨#[]⟩, .slice none 0 0, .slice none 0 0] 27) := ⟨_, rfl⟩
  have hb0 : Below w.heap.size w W0 := (by rw [eW]; exact (((Below.refl _ _).alloc (Nat.le_refl _) _).alloc (by simp) _).alloc (by simp; omega) _)
  have hT : W0.heap[w.heap.size]? = some (.cells #[.int .i64 t.k.1, .int .i64 t.k.2, .string t.tg, .string t.tx, .slice aa t.at_.length ca, .slice ak t.ks.length ck] 27) := (by rw [eW, Below.heap_alloc _ _ _ (by simp; omega), Below.heap_alloc _ _ _ (by simp)]; exact heap_alloc_new _ _)
  have hK : W0.heap[w.heap.size + 1]? = some (.cells #[.int .i64 key.1, .int .i64 key.2] 23) := (by rw [eW, Below.heap_alloc _ _ _ (by simp)]; have h9 := heap_alloc_new (w.alloc (.cells #[.int .i64 t.k.1, .int .i64 t.k.2, .string t.tg, .string t.tx, .slice aa t.at_.length ca, .slice ak t.ks.length ck] 27)) (.cells #[.int .i64 key.1, .int .i64 key.2] 23); rw [show (w.alloc (.cells #[.int .i64 t.k.1, .int .i64 t.k.2, .string t.tg, .string t.tx, .slice aa t.at_.length ca, .slice ak t.ks.length ck] 27)).heap.size = w.heap.size + 1 by simp] at h9; exact h9)
  have hR : W0.heap[w.heap.size + 2]? = some (.cells #[.int .i64 0, .int .i64 0, .string ⟨#[]⟩, .string ⟨#[]⟩, .slice none 0 0, .slice none 0 0] 27) := (by rw [eW]; have h9 := heap_alloc_new ((w.alloc (.cells #[.int .i64 t.k.1, .int .i64 t.k.2, .string t.tg, .string t.tx, .slice aa t.at_.length ca, .slice ak t.ks.length ck] 27)).alloc (.cells #[.int .i64 key.1, .int .i64 key.2] 23)) (.cells #[.int .i64 0, .int .i64 0, .string ⟨#[]⟩, .string ⟨#[]⟩, .slice none 0 0, .slice none 0 0] 27); rw [show ((w.alloc (.cells #[.int .i64 t.k.1, .int .i64 t.k.2, .string t.tg, .string t.tx, .slice aa t.at_.length ca, .slice ak t.ks.length ck] 27)).alloc (.cells #[.int .i64 key.1, .int .i64 key.2] 23)).heap.size = w.heap.size + 2 by simp] at h9; exact h9)
  have HFd : Hid (FdIs (fun k => k < w.heap.size) W0 (.slice aa t.at_.length ca) (.slice ak t.ks.length ck) t.at_ t.ks) := fd.turn hb0.size fun k _ q => ⟨q, hb0.block k q⟩
  have HB := hide9 hb0
  have HE := hide9 eW
  have HK := hide9 hK
  have HR := hide9 hR
  obtain ⟨y0, y1, y2, y3, y4, y5⟩ := row6 hT
  clear h fd hb0 eW hT hK hR
  go_enter Try.func31, Try.ntmps31
  go_upto_region 1 with fail
  rw [← HE.out]
  go_wp2_with fail
  clear HE y0 y1 y2 y3 y4 y5
  refine (flatN_any w.heap.size t _ _ HB.out.size (VIs.of HFd.out) hsz).mono ?_
  clear HFd
  rintro e w1 ⟨v1, L, rfl, h1, h2, h3, h4⟩
  obtain ⟨a1, c1, e1⟩ := OwnE.form h1
  subst e1
  have hLl : L.length = t.sz := (by rw [← flT_len, ← h2, List.length_map])
  have hL2 : L.length ≤ 1048576 := by omega
  have HL := hide9 h1
  have HM := hide9 h2
  have HFs : Hid (∀ x ∈ L, FdIs (fun k => k < w.heap.size) w1 x.2.1 x.2.2 x.1.at_ x.1.ks) := h3
  have HB1 : Hid (Below w.heap.size w w1) := HB.out.trans (h4.mono HB.out.size)
  replace HK : Hid (w1.heap[w.heap.size + 1]? = some (.cells #[.int .i64 key.1, .int .i64 key.2] 23)) := (h4.block _ (row_lt HK.out)).trans HK.out
  replace HR : Hid (w1.heap[w.heap.size + 2]? = some (.cells #[.int .i64 0, .int .i64 0, .string ⟨#[]⟩, .string ⟨#[]⟩, .slice none 0 0, .slice none 0 0] 27)) := (h4.block _ (row_lt HR.out)).trans HR.out
  clear h1 h2 h3 h4 HB hLl
  obtain ⟨kb, ekb⟩ : ∃ b, b = w.heap.size + 1 := ⟨_, rfl⟩
  obtain ⟨rb, erb⟩ : ∃ b, b = w.heap.size + 2 := ⟨_, rfl⟩
  rw [← ekb] at HK
  rw [← erb] at HR
  have Hrb : Hid (w.heap.size ≤ rb) := (by show _ ≤ _; omega)
  go_wp2
  (try rw [show w.heap.size + 1 + 1 = rb by omega])
  (try rw [← erb])
  (try rw [← ekb])
  clear ekb erb
  go_loopw [7] (fun iv wr => ∃ i : Nat, iv = .int .i64 (i : Int) ∧ i ≤ L.length ∧ Hid ((L.take i).find? (fun x => decide (x.1.k = key)) = none) ∧ Hid (Below w1.heap.size w1 wr)) (fun iv _ => L.length - (intOf iv).toNat)
  case atStart => exact ⟨0, rfl, Nat.zero_le _, by (show _ = _; rfl), Below.refl _ _⟩
  case round =>
    obtain ⟨i, rfl, hil, HT, HBr⟩ := hrel
    have HRr : Hid (wr.heap[rb]? = some (.cells #[.int .i64 0, .int .i64 0, .string ⟨#[]⟩, .string ⟨#[]⟩, .slice none 0 0, .slice none 0 0] 27)) := (HBr.out.block _ (row_lt HR.out)).trans HR.out
    by_cases hlt : i < L.length
    · obtain ⟨g, cap, eg, _, hcs, _⟩ := OwnE.cells vnC_len HL.out hlt
      injection eg with e1 e8 e9
      subst e1
      clear e8 e9
      have hgl := (OwnE.lt HL.out g rfl).2
      have hfx := (HFs.out _ (List.getElem_mem hlt)).below HBr.out
      have hfn : (L.take (i + 1)).find? (fun x => decide (x.1.k = key)) = if L[i].1.k = key then some L[i] else none := (by rw [List.take_succ_eq_append_getElem hlt, List.find?_append, HT.out]; simp only [Option.none_or, List.find?_cons, List.find?_nil]; split <;> simp_all)
      have p0 := (HBr.out.cell (p := ⟨g, i * 6 + 0, none⟩) hgl).trans (hcs 0 _ rfl)
      have p1 := (HBr.out.cell (p := ⟨g, i * 6 + 1, none⟩) hgl).trans (hcs 1 _ rfl)
      have p2 := (HBr.out.cell (p := ⟨g, i * 6 + 2, none⟩) hgl).trans (hcs 2 _ rfl)
      have p3 := (HBr.out.cell (p := ⟨g, i * 6 + 3, none⟩) hgl).trans (hcs 3 _ rfl)
      have p4 := (HBr.out.cell (p := ⟨g, i * 6 + 4, none⟩) hgl).trans (hcs 4 _ rfl)
      have p5 := (HBr.out.cell (p := ⟨g, i * 6 + 5, none⟩) hgl).trans (hcs 5 _ rfl)
      obtain ⟨y, ey⟩ : ∃ y, y = L[i] := ⟨_, rfl⟩
      rw [← ey] at hfx hfn p0 p1 p2 p3 p4 p5
      obtain ⟨x, xv, xkv⟩ := y
      obtain ⟨xa, cx, e1⟩ := hfx.at_.form
      obtain ⟨xk, dx, e2⟩ := hfx.ks.form
      dsimp only at e1 e2 hfn
      subst e1 e2
      have HXf : Hid (FdIs (fun k => k < w.heap.size) wr (.slice xa x.at_.length cx) (.slice xk x.ks.length dx) x.at_ x.ks) := hfx
      have HXc : Hid (g < wr.heap.size ∧ wr.cell? ⟨g, i * 6, none⟩ = some (.int .i64 x.k.1) ∧ wr.cell? ⟨g, i * 6 + 1, none⟩ = some (.int .i64 x.k.2) ∧ wr.cell? ⟨g, i * 6 + 2, none⟩ = some (.string x.tg) ∧ wr.cell? ⟨g, i * 6 + 3, none⟩ = some (.string x.tx) ∧ wr.cell? ⟨g, i * 6 + 4, none⟩ = some (.slice xa x.at_.length cx) ∧ wr.cell? ⟨g, i * 6 + 5, none⟩ = some (.slice xk x.ks.length dx)) := ⟨Nat.lt_of_lt_of_le hgl HBr.out.size, p0, p1, p2, p3, p4, p5⟩
      have HKr : Hid (kb < wr.heap.size ∧ wr.cell? ⟨kb, 0, none⟩ = some (.int .i64 key.1) ∧ wr.cell? ⟨kb, 1, none⟩ = some (.int .i64 key.2)) := (by have h9 := (HBr.out.block _ (row_lt HK.out)).trans HK.out; exact ⟨row_lt h9, by rw [cell_of_row _ _ _ _ _ _ h9]; rfl, by rw [cell_of_row _ _ _ _ _ _ h9]; rfl⟩)
      have HFn := hide9 hfn
      have k1 : (i : Int) < (L.length : Int) := by omega
      have k0 : (0 : Int) ≤ (i : Int) := by omega
      clear ey hfx hfn hcs hgl p0 p1 p2 p3 p4 p5 HT
      go_upto_region 5 with fail
      refine wp_region_held_drew (S := fun W' => Below wr.heap.size wr W') (by kernel_rfl) (Below.refl _ _).drew (fun hHeld => ?_)
      obtain ⟨Uf2u0, eW⟩ : ∃ X, X = wr.drew := ⟨_, rfl⟩
      have hb : Below wr.heap.size wr Uf2u0 := by rw [eW]; exact (Below.refl _ _).drew
      rw [← eW] at hHeld ⊢
      clear eW hb
      refine tkW 0 (some 16) (v := ?_) ?_ hHeld ?_
      rotate_left
      · (intro ww _; go_simp; try with_reducible rfl)
      refine tkW 1 (some 17) (v := ?_) ?_ hHeld ?_
      rotate_left
      · (intro ww _; go_simp; try with_reducible rfl)
      refine tkW 2 (some 18) (v := ?_) ?_ hHeld ?_
      rotate_left
      · (intro ww hSw; (try dsimp only at hSw); go_simp; try with_reducible rfl)
      refine tkW 3 (some 19) (v := ?_) ?_ hHeld ?_
      rotate_left
      · (intro ww _; go_simp; try with_reducible rfl)
      refine tkW 4 (some 20) (v := ?_) ?_ hHeld ?_
      rotate_left
      · (intro ww hSw; (try dsimp only at hSw); obtain ⟨c9, c8⟩ := ckCells hSw HXc.out; go_simp; try with_reducible rfl)
      refine tkW 5 (some 21) (v := ?_) ?_ hHeld ?_
      rotate_left
      · (intro ww hSw; (try dsimp only at hSw); have c9 : ww.cell? ⟨kb, 0, none⟩ = some (.int .i64 key.1) := (hSw.cell (p := ⟨kb, 0, none⟩) HKr.out.1).trans HKr.out.2.1; have c8 : ww.cell? ⟨kb, 1, none⟩ = some (.int .i64 key.2) := (hSw.cell (p := ⟨kb, 1, none⟩) HKr.out.1).trans HKr.out.2.2; go_simp; try with_reducible rfl)
      refine tkW 6 (some 22) (v := .bool (decide ((x.k.1, x.k.2) = (key.1, key.2)))) ?_ hHeld ?_
      · (intro ww hSw; (try dsimp only at hSw); go_simp; by_cases e1 : x.k.1 = key.1 <;> by_cases e2 : x.k.2 = key.2 <;> simp [e1, e2])
      refine wpAnyH_done (by kernel_rfl) ?_ _
      obtain ⟨U, eU⟩ : ∃ X, X = Uf2u0 := ⟨_, rfl⟩
      rw [← eU] at hHeld ⊢
      clear eU
      have HB2 := hide9 (HBr.out.trans (hHeld.mono HBr.out.size))
      by_cases hky : x.k = key
      · have hfd : fndT t key = some x := (by have h9 := HFn.out; rw [if_pos hky] at h9; have h8 : L.find? (fun x => decide (x.1.k = key)) = some (x, .slice xa x.at_.length cx, .slice xk x.ks.length dx) := (by rw [← List.take_append_drop (i + 1) L, List.find?_append, h9]; rfl); unfold fndT; rw [← HM.out, List.find?_map]; show Option.map _ (L.find? _) = _; rw [show (L.find? ((fun x => decide (x.k = key)) ∘ Prod.fst)) = _ from h8]; rfl)
        have HFd := hide9 hfd
        have q8 : decide ((x.k.1, x.k.2) = (key.1, key.2)) = true := decide_eq_true hky
        rw [q8]
        clear q8 hky hfd
        obtain ⟨y0, y1, y2, y3, y4, y5⟩ := ckCells6 hHeld HXc.out
        have HRu : Hid (U.heap[rb]? = some (.cells #[.int .i64 0, .int .i64 0, .string ⟨#[]⟩, .string ⟨#[]⟩, .slice none 0 0, .slice none 0 0] 27)) := (hHeld.block _ (row_lt HRr.out)).trans HRr.out
        have HXu := hide9 (HXf.out.below hHeld)
        have HHe := hide9 hHeld
        clear hHeld
        go_wp2_with (refine wpList_store_row rfl 27 (.tmp 4) (.tmp 26) rfl rb 27 #[.int .i64 0, .int .i64 0, .string ⟨#[]⟩, .string ⟨#[]⟩, .slice none 0 0, .slice none 0 0] #[.int .i64 x.k.1, .int .i64 x.k.2, .string x.tg, .string x.tx, .slice xa x.at_.length cx, .slice xk x.ks.length dx] rfl rfl HRu.out sizeVF rfl (by simp [Value.oneCell']) ?_)
        have hw9 : Below wr.heap.size wr U := HHe.out
        have hs2 := HB1.out.size
        have hT9 : Below w.heap.size w (U.setRow rb #[.int .i64 x.k.1, .int .i64 x.k.2, .string x.tg, .string x.tx, .slice xa x.at_.length cx, .slice xk x.ks.length dx]) := ((HB1.out.trans (HB2.out.mono hs2))).grown (grown_setRow _ _ _) (HB1.out.trans (HB2.out.mono hs2)).size (fun k e => by cases e; exact Hrb.out)
        refine bodyPost_ret (v := .tuple #[.agg #[.int .i64 x.k.1, .int .i64 x.k.2, .string x.tg, .string x.tx, .slice xa x.at_.length cx, .slice xk x.ks.length dx], .bool true]) ?res0 rfl ?post0
        case res0 => exact Eq.trans (results_cell_tmp9 (p := 4) (u := 5) rfl _ _ rb _ rfl (loadVN _ _ _ _ _ _ _ _ (setRow_same HRu.out))) rfl
        exact ⟨x, _, _, by rw [HFd.out]; rfl, by rw [HFd.out]; rfl, HXu.out.turn (by simp) fun k q hk => ⟨q, setRow_other _ _ _ _ (by have := Hrb.out; omega)⟩, hT9⟩
      · have HT2 : Hid ((L.take (i + 1)).find? (fun x => decide (x.1.k = key)) = none) := HFn.out.trans (if_neg hky)
        have q8 : decide ((x.k.1, x.k.2) = (key.1, key.2)) = false := decide_eq_false hky
        rw [q8]
        clear q8 hky hHeld
        have n1 : IntKind.i64.wrap ((i : Int) + 1) = (i : Int) + 1 := by rw [IntKind.wrap_i64]; omega
        go_wp2
        go_roundw
        case rel => exact ⟨i + 1, by go_num, by omega, HT2, HB2⟩
        case measure => simp [intOf]; omega
    · obtain rfl : i = L.length := by omega
      have k1 : ¬ (L.length : Int) < (L.length : Int) := by omega
      have HFd : Hid (fndT t key = none) := (by have h9 := HT.out; rw [List.take_length] at h9; show _ = _; unfold fndT; rw [← HM.out, List.find?_map]; show Option.map _ (L.find? _) = _; rw [show (L.find? ((fun x => decide (x.k = key)) ∘ Prod.fst)) = _ from h9]; rfl)
      have hs2 := HB1.out.size
      clear HT
      go_wp2_with (refine wpList_store_row rfl 27 (.tmp 4) (.tmp 27) rfl rb 27 #[.int .i64 0, .int .i64 0, .string ⟨#[]⟩, .string ⟨#[]⟩, .slice none 0 0, .slice none 0 0] #[.int .i64 0, .int .i64 0, .string ⟨#[]⟩, .string ⟨#[]⟩, .slice none 0 0, .slice none 0 0] rfl rfl HRr.out sizeVF rfl (by simp [Value.oneCell']) ?_)
      have hT9 : Below w.heap.size w (wr.setRow rb #[.int .i64 0, .int .i64 0, .string ⟨#[]⟩, .string ⟨#[]⟩, .slice none 0 0, .slice none 0 0]) := ((HB1.out.trans (HBr.out.mono hs2))).grown (grown_setRow _ _ _) (HB1.out.trans (HBr.out.mono hs2)).size (fun k e => by cases e; exact Hrb.out)
      refine bodyPost_ret (v := .tuple #[.agg #[.int .i64 0, .int .i64 0, .string ⟨#[]⟩, .string ⟨#[]⟩, .slice none 0 0, .slice none 0 0], .bool false]) ?res1 rfl ?post1
      case res1 => exact Eq.trans (results_cell_tmp9 (p := 4) (u := 5) rfl _ _ rb _ rfl (loadVN _ _ _ _ _ _ _ _ (setRow_same HRr.out))) rfl
      exact ⟨tZ, _, _, by rw [HFd.out]; rfl, by rw [HFd.out]; rfl, fdNil _ _, hT9⟩

end Go.Proofs.Ytnanlmmmppcipaa
