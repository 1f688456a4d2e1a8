/- The document's Parent. -/
import Derived.Test.YtnanlmmmppcipaaVtKg
import Derived.WalkSmall
namespace Go.Proofs.Ytnanlmmmppcipaa
open Go.RowKit Go.Shelf
set_option linter.unusedVariables false
set_option linter.unusedSimpArgs false

theorem sizeSH : (Try.prog.info? 23).map (·.size) = some 2 := by kernel_rfl
/-- What the way down says of the ones ahead. -/
def Stk (X : List (Nat × VT)) (j : Nat) (S : List St) : Prop := ∀ m (hm : m < S.length), ∃ k, ∃ hk : k < X.length, k < j ∧ X[k].1 = m ∧ X[k].2.k = S[m] ∧ ∀ l (hl : l < X.length), k < l → l < j → m < X[l].1
theorem stk_any {X : List (Nat × VT)} {key : St} (hp : PreD 0 X) : ∀ (j : Nat), j ≤ X.length → (X.take j).find? (fun x => decide (x.2.k = key)) = none → ∃ S, parR [] X key = parR S (X.drop j) key ∧ PreD S.length (X.drop j) ∧ Stk X j S
  | 0, _, _ => ⟨[], rfl, hp, fun m hm => absurd hm (Nat.not_lt_zero _)⟩
  | j + 1, hj, hf => by
    have hjl : j < X.length := hj
    rw [List.take_succ_eq_append_getElem hjl, List.find?_append] at hf
    have hf1 : (X.take j).find? (fun x => decide (x.2.k = key)) = none := by
      cases h : (X.take j).find? (fun x => decide (x.2.k = key)) with
      | none => rfl
      | some y => rw [h] at hf; cases hf
    rw [hf1] at hf
    have hne : X[j].2.k ≠ key := fun e => by simp [e] at hf
    obtain ⟨S, h1, h2, h3⟩ := stk_any hp j (by omega) hf1
    rw [List.drop_eq_getElem_cons hjl] at h1 h2
    rw [parR, if_neg hne] at h1
    have hd : X[j].1 ≤ S.length := h2.1
    have hl : (S.take X[j].1 ++ [X[j].2.k]).length = X[j].1 + 1 := by simp; omega
    refine ⟨S.take X[j].1 ++ [X[j].2.k], h1, by rw [hl]; exact h2.2, fun m hm => ?_⟩
    rw [hl] at hm
    rcases Nat.lt_or_ge m X[j].1 with hlt | hge
    · obtain ⟨k, hk, k1, k2, k3, k4⟩ := h3 m (by omega)
      refine ⟨k, hk, by omega, k2, ?_, fun l hl2 a1 a2 => ?_⟩
      · rw [k3, List.getElem_append_left (by rw [List.length_take]; omega), List.getElem_take]
      · rcases Nat.lt_or_ge l j with b1 | b1
        · exact k4 l hl2 a1 b1
        · obtain rfl : l = j := by omega
          exact hlt
    · obtain rfl : m = X[j].1 := by omega
      refine ⟨j, hjl, by omega, rfl, ?_, fun l hl2 a1 a2 => by omega⟩
      rw [List.getElem_append_right (by rw [List.length_take]; omega)]
      simp
theorem par_at {X : List (Nat × VT)} {key : St} (hp : PreD 0 X) {i : Nat} (hi : i < X.length) (hf : (X.take i).find? (fun x => decide (x.2.k = key)) = none) (hk : X[i].2.k = key) : ∃ S, parR [] X key = lastS (S.take X[i].1) ∧ X[i].1 ≤ S.length ∧ Stk X i S := by
  obtain ⟨S, h1, h2, h3⟩ := stk_any hp i (by omega) hf
  rw [List.drop_eq_getElem_cons hi] at h1 h2
  rw [parR, if_pos hk] at h1
  exact ⟨S, h1, h2.1, h3⟩
theorem par_some {X : List (Nat × VT)} {key : St} (hp : PreD 0 X) {i k : Nat} (hi : i < X.length) (hf : (X.take i).find? (fun x => decide (x.2.k = key)) = none) (hk : X[i].2.k = key) (hki : k < i) (hd : X[k].1 + 1 = X[i].1) (hno : ∀ j (hj : j < X.length), k < j → j < i → X[j].1 + 1 ≠ X[i].1) : parR [] X key = (X[k].2.k, true) := by
  obtain ⟨S, h1, h2, h3⟩ := par_at hp hi hf hk
  obtain ⟨k0, hk0, a1, a2, a3, a4⟩ := h3 X[k].1 (by omega)
  have e : k0 = k := by
    rcases Nat.lt_trichotomy k0 k with h | h | h
    · have := a4 k (by omega) h hki; omega
    · exact h
    · exact absurd (by omega) (hno k0 hk0 h a1)
  subst e
  have hl : (S.take X[i].1).length = X[k0].1 + 1 := by rw [List.length_take]; omega
  rw [h1, lastS_pos hl, List.getElem_take, a3]
theorem par_none {X : List (Nat × VT)} {key : St} (hp : PreD 0 X) {i : Nat} (hi : i < X.length) (hf : (X.take i).find? (fun x => decide (x.2.k = key)) = none) (hk : X[i].2.k = key) (hno : ∀ j (hj : j < X.length), j < i → X[j].1 + 1 ≠ X[i].1) : parR [] X key = ((0, 0), false) := by
  obtain ⟨S, h1, h2, h3⟩ := par_at hp hi hf hk
  rcases Nat.eq_zero_or_pos X[i].1 with h0 | h0
  · rw [h1, h0]; rfl
  · obtain ⟨k0, hk0, a1, a2, _, _⟩ := h3 (X[i].1 - 1) (by omega)
    exact absurd (by omega) (hno k0 hk0 a1)
theorem par_no {X : List (Nat × VT)} {key : St} (hp : PreD 0 X) (hf : X.find? (fun x => decide (x.2.k = key)) = none) : parR [] X key = ((0, 0), false) := by
  obtain ⟨S, h1, _, _⟩ := stk_any hp X.length (Nat.le_refl _) (by rw [List.take_length]; exact hf)
  rw [h1, List.drop_length]; rfl

set_option maxRecDepth 100000 in
set_option maxHeartbeats 8000000 in
/-- The document's Parent. -/
theorem refParent_any (G : Nat → Prop) (t : VT) (key : St) (v : Value) (w : World) (h : VIs G w v t) (hsz : t.sz ≤ 1048576) : Calls Try.prog 33 #[v, .agg #[.int .i64 key.1, .int .i64 key.2]] w fun e w' => e = .returned (.tuple #[.agg #[.int .i64 (parR [] (flatD t 0) key).1.1, .int .i64 (parR [] (flatD t 0) key).1.2], .bool (parR [] (flatD t 0) key).2]) ∧ Below w.heap.size w w' := by
  obtain ⟨aa, ca, ak, ck, e1, fd⟩ := h.form
  subst e1
  obtain ⟨W0, eW⟩ : ∃ X, X = ((w.alloc (.cells #[.int .i64 t.k.1, .int .i64 t.k.2, .string t.tg, .string t.tx, .slice aa t.at_.length ca, .slice ak t.ks.length ck] 27)).alloc (.cells #[.int .i64 key.1, .int .i64 key.2] 23)).alloc (.cells #[.int .i64 0, .int .i64 0] 23) := ⟨_, rfl⟩
  have hb0 : Below w.heap.size w W0 := (by rw [eW]; exact (((Below.refl _ _).alloc (Nat.le_refl _) _).alloc (by simp) _).alloc (by simp; omega) _)
  have hT : W0.heap[w.heap.size]? = some (.cells #[.int .i64 t.k.1, .int .i64 t.k.2, .string t.tg, .string t.tx, .slice aa t.at_.length ca, .slice ak t.ks.length ck] 27) := (by rw [eW, Below.heap_alloc _ _ _ (by simp; omega), Below.heap_alloc _ _ _ (by simp)]; exact heap_alloc_new _ _)
  have hK : W0.heap[w.heap.size + 1]? = some (.cells #[.int .i64 key.1, .int .i64 key.2] 23) := (by rw [eW, Below.heap_alloc _ _ _ (by simp)]; have h9 := heap_alloc_new (w.alloc (.cells #[.int .i64 t.k.1, .int .i64 t.k.2, .string t.tg, .string t.tx, .slice aa t.at_.length ca, .slice ak t.ks.length ck] 27)) (.cells #[.int .i64 key.1, .int .i64 key.2] 23); rw [show (w.alloc (.cells #[.int .i64 t.k.1, .int .i64 t.k.2, .string t.tg, .string t.tx, .slice aa t.at_.length ca, .slice ak t.ks.length ck] 27)).heap.size = w.heap.size + 1 by simp] at h9; exact h9)
  have hR : W0.heap[w.heap.size + 2]? = some (.cells #[.int .i64 0, .int .i64 0] 23) := (by rw [eW]; have h9 := heap_alloc_new ((w.alloc (.cells #[.int .i64 t.k.1, .int .i64 t.k.2, .string t.tg, .string t.tx, .slice aa t.at_.length ca, .slice ak t.ks.length ck] 27)).alloc (.cells #[.int .i64 key.1, .int .i64 key.2] 23)) (.cells #[.int .i64 0, .int .i64 0] 23); rw [show ((w.alloc (.cells #[.int .i64 t.k.1, .int .i64 t.k.2, .string t.tg, .string t.tx, .slice aa t.at_.length ca, .slice ak t.ks.length ck] 27)).alloc (.cells #[.int .i64 key.1, .int .i64 key.2] 23)).heap.size = w.heap.size + 2 by simp] at h9; exact h9)
  have HFd := hide9 (fd.below hb0)
  have HB := hide9 hb0
  have HE := hide9 eW
  have HT := hide9 hT
  have HK := hide9 hK
  have HR := hide9 hR
  obtain ⟨y0, y1, y2, y3, y4, y5⟩ := row6 hT
  clear h fd hb0 eW hT hK hR
  obtain ⟨X, eX⟩ : ∃ X, X = flatD t 0 := ⟨_, rfl⟩
  rw [← eX]
  have HeX := hide9 eX
  clear eX
  go_enter Try.func33, Try.ntmps33
  go_upto_region 1 with fail
  rw [← HE.out]
  go_wp2_with fail
  clear HE y0 y1 y2 y3 y4 y5
  refine (flatF_any G t _ _ (VIs.of HFd.out) hsz).mono ?_
  rintro e w0 ⟨v1, L, rfl, h1, h2, _, h4⟩
  obtain ⟨a1, c1, e1⟩ := OwnE.form h1
  subst e1
  have HLl : Hid (L.length = t.sz) := (by show _ = _; rw [← flT_len, ← h2, List.length_map])
  have HM := hide9 h2
  have HL0 := hide9 h1
  replace HT : Hid (w0.heap[w.heap.size]? = some (.cells #[.int .i64 t.k.1, .int .i64 t.k.2, .string t.tg, .string t.tx, .slice aa t.at_.length ca, .slice ak t.ks.length ck] 27)) := (h4.block _ (row_lt HT.out)).trans HT.out
  replace HK : Hid (w0.heap[w.heap.size + 1]? = some (.cells #[.int .i64 key.1, .int .i64 key.2] 23)) := (h4.block _ (row_lt HK.out)).trans HK.out
  replace HR : Hid (w0.heap[w.heap.size + 2]? = some (.cells #[.int .i64 0, .int .i64 0] 23)) := (h4.block _ (row_lt HR.out)).trans HR.out
  replace HFd := hide9 (HFd.out.below h4)
  replace HB := hide9 (HB.out.trans (h4.mono HB.out.size))
  clear h1 h2 h4
  obtain ⟨y0, y1, y2, y3, y4, y5⟩ := row6 HT.out
  go_wp2_with fail
  clear y0 y1 y2 y3 y4 y5
  refine (deepsF_any G t _ _ (VIs.of HFd.out) hsz).mono ?_
  rintro e w1 ⟨v2, rfl, h1, h4⟩
  obtain ⟨a2, c2, e2⟩ := OwnE.form h1
  have hDl := dpL_len t 0
  rw [hDl] at e2
  subst e2
  have HD := hide9 h1
  have HL := hide9 (OwnE.below HL0.out h4)
  replace HK : Hid (w1.heap[w.heap.size + 1]? = some (.cells #[.int .i64 key.1, .int .i64 key.2] 23)) := (h4.block _ (row_lt HK.out)).trans HK.out
  replace HR : Hid (w1.heap[w.heap.size + 2]? = some (.cells #[.int .i64 0, .int .i64 0] 23)) := (h4.block _ (row_lt HR.out)).trans HR.out
  have HB1 := hide9 (HB.out.trans (h4.mono HB.out.size))
  clear h1 h4 HL0 HFd HT HB
  skip
  have hXl : X.length = t.sz := (by rw [HeX.out]; have h9 := dpL_len t 0; unfold dpL at h9; rw [List.length_map] at h9; exact h9)
  have HXd : Hid (dpL t 0 = X.map Prod.fst) := (by rw [HeX.out]; exact (rfl : _ = _))
  have HXk : Hid (L.map Prod.fst = X.map Prod.snd) := (by show _ = _; rw [HM.out, HeX.out, flatD_snd])
  have HPr : Hid (PreD 0 X) := (by rw [HeX.out]; exact preD t)
  have HXl := hide9 hXl
  have HDl := hide9 hDl
  have hL2 : L.length ≤ 1048576 := by have := HLl.out; omega
  clear hXl hDl HM
  obtain ⟨kb, ekb⟩ : ∃ b, b = w.heap.size + 1 := ⟨_, rfl⟩
  obtain ⟨rb, erb⟩ : ∃ b, b = w.heap.size + 2 := ⟨_, rfl⟩
  rw [← ekb] at HK
  rw [← erb] at HR
  have Hrb : Hid (w.heap.size ≤ rb) := (by show _ ≤ _; omega)
  go_wp2
  (try rw [show w.heap.size + 1 + 1 = rb by omega])
  (try rw [← erb])
  (try rw [← ekb])
  clear ekb erb
  go_loopw [8] (fun iv wr => ∃ i : Nat, iv = .int .i64 (i : Int) ∧ i ≤ L.length ∧ Hid ((X.take i).find? (fun x => decide (x.2.k = key)) = none) ∧ Hid (Below w1.heap.size w1 wr)) (fun iv _ => L.length - (intOf iv).toNat)
  case atStart => exact ⟨0, rfl, Nat.zero_le _, by (show _ = _; rfl), Below.refl _ _⟩
  case round =>
    obtain ⟨i, rfl, hil, HT, HBr⟩ := hrel
    by_cases hlt : i < L.length
    · have hiX : i < X.length := by rw [HXl.out, ← HLl.out]; exact hlt
      obtain ⟨g, cap, eg, _, hcs, _⟩ := OwnE.cells vnC_len HL.out hlt
      injection eg with e1 e8 e9
      subst e1
      clear e8 e9
      have hgl := (OwnE.lt HL.out g rfl).2
      have hxk : L[i].1 = X[i].2 := (by have h9 := congrArg (fun l => l[i]?) HXk.out; simp only [List.getElem?_map, List.getElem?_eq_getElem hlt, List.getElem?_eq_getElem hiX] at h9; exact Option.some.inj h9)
      have p0 : wr.cell? ⟨g, i * 6, none⟩ = some (.int .i64 X[i].2.k.1) := (HBr.out.cell (p := ⟨g, i * 6, none⟩) hgl).trans (by rw [← hxk]; exact hcs 0 _ rfl)
      have p1 : wr.cell? ⟨g, i * 6 + 1, none⟩ = some (.int .i64 X[i].2.k.2) := (HBr.out.cell (p := ⟨g, i * 6 + 1, none⟩) hgl).trans (by rw [← hxk]; exact hcs 1 _ rfl)
      have hfn : (X.take (i + 1)).find? (fun x => decide (x.2.k = key)) = if X[i].2.k = key then some X[i] else none := (by rw [List.take_succ_eq_append_getElem hiX, List.find?_append, HT.out]; simp only [Option.none_or, List.find?_cons, List.find?_nil]; split <;> simp_all)
      obtain ⟨s, es⟩ : ∃ s, s = X[i].2.k := ⟨_, rfl⟩
      rw [← es] at p0 p1 hfn
      have hgw : g < wr.heap.size := Nat.lt_of_lt_of_le hgl HBr.out.size
      have HXc : Hid (g < wr.heap.size ∧ wr.cell? ⟨g, i * 6, none⟩ = some (.int .i64 s.1) ∧ wr.cell? ⟨g, i * 6 + 1, none⟩ = some (.int .i64 s.2) ∧ True) := ⟨hgw, p0, p1, trivial⟩
      have HKr : Hid (kb < wr.heap.size ∧ wr.cell? ⟨kb, 0, none⟩ = some (.int .i64 key.1) ∧ wr.cell? ⟨kb, 1, none⟩ = some (.int .i64 key.2)) := (by have h9 := (HBr.out.block _ (row_lt HK.out)).trans HK.out; exact ⟨row_lt h9, by rw [cell_of_row _ _ _ _ _ _ h9]; rfl, by rw [cell_of_row _ _ _ _ _ _ h9]; rfl⟩)
      have HFn := hide9 hfn
      have Hes : Hid (X[i].2.k = s) := es.symm
      have HgL : Hid (g < w1.heap.size) := hgl
      have k1 : (i : Int) < (L.length : Int) := by omega
      have k0 : (0 : Int) ≤ (i : Int) := by omega
      clear hfn hcs hgl p0 p1 es hxk hgw
      go_upto_region 6 with fail
      refine wp_region_held_drew (S := fun W' => Below wr.heap.size wr W') (by kernel_rfl) (Below.refl _ _).drew (fun hHeld => ?_)
      obtain ⟨Uf1u0, eW⟩ : ∃ X, X = wr.drew := ⟨_, rfl⟩
      have hb : Below wr.heap.size wr Uf1u0 := by rw [eW]; exact (Below.refl _ _).drew
      rw [← eW] at hHeld ⊢
      clear eW hb
      refine tkW 0 (some 20) (v := ?_) ?_ hHeld ?_
      rotate_left
      · (intro ww _; go_simp; try with_reducible rfl)
      refine tkW 1 (some 21) (v := ?_) ?_ hHeld ?_
      rotate_left
      · (intro ww _; go_simp; try with_reducible rfl)
      refine tkW 2 (some 22) (v := ?_) ?_ hHeld ?_
      rotate_left
      · (intro ww hSw; (try dsimp only at hSw); go_simp; try with_reducible rfl)
      refine tkW 3 (some 23) (v := ?_) ?_ hHeld ?_
      rotate_left
      · (intro ww _; go_simp; try with_reducible rfl)
      refine tkW 4 (some 24) (v := ?_) ?_ hHeld ?_
      rotate_left
      · (intro ww hSw; (try dsimp only at hSw); obtain ⟨c9, c8⟩ := ckCells hSw HXc.out; go_simp; try with_reducible rfl)
      refine tkW 5 (some 25) (v := ?_) ?_ hHeld ?_
      rotate_left
      · (intro ww hSw; (try dsimp only at hSw); have c9 : ww.cell? ⟨kb, 0, none⟩ = some (.int .i64 key.1) := (hSw.cell (p := ⟨kb, 0, none⟩) HKr.out.1).trans HKr.out.2.1; have c8 : ww.cell? ⟨kb, 1, none⟩ = some (.int .i64 key.2) := (hSw.cell (p := ⟨kb, 1, none⟩) HKr.out.1).trans HKr.out.2.2; go_simp; try with_reducible rfl)
      refine tkW 6 (some 26) (v := .bool (!decide ((s.1, s.2) = (key.1, key.2)))) ?_ hHeld ?_
      · (intro ww hSw; (try dsimp only at hSw); have hq : ∀ w, (binOp .neq 23 (.agg #[.int .i64 s.1, .int .i64 s.2]) (.agg #[.int .i64 key.1, .int .i64 key.2])).run Try.prog w = .ok (.bool (!decide ((s.1, s.2) = (key.1, key.2)))) w := fun w => neqSt s.1 s.2 key.1 key.2 w; go_simp; try with_reducible rfl)
      refine wpAnyH_done (by kernel_rfl) ?_ _
      obtain ⟨U, eU⟩ : ∃ X, X = Uf1u0 := ⟨_, rfl⟩
      rw [← eU] at hHeld ⊢
      clear eU
      have HB2 := hide9 (HBr.out.trans (hHeld.mono HBr.out.size))
      clear hHeld HXc HKr HBr
      by_cases hky : s = key
      · have q8 : decide ((s.1, s.2) = (key.1, key.2)) = true := decide_eq_true hky
        have Hky : Hid (X[i].2.k = key) := Hes.out.trans hky
        rw [q8, show (!true) = false from rfl]
        clear q8 hky Hes HFn
        have m1 : IntKind.i64.wrap ((i : Int) - 1) = (i : Int) - 1 := by rw [IntKind.wrap_i64]; omega
        go_wp2
        go_loopw [9] (fun kv wr => ∃ k : Nat, k ≤ i ∧ kv = .int .i64 ((k : Int) - 1) ∧ Hid (∀ j (hj : j < X.length), k ≤ j → j < i → X[j].1 + 1 ≠ X[i].1) ∧ Hid (Below w1.heap.size w1 wr)) (fun kv _ => (intOf kv + 1).toNat)
        case atStart => exact ⟨i, Nat.le_refl _, rfl, fun j _ a b => by omega, HB2⟩
        case round =>
          obtain ⟨k, hk, rfl, HNo, HB3⟩ := hrel
          cases k with
          | zero =>
            have z1 : ¬ (0 : Int) ≤ ((0 : Nat) : Int) - 1 := by omega
            have z2 : ((0 : Nat) : Int) - 1 = -1 := by omega
            have HF : Hid (parR [] X key = ((0, 0), false)) := par_none HPr.out hiX HT.out Hky.out (fun j hj a => HNo.out j hj (Nat.zero_le _) a)
            have HRz : Hid (wr.heap[rb]? = some (.cells #[.int .i64 0, .int .i64 0] 23)) := (HB3.out.block _ (row_lt HR.out)).trans HR.out
            go_wp2_with (refine wpList_store_row rfl 23 (.tmp 4) (.tmp 48) rfl rb 23 #[.int .i64 0, .int .i64 0] #[.int .i64 0, .int .i64 0] rfl rfl HRz.out sizeSH rfl (by simp [Value.oneCell']) ?_)
            have hT9 : Below w.heap.size w (wr.setRow rb #[.int .i64 0, .int .i64 0]) := (HB1.out.trans (HB3.out.mono HB1.out.size)).grown (grown_setRow _ _ _) (HB1.out.trans (HB3.out.mono HB1.out.size)).size (fun k e => by cases e; exact Hrb.out)
            refine bodyPost_ret (v := .tuple #[.agg #[.int .i64 0, .int .i64 0], .bool false]) ?res48 rfl ?post48
            case res48 => exact Eq.trans (results_cell_tmp9 (p := 4) (u := 5) rfl _ _ rb _ rfl (loadST _ _ _ _ (setRow_same HRz.out))) rfl
            exact ⟨by rw [HF.out], hT9⟩
          | succ k =>
            have e1 : ((k + 1 : Nat) : Int) - 1 = (k : Int) := by omega
            rw [e1]
            have hkL : k < L.length := by omega
            have hkX : k < X.length := by omega
            have hkD : k < (dpL t 0).length := by rw [HDl.out, ← HXl.out]; exact hkX
            have hiD : i < (dpL t 0).length := by rw [HDl.out, ← HXl.out]; exact hiX
            obtain ⟨gd, cpd, egd, _, hcd, _⟩ := OwnE.cells ntC_len HD.out hkD
            obtain ⟨gd2, cpd2, egd2, _, hcd2, _⟩ := OwnE.cells ntC_len HD.out hiD
            injection egd with d1 d2 d3
            injection egd2 with d4 d5 d6
            rw [d1] at d4
            injection d4 with d4
            injection d4 with d4
            subst d1 d4
            clear d2 d3 d5 d6
            have hgd := (OwnE.lt HD.out gd rfl).2
            have f0 : wr.cell? ⟨gd, k, none⟩ = some (.int .i64 (X[k].1 : Int)) := (HB3.out.cell (p := ⟨gd, k, none⟩) hgd).trans (by have h9 := hcd 0 _ rfl; rw [Nat.mul_one] at h9; simp only [HXd.out, List.getElem_map] at h9; exact h9)
            have f1 : wr.cell? ⟨gd, i, none⟩ = some (.int .i64 (X[i].1 : Int)) := (HB3.out.cell (p := ⟨gd, i, none⟩) hgd).trans (by have h9 := hcd2 0 _ rfl; rw [Nat.mul_one] at h9; simp only [HXd.out, List.getElem_map] at h9; exact h9)
            obtain ⟨g9, cp9, eg9, _, hc9, _⟩ := OwnE.cells vnC_len HL.out hkL
            injection eg9 with d1 d2 d3
            injection d1 with d1
            injection d1 with d1
            subst d1
            clear d2 d3
            have hxk9 : L[k].1 = X[k].2 := (by have h9 := congrArg (fun l => l[k]?) HXk.out; simp only [List.getElem?_map, List.getElem?_eq_getElem hkL, List.getElem?_eq_getElem hkX] at h9; exact Option.some.inj h9)
            have p0 : ∀ n, (wr.drewN n).cell? ⟨g, k * 6, none⟩ = some (.int .i64 X[k].2.k.1) := fun n => (HB3.out.cell (p := ⟨g, k * 6, none⟩) HgL.out).trans (by rw [← hxk9]; exact hc9 0 _ rfl)
            have p1 : ∀ n, (wr.drewN n).cell? ⟨g, k * 6 + 1, none⟩ = some (.int .i64 X[k].2.k.2) := fun n => (HB3.out.cell (p := ⟨g, k * 6 + 1, none⟩) HgL.out).trans (by rw [← hxk9]; exact hc9 1 _ rfl)
            have hps : X[k].1 + 1 = X[i].1 → parR [] X key = (X[k].2.k, true) := fun e => par_some HPr.out hiX HT.out Hky.out (by omega) e (fun j hj a b => HNo.out j hj (by omega) b)
            have hnk : X[k].1 + 1 ≠ X[i].1 → ∀ j (hj : j < X.length), k ≤ j → j < i → X[j].1 + 1 ≠ X[i].1 := fun e j hj a b => (by rcases Nat.lt_or_ge k j with c | c; (exact HNo.out j hj (by omega) b); (obtain rfl : j = k := by omega); exact e)
            have hbx : X[i].1 ≤ 1048576 := (by have h9 := foldl_max_mem (dpL t 0) 0 X[i].1 (by rw [HXd.out]; exact List.mem_map_of_mem (List.getElem_mem hiX)); rw [dpL_mx] at h9; have := (dp_le_n t.sz).1 t (Nat.le_refl _); omega)
            have HPs := hide9 hps
            have HNk := hide9 hnk
            obtain ⟨u, eu⟩ : ∃ u, u = X[k].2.k := ⟨_, rfl⟩
            obtain ⟨dk, edk⟩ : ∃ d, d = X[k].1 := ⟨_, rfl⟩
            obtain ⟨di, edi⟩ : ∃ d, d = X[i].1 := ⟨_, rfl⟩
            rw [← eu] at HPs p0 p1
            rw [← edk] at HPs HNk f0
            rw [← edi] at f1 hbx
            have Hdi := hide9 edi
            rw [← Hdi.out] at HPs HNk
            have Hdk := hide9 edk
            have j0 : (0 : Int) ≤ (k : Int) := by omega
            have j1 : (k : Int) < (L.length : Int) := by omega
            have j2 : (k : Int) < (t.sz : Int) := by have := HXl.out; omega
            have j3 : (i : Int) < (t.sz : Int) := by have := HXl.out; omega
            have m2 : IntKind.i64.wrap ((di : Int) - 1) = (di : Int) - 1 := by rw [IntKind.wrap_i64]; omega
            clear e1 hcd hcd2 hc9 hps hnk eu edk edi hxk9 hgd
            by_cases heq : dk + 1 = di
            · have HF := hide9 (HPs.out heq)
              have q9 : ((dk : Int) == (di : Int) - 1) = true := (by rw [beq_iff_eq]; omega)
              clear heq HPs HNk
              have HRz : Hid (∀ n, (wr.drewN n).heap[rb]? = some (.cells #[.int .i64 0, .int .i64 0] 23)) := fun n => (HB3.out.block _ (row_lt HR.out)).trans HR.out
              go_wp2
              go_quiet (fail)
              go_wp2_with (refine wpList_store_row rfl 23 (.tmp 4) (.tmp 47) rfl rb 23 #[.int .i64 0, .int .i64 0] #[.int .i64 u.1, .int .i64 u.2] rfl rfl (HRz.out _) sizeSH rfl (by simp [Value.oneCell']) ?_)
              have hB9 := below_drewN HB3.out nq
              have hT9 : Below w.heap.size w ((wr.drewN nq).setRow rb #[.int .i64 u.1, .int .i64 u.2]) := (HB1.out.trans (hB9.mono HB1.out.size)).grown (grown_setRow _ _ _) (HB1.out.trans (hB9.mono HB1.out.size)).size (fun k e => by cases e; exact Hrb.out)
              refine bodyPost_ret (v := .tuple #[.agg #[.int .i64 u.1, .int .i64 u.2], .bool true]) ?res3 rfl ?post3
              case res3 => exact Eq.trans (results_cell_tmp9 (p := 4) (u := 5) rfl _ _ rb _ rfl (loadST _ _ _ _ (setRow_same (HRz.out _)))) rfl
              exact ⟨by rw [HF.out], hT9⟩
            · have HN2 := hide9 (HNk.out heq)
              skip
              have q9 : ((dk : Int) == (di : Int) - 1) = false := (by rw [beq_eq_false_iff_ne]; omega)
              clear heq HPs HNk
              have m3 : IntKind.i64.wrap ((k : Int) - 1) = (k : Int) - 1 := by rw [IntKind.wrap_i64]; omega
              go_wp2
              go_quiet (fail)
              go_wp2
              go_roundw
              case rel => exact ⟨k, by omega, by go_num, (by rw [Hdi.out] at HN2; exact HN2), below_drewN HB3.out _⟩
              case measure => simp [intOf]
      · have HT2 : Hid ((X.take (i + 1)).find? (fun x => decide (x.2.k = key)) = none) := HFn.out.trans (if_neg hky)
        have q8 : decide ((s.1, s.2) = (key.1, key.2)) = false := decide_eq_false hky
        rw [q8]
        clear q8 hky
        have n1 : IntKind.i64.wrap ((i : Int) + 1) = (i : Int) + 1 := by rw [IntKind.wrap_i64]; omega
        go_wp2
        go_roundw
        case rel => exact ⟨i + 1, by go_num, by omega, HT2, HB2⟩
        case measure => simp [intOf]; omega
    · have k1 : ¬ (i : Int) < (L.length : Int) := by omega
      have HF : Hid (parR [] X key = ((0, 0), false)) := par_no HPr.out (by have h9 := HT.out; rw [List.take_of_length_le (by have := HXl.out; have := HLl.out; omega)] at h9; exact h9)
      clear HT
      have HRz : Hid (wr.heap[rb]? = some (.cells #[.int .i64 0, .int .i64 0] 23)) := (HBr.out.block _ (row_lt HR.out)).trans HR.out
      go_wp2_with (refine wpList_store_row rfl 23 (.tmp 4) (.tmp 49) rfl rb 23 #[.int .i64 0, .int .i64 0] #[.int .i64 0, .int .i64 0] rfl rfl HRz.out sizeSH rfl (by simp [Value.oneCell']) ?_)
      have hT9 : Below w.heap.size w (wr.setRow rb #[.int .i64 0, .int .i64 0]) := (HB1.out.trans (HBr.out.mono HB1.out.size)).grown (grown_setRow _ _ _) (HB1.out.trans (HBr.out.mono HB1.out.size)).size (fun k e => by cases e; exact Hrb.out)
      refine bodyPost_ret (v := .tuple #[.agg #[.int .i64 0, .int .i64 0], .bool false]) ?res49 rfl ?post49
      case res49 => exact Eq.trans (results_cell_tmp9 (p := 4) (u := 5) rfl _ _ rb _ rfl (loadST _ _ _ _ (setRow_same HRz.out))) rfl
      exact ⟨by rw [HF.out], hT9⟩

end Go.Proofs.Ytnanlmmmppcipaa
