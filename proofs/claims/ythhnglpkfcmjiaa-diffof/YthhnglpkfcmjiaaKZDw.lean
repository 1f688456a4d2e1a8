/- The document's Keys and Find; whether two rows of stamps are the same. -/
import Derived.Test.YthhnglpkfcmjiaaKZDv
import Derived.Deep.Cut
import Derived.WalkSmall
namespace Go.Proofs.Ythhnglpkfcmjiaa
open Go.RowKit Go.Shelf
set_option linter.unusedVariables false
set_option linter.unusedSimpArgs false
theorem sizeVF : (Try.prog.info? 27).map (·.size) = some 6 := by kernel_rfl
set_option maxRecDepth 100000 in
set_option maxHeartbeats 4000000 in
theorem flatN_any (N : Nat) (t : VT) (v : Value) (w : World) (hN : N ≤ w.heap.size) (hv : VIs (fun k => k < N) w v t) (hsz : t.sz ≤ 1048576) : Calls Try.prog 27 #[v] w fun e w' => ∃ v' E, e = .returned v' ∧ OwnVn N w' v' E ∧ E.map Prod.fst = flT t ∧ (∀ x ∈ E, FdIs (fun k => k < N) w' x.2.1 x.2.2 x.1.at_ x.1.ks) ∧ Below w.heap.size w w' := by
  obtain ⟨aa, ca, ak, ck, e1, fd⟩ := hv.form
  subst e1
  obtain ⟨W1, eW1⟩ : ∃ X, X = (w.alloc (.cells #[.int .i64 t.k.1, .int .i64 t.k.2, .string t.tg, .string t.tx, .slice aa t.at_.length ca, .slice ak t.ks.length ck] 27)) := ⟨_, rfl⟩
  obtain ⟨W2, eW2⟩ : ∃ X, X = W1.alloc (.cells #[] 27) := ⟨_, rfl⟩
  have hb1 : Below w.heap.size w W1 := (by rw [eW1]; exact (Below.refl _ _).alloc (Nat.le_refl _) _)
  have hs1 : W1.heap.size = w.heap.size + 1 := (by rw [eW1]; simp)
  have hb2 : Below W1.heap.size W1 W2 := (by rw [eW2]; exact (Below.refl _ _).alloc (Nat.le_refl _) _)
  have hbb := hb1.trans (hb2.mono hb1.size)
  have HO : Hid (OwnVn N W2 (.slice (some ⟨w.heap.size + 1, 0, none⟩) 0 0) []) := (by rw [eW2, ← hs1]; exact World.ownsRow_made W1 #[] 0 (by omega) (by unfold maxLen; omega) (by simp))
  have HV : Hid (FdIs (fun k => k < N) W2 (.slice aa t.at_.length ca) (.slice ak t.ks.length ck) t.at_ t.ks) := fd.turn hbb.size fun k q _ => ⟨q, hbb.block k (by omega)⟩
  have HB := hide9 hbb
  have HE := hide9 (And.intro eW1 eW2)
  clear hv fd hb1 hb2 hbb hs1 eW1 eW2
  go_enter Try.func27, Try.ntmps27
  go_wp2_with fail
  rw [← HE.out.1, ← HE.out.2]
  clear HE
  refine (flat_n N t.sz t _ _ [] _ (Nat.le_refl _) (VIs.of HV.out) HO.out ⟨_, _, rfl⟩ (Nat.le_trans hN HB.out.size) (by simpa using hsz)).mono ?_
  rintro e W3 ⟨v', E', rfl, h1, h2, h3, h4, _, g3, c3, e3⟩
  have HP := hide9 (And.intro h1 (And.intro h2 (And.intro h3 (HB.out.trans (h4.below (fun k q => by have h9 : w.heap.size + 1 = k := (by simpa [Value.ownBlock] using q); omega) HB.out.size)))))
  obtain ⟨n3, en3⟩ : ∃ n, n = ([] ++ E').length := ⟨_, rfl⟩
  rw [← en3] at e3
  subst e3
  clear en3
  clear h1 h2 h3 h4
  go_wp2
  go_ret
  exact ⟨_, _, rfl, HP.out.1, HP.out.2.1, HP.out.2.2.1, HP.out.2.2.2⟩
set_option maxRecDepth 100000 in
set_option maxHeartbeats 4000000 in
/-- The document's Keys. -/
theorem refKeys_any (G : Nat → Prop) (t : VT) (v : Value) (w : World) (h : VIs G w v t) (hsz : t.sz ≤ 1048576) : Calls Try.prog 35 #[v] w fun e w' => ∃ v', e = .returned v' ∧ OwnSt w.heap.size w' v' ((flT t).map VT.k) ∧ Below w.heap.size w w' := by
  obtain ⟨aa, ca, ak, ck, e1, fd⟩ := h.form
  subst e1
  obtain ⟨i0, hin, hz0, hz1, hz2⟩ := info_parts infoSk
  obtain ⟨W0, eW⟩ : ∃ X, X = (w.alloc (.cells #[.int .i64 t.k.1, .int .i64 t.k.2, .string t.tg, .string t.tx, .slice aa t.at_.length ca, .slice ak t.ks.length ck] 27)) := ⟨_, rfl⟩
  have hb0 : Below w.heap.size w W0 := (by rw [eW]; exact (Below.refl _ _).alloc (Nat.le_refl _) _)
  have HFd := hide9 (fd.below hb0)
  have HB := hide9 hb0
  have HE := hide9 eW
  clear h fd hb0 eW
  go_enter Try.func35, Try.ntmps35
  go_wp2_with fail
  rw [← HE.out]
  clear HE
  refine (flatF_any G t _ _ (VIs.of HFd.out) hsz).mono ?_
  clear HFd
  rintro e w1 ⟨v1, L, rfl, h1, h2, h3, h4⟩
  obtain ⟨a1, c1, e1⟩ := OwnE.form h1
  subst e1
  have hLl : L.length = t.sz := (by rw [← flT_len, ← h2, List.length_map])
  have hL2 : L.length ≤ 1048576 := by omega
  have HL := hide9 h1
  have HM : Hid (L.map kO = (flT t).map VT.k) := (by show _ = _; rw [← h2, List.map_map]; rfl)
  have HB1 : Hid (Below w.heap.size w w1) := HB.out.trans (h4.mono HB.out.size)
  clear h1 h2 h3 h4 HB hLl
  go_wp2
  go_loopw [4, 5] (fun sv iv wr => ∃ (i g : Nat) (c : Nat), iv = .int .i64 (i : Int) ∧ i ≤ L.length ∧ sv = .slice (some ⟨g, 0, none⟩) i c ∧ Hid (OwnSt w1.heap.size wr (.slice (some ⟨g, 0, none⟩) i c) ((L.take i).map kO)) ∧ Hid (Below w1.heap.size w1 wr)) (fun _ iv _ => L.length - (intOf iv).toNat)
  case atStart => exact ⟨0, _, _, rfl, Nat.zero_le _, rfl, World.ownsRow_made w1 #[] 0 (by omega) (by unfold maxLen; omega) (by simp), (Below.refl _ _).alloc (Nat.le_refl _) _⟩
  case round =>
    obtain ⟨i, gs, cs, rfl, hil, rfl, HR, HBr⟩ := hrel
    by_cases hlt : i < L.length
    · obtain ⟨g, cap, eg, _, hcs, _⟩ := OwnE.cells vnC_len HL.out hlt
      injection eg with e1 e8 e9
      subst e1
      clear e8 e9
      have hgl := (OwnE.lt HL.out g rfl).2
      have p0 : wr.cell? ⟨g, i * 6, none⟩ = some (.int .i64 L[i].1.k.1) := (HBr.out.cell (p := ⟨g, i * 6, none⟩) hgl).trans (hcs 0 _ rfl)
      have p1 : wr.cell? ⟨g, i * 6 + 1, none⟩ = some (.int .i64 L[i].1.k.2) := (HBr.out.cell (p := ⟨g, i * 6 + 1, none⟩) hgl).trans (hcs 1 _ rfl)
      have hsn : (L.take (i + 1)).map kO = (L.take i).map kO ++ [L[i].1.k] := (by rw [List.take_succ_eq_append_getElem hlt, List.map_append]; rfl)
      have hDl : ((L.take i).map kO).length = i := (by rw [List.length_map, List.length_take]; omega)
      obtain ⟨s, es⟩ : ∃ s, s = L[i].1.k := ⟨_, rfl⟩
      obtain ⟨D, eD⟩ : ∃ D, D = (L.take i).map kO := ⟨_, rfl⟩
      rw [← es] at p0 p1 hsn
      rw [← eD] at hsn hDl HR
      have Hsn := hide9 hsn
      have HDl := hide9 hDl
      obtain ⟨w4, ew4⟩ : ∃ X, X = wr.alloc (.cells #[.int .i64 s.1, .int .i64 s.2] 23) := ⟨_, rfl⟩
      have Hw4 := hide9 ew4
      have hb4 : Below wr.heap.size wr w4 := (by rw [ew4]; exact (Below.refl _ _).alloc (Nat.le_refl _) _)
      have hT4 : w4.heap[wr.heap.size]? = some (.cells #[.int .i64 s.1, .int .i64 s.2] 23) := (by rw [ew4]; exact heap_alloc_new _ _)
      have HT4 := hide9 hT4
      have HR4 := hide9 (OwnE.below HR.out hb4)
      have HB4 : Hid (Below w1.heap.size w1 w4) := HBr.out.trans (hb4.mono HBr.out.size)
      have k1 : (i : Int) < (L.length : Int) := by omega
      have k0 : (0 : Int) ≤ (i : Int) := by omega
      clear ew4 hb4 hT4 HR es eD hsn hDl hcs hgl
      go_wp2_with (at_builtin; refine Stp.to ?_)
      refine Stp.of ?_
      rw [← Hw4.out]
      clear p0 p1 Hw4
      refine wpList_append_lies w4 rfl _ _ 42 rfl w1.heap.size 23 i0 (.agg #[.int .i64 0, .int .i64 0]) 2 16 Try.underlying42 hin hz0 hz1 hz2 rfl (by decide) (.slice (some ⟨gs, 0, none⟩) i cs) i (flatE stCells D) rfl (by have h9 : w4.ownsRow w1.heap.size 23 2 (.slice (some ⟨gs, 0, none⟩) i cs) D.length (flatE stCells D) := HR4.out; rw [HDl.out] at h9; exact h9) ⟨wr.heap.size, 0, none⟩ 1 1 (stCells s) rfl rfl (World.news_of_block HT4.out) (fun y hy => by simp [stCells] at hy; rcases hy with rfl | rfl <;> rfl) (by decide) (by unfold maxLen; omega) (by omega) HB4.out.size w4.heap.size rfl ?_
      intro g5 c5 w5 hown5 hgr5 hat5 hlt5
      have HB5 : Hid (Below w1.heap.size w1 w5) := HB4.out.trans ((Touch.of_grown (F := fun k => (Value.slice (some ⟨gs, 0, none⟩) i cs).ownBlock = some k) hgr5 (fun k e _ => e)).below (fun k q => (OwnE.lt HR4.out k q).1) HB4.out.size)
      have HR5 : Hid (OwnSt w1.heap.size w5 (.slice (some ⟨g5, 0, none⟩) (i + 1) c5) ((L.take (i + 1)).map kO)) := (by show OwnSt _ _ _ _; rw [Hsn.out]; exact OwnE.snoc rfl (by rw [HDl.out]; exact hown5))
      clear hown5 hgr5 hat5 hlt5 HR4 HB4 HT4
      go_wp2
      go_roundw
      case rel => exact ⟨i + 1, g5, c5, by go_num, by omega, rfl, HR5, HB5⟩
      case measure => simp [intOf]; omega
    · obtain rfl : i = L.length := by omega
      have k1 : ¬ (L.length : Int) < (L.length : Int) := by omega
      have hs := HB1.out.size
      have HF := hide9 HR.out
      rw [List.take_length, HM.out] at HF
      go_wp2
      go_ret
      exact ⟨_, rfl, OwnE.low HF.out hs, HB1.out.trans (HBr.out.mono hs)⟩
set_option maxRecDepth 100000 in
set_option maxHeartbeats 8000000 in
/-- The document's Find. -/
theorem refFindN_any (N : Nat) (t : VT) (key : St) (v : Value) (w : World) (hN : N ≤ w.heap.size) (h : VIs (fun k => k < N) w v t) (hsz : t.sz ≤ 1048576) : Calls Try.prog 23 #[v, .agg #[.int .i64 key.1, .int .i64 key.2]] w fun e w' => ∃ (x : VT) (av kv : Value), e = .returned (.tuple #[.agg #[.int .i64 x.k.1, .int .i64 x.k.2, .string x.tg, .string x.tx, av, kv], .bool (fndT t key).isSome]) ∧ (fndT t key).getD tZ = x ∧ FdIs (fun k => k < N) w' av kv x.at_ x.ks ∧ Below w.heap.size w w' := by
  obtain ⟨aa, ca, ak, ck, e1, fd⟩ := h.form
  subst e1
  obtain ⟨W0, eW⟩ : ∃ X, X = ((w.alloc (.cells #[.int .i64 t.k.1, .int .i64 t.k.2, .string t.tg, .string t.tx, .slice aa t.at_.length ca, .slice ak t.ks.length ck] 27)).alloc (.cells #[.int .i64 key.1, .int .i64 key.2] 23)).alloc (.cells #[.int .i64 0, .int .i64 0, .string ⟨#[]⟩, .string ⟨#[]⟩, .slice none 0 0, .slice none 0 0] 27) := ⟨_, rfl⟩
  have hb0 : Below w.heap.size w W0 := (by rw [eW]; exact (((Below.refl _ _).alloc (Nat.le_refl _) _).alloc (by simp) _).alloc (by simp; omega) _)
  have hT : W0.heap[w.heap.size]? = some (.cells #[.int .i64 t.k.1, .int .i64 t.k.2, .string t.tg, .string t.tx, .slice aa t.at_.length ca, .slice ak t.ks.length ck] 27) := (by rw [eW, Below.heap_alloc _ _ _ (by simp; omega), Below.heap_alloc _ _ _ (by simp)]; exact heap_alloc_new _ _)
  have hK : W0.heap[w.heap.size + 1]? = some (.cells #[.int .i64 key.1, .int .i64 key.2] 23) := (by rw [eW, Below.heap_alloc _ _ _ (by simp)]; have h9 := heap_alloc_new (w.alloc (.cells #[.int .i64 t.k.1, .int .i64 t.k.2, .string t.tg, .string t.tx, .slice aa t.at_.length ca, .slice ak t.ks.length ck] 27)) (.cells #[.int .i64 key.1, .int .i64 key.2] 23); rw [show (w.alloc (.cells #[.int .i64 t.k.1, .int .i64 t.k.2, .string t.tg, .string t.tx, .slice aa t.at_.length ca, .slice ak t.ks.length ck] 27)).heap.size = w.heap.size + 1 by simp] at h9; exact h9)
  have hR : W0.heap[w.heap.size + 2]? = some (.cells #[.int .i64 0, .int .i64 0, .string ⟨#[]⟩, .string ⟨#[]⟩, .slice none 0 0, .slice none 0 0] 27) := (by rw [eW]; have h9 := heap_alloc_new ((w.alloc (.cells #[.int .i64 t.k.1, .int .i64 t.k.2, .string t.tg, .string t.tx, .slice aa t.at_.length ca, .slice ak t.ks.length ck] 27)).alloc (.cells #[.int .i64 key.1, .int .i64 key.2] 23)) (.cells #[.int .i64 0, .int .i64 0, .string ⟨#[]⟩, .string ⟨#[]⟩, .slice none 0 0, .slice none 0 0] 27); rw [show ((w.alloc (.cells #[.int .i64 t.k.1, .int .i64 t.k.2, .string t.tg, .string t.tx, .slice aa t.at_.length ca, .slice ak t.ks.length ck] 27)).alloc (.cells #[.int .i64 key.1, .int .i64 key.2] 23)).heap.size = w.heap.size + 2 by simp] at h9; exact h9)
  have HFd : Hid (FdIs (fun k => k < N) W0 (.slice aa t.at_.length ca) (.slice ak t.ks.length ck) t.at_ t.ks) := fd.turn hb0.size fun k q r => ⟨q, hb0.block k r⟩
  have HB := hide9 hb0
  have HE := hide9 eW
  have HK := hide9 hK
  have HR := hide9 hR
  obtain ⟨y0, y1, y2, y3, y4, y5⟩ := row6 hT
  clear h fd hb0 eW hT hK hR
  go_enter Try.func23, Try.ntmps23
  go_upto_region 1 with fail
  rw [← HE.out]
  go_wp2_with fail
  clear HE y0 y1 y2 y3 y4 y5
  refine (flatN_any N t _ _ (Nat.le_trans hN HB.out.size) (VIs.of HFd.out) hsz).mono ?_
  clear HFd
  rintro e w1 ⟨v1, L, rfl, h1, h2, h3, h4⟩
  obtain ⟨a1, c1, e1⟩ := OwnE.form h1
  subst e1
  have hLl : L.length = t.sz := (by rw [← flT_len, ← h2, List.length_map])
  have hL2 : L.length ≤ 1048576 := by omega
  have HL := hide9 h1
  have HM := hide9 h2
  have HFs : Hid (∀ x ∈ L, FdIs (fun k => k < N) w1 x.2.1 x.2.2 x.1.at_ x.1.ks) := h3
  have HB1 : Hid (Below w.heap.size w w1) := HB.out.trans (h4.mono HB.out.size)
  replace HK : Hid (w1.heap[w.heap.size + 1]? = some (.cells #[.int .i64 key.1, .int .i64 key.2] 23)) := (h4.block _ (row_lt HK.out)).trans HK.out
  replace HR : Hid (w1.heap[w.heap.size + 2]? = some (.cells #[.int .i64 0, .int .i64 0, .string ⟨#[]⟩, .string ⟨#[]⟩, .slice none 0 0, .slice none 0 0] 27)) := (h4.block _ (row_lt HR.out)).trans HR.out
  clear h1 h2 h3 h4 HB hLl
  obtain ⟨kb, ekb⟩ : ∃ b, b = w.heap.size + 1 := ⟨_, rfl⟩
  obtain ⟨rb, erb⟩ : ∃ b, b = w.heap.size + 2 := ⟨_, rfl⟩
  rw [← ekb] at HK
  rw [← erb] at HR
  have Hrb : Hid (w.heap.size ≤ rb) := (by show _ ≤ _; omega)
  go_wp2
  (try rw [show w.heap.size + 1 + 1 = rb by omega])
  (try rw [← erb])
  (try rw [← ekb])
  clear ekb erb
  go_loopw [7] (fun iv wr => ∃ i : Nat, iv = .int .i64 (i : Int) ∧ i ≤ L.length ∧ Hid ((L.take i).find? (fun x => decide (x.1.k = key)) = none) ∧ Hid (Below w1.heap.size w1 wr)) (fun iv _ => L.length - (intOf iv).toNat)
  case atStart => exact ⟨0, rfl, Nat.zero_le _, by (show _ = _; rfl), Below.refl _ _⟩
  case round =>
    obtain ⟨i, rfl, hil, HT, HBr⟩ := hrel
    have HRr : Hid (wr.heap[rb]? = some (.cells #[.int .i64 0, .int .i64 0, .string ⟨#[]⟩, .string ⟨#[]⟩, .slice none 0 0, .slice none 0 0] 27)) := (HBr.out.block _ (row_lt HR.out)).trans HR.out
    by_cases hlt : i < L.length
    · obtain ⟨g, cap, eg, _, hcs, _⟩ := OwnE.cells vnC_len HL.out hlt
      injection eg with e1 e8 e9
      subst e1
      clear e8 e9
      have hgl := (OwnE.lt HL.out g rfl).2
      have hfx := (HFs.out _ (List.getElem_mem hlt)).below HBr.out
      have hfn : (L.take (i + 1)).find? (fun x => decide (x.1.k = key)) = if L[i].1.k = key then some L[i] else none := (by rw [List.take_succ_eq_append_getElem hlt, List.find?_append, HT.out]; simp only [Option.none_or, List.find?_cons, List.find?_nil]; split <;> simp_all)
      have p0 := (HBr.out.cell (p := ⟨g, i * 6 + 0, none⟩) hgl).trans (hcs 0 _ rfl)
      have p1 := (HBr.out.cell (p := ⟨g, i * 6 + 1, none⟩) hgl).trans (hcs 1 _ rfl)
      have p2 := (HBr.out.cell (p := ⟨g, i * 6 + 2, none⟩) hgl).trans (hcs 2 _ rfl)
      have p3 := (HBr.out.cell (p := ⟨g, i * 6 + 3, none⟩) hgl).trans (hcs 3 _ rfl)
      have p4 := (HBr.out.cell (p := ⟨g, i * 6 + 4, none⟩) hgl).trans (hcs 4 _ rfl)
      have p5 := (HBr.out.cell (p := ⟨g, i * 6 + 5, none⟩) hgl).trans (hcs 5 _ rfl)
      obtain ⟨y, ey⟩ : ∃ y, y = L[i] := ⟨_, rfl⟩
      rw [← ey] at hfx hfn p0 p1 p2 p3 p4 p5
      obtain ⟨x, xv, xkv⟩ := y
      obtain ⟨xa, cx, e1⟩ := hfx.at_.form
      obtain ⟨xk, dx, e2⟩ := hfx.ks.form
      dsimp only at e1 e2 hfn
      subst e1 e2
      have HXf : Hid (FdIs (fun k => k < N) wr (.slice xa x.at_.length cx) (.slice xk x.ks.length dx) x.at_ x.ks) := hfx
      have HXc : Hid (g < wr.heap.size ∧ wr.cell? ⟨g, i * 6, none⟩ = some (.int .i64 x.k.1) ∧ wr.cell? ⟨g, i * 6 + 1, none⟩ = some (.int .i64 x.k.2) ∧ wr.cell? ⟨g, i * 6 + 2, none⟩ = some (.string x.tg) ∧ wr.cell? ⟨g, i * 6 + 3, none⟩ = some (.string x.tx) ∧ wr.cell? ⟨g, i * 6 + 4, none⟩ = some (.slice xa x.at_.length cx) ∧ wr.cell? ⟨g, i * 6 + 5, none⟩ = some (.slice xk x.ks.length dx)) := ⟨Nat.lt_of_lt_of_le hgl HBr.out.size, p0, p1, p2, p3, p4, p5⟩
      have HKr : Hid (kb < wr.heap.size ∧ wr.cell? ⟨kb, 0, none⟩ = some (.int .i64 key.1) ∧ wr.cell? ⟨kb, 1, none⟩ = some (.int .i64 key.2)) := (by have h9 := (HBr.out.block _ (row_lt HK.out)).trans HK.out; exact ⟨row_lt h9, by rw [cell_of_row _ _ _ _ _ _ h9]; rfl, by rw [cell_of_row _ _ _ _ _ _ h9]; rfl⟩)
      have HFn := hide9 hfn
      have k1 : (i : Int) < (L.length : Int) := by omega
      have k0 : (0 : Int) ≤ (i : Int) := by omega
      clear ey hfx hfn hcs hgl p0 p1 p2 p3 p4 p5 HT
      go_upto_region 5 with fail
      refine wp_region_held_drew (S := fun W' => Below wr.heap.size wr W') (by kernel_rfl) (Below.refl _ _).drew (fun hHeld => ?_)
      obtain ⟨Uf2u0, eW⟩ : ∃ X, X = wr.drew := ⟨_, rfl⟩
      have hb : Below wr.heap.size wr Uf2u0 := by rw [eW]; exact (Below.refl _ _).drew
      rw [← eW] at hHeld ⊢
      clear eW hb
      refine tkW 0 (some 16) (v := ?_) ?_ hHeld ?_
      rotate_left
      · (intro ww _; go_simp; try with_reducible rfl)
      refine tkW 1 (some 17) (v := ?_) ?_ hHeld ?_
      rotate_left
      · (intro ww _; go_simp; try with_reducible rfl)
      refine tkW 2 (some 18) (v := ?_) ?_ hHeld ?_
      rotate_left
      · (intro ww hSw; (try dsimp only at hSw); go_simp; try with_reducible rfl)
      refine tkW 3 (some 19) (v := ?_) ?_ hHeld ?_
      rotate_left
      · (intro ww _; go_simp; try with_reducible rfl)
      refine tkW 4 (some 20) (v := ?_) ?_ hHeld ?_
      rotate_left
      · (intro ww hSw; (try dsimp only at hSw); obtain ⟨c9, c8⟩ := ckCells hSw HXc.out; go_simp; try with_reducible rfl)
      refine tkW 5 (some 21) (v := ?_) ?_ hHeld ?_
      rotate_left
      · (intro ww hSw; (try dsimp only at hSw); have c9 : ww.cell? ⟨kb, 0, none⟩ = some (.int .i64 key.1) := (hSw.cell (p := ⟨kb, 0, none⟩) HKr.out.1).trans HKr.out.2.1; have c8 : ww.cell? ⟨kb, 1, none⟩ = some (.int .i64 key.2) := (hSw.cell (p := ⟨kb, 1, none⟩) HKr.out.1).trans HKr.out.2.2; go_simp; try with_reducible rfl)
      refine tkW 6 (some 22) (v := .bool (decide ((x.k.1, x.k.2) = (key.1, key.2)))) ?_ hHeld ?_
      · (intro ww hSw; (try dsimp only at hSw); go_simp; by_cases e1 : x.k.1 = key.1 <;> by_cases e2 : x.k.2 = key.2 <;> simp [e1, e2])
      refine wpAnyH_done (by kernel_rfl) ?_ _
      obtain ⟨U, eU⟩ : ∃ X, X = Uf2u0 := ⟨_, rfl⟩
      rw [← eU] at hHeld ⊢
      clear eU
      have HB2 := hide9 (HBr.out.trans (hHeld.mono HBr.out.size))
      by_cases hky : x.k = key
      · have hfd : fndT t key = some x := (by have h9 := HFn.out; rw [if_pos hky] at h9; have h8 : L.find? (fun x => decide (x.1.k = key)) = some (x, .slice xa x.at_.length cx, .slice xk x.ks.length dx) := (by rw [← List.take_append_drop (i + 1) L, List.find?_append, h9]; rfl); unfold fndT; rw [← HM.out, List.find?_map]; show Option.map _ (L.find? _) = _; rw [show (L.find? ((fun x => decide (x.k = key)) ∘ Prod.fst)) = _ from h8]; rfl)
        have HFd := hide9 hfd
        have q8 : decide ((x.k.1, x.k.2) = (key.1, key.2)) = true := decide_eq_true hky
        rw [q8]
        clear q8 hky hfd
        obtain ⟨y0, y1, y2, y3, y4, y5⟩ := ckCells6 hHeld HXc.out
        have HRu : Hid (U.heap[rb]? = some (.cells #[.int .i64 0, .int .i64 0, .string ⟨#[]⟩, .string ⟨#[]⟩, .slice none 0 0, .slice none 0 0] 27)) := (hHeld.block _ (row_lt HRr.out)).trans HRr.out
        have HXu := hide9 (HXf.out.below hHeld)
        have HHe := hide9 hHeld
        clear hHeld
        go_wp2_with (refine wpList_store_row rfl 27 (.tmp 4) (.tmp 26) rfl rb 27 #[.int .i64 0, .int .i64 0, .string ⟨#[]⟩, .string ⟨#[]⟩, .slice none 0 0, .slice none 0 0] #[.int .i64 x.k.1, .int .i64 x.k.2, .string x.tg, .string x.tx, .slice xa x.at_.length cx, .slice xk x.ks.length dx] rfl rfl HRu.out sizeVF rfl (by simp [Value.oneCell']) ?_)
        have hw9 : Below wr.heap.size wr U := HHe.out
        have hs2 := HB1.out.size
        have hT9 : Below w.heap.size w (U.setRow rb #[.int .i64 x.k.1, .int .i64 x.k.2, .string x.tg, .string x.tx, .slice xa x.at_.length cx, .slice xk x.ks.length dx]) := ((HB1.out.trans (HB2.out.mono hs2))).grown (grown_setRow _ _ _) (HB1.out.trans (HB2.out.mono hs2)).size (fun k e => by cases e; exact Hrb.out)
        refine bodyPost_ret (v := .tuple #[.agg #[.int .i64 x.k.1, .int .i64 x.k.2, .string x.tg, .string x.tx, .slice xa x.at_.length cx, .slice xk x.ks.length dx], .bool true]) ?res0 rfl ?post0
        case res0 => exact Eq.trans (results_cell_tmp9 (p := 4) (u := 5) rfl _ _ rb _ rfl (loadVN _ _ _ _ _ _ _ _ (setRow_same HRu.out))) rfl
        exact ⟨x, _, _, by rw [HFd.out]; rfl, by rw [HFd.out]; rfl, HXu.out.turn (by simp) fun k q hk => ⟨q, setRow_other _ _ _ _ (by have := Hrb.out; omega)⟩, hT9⟩
      · have HT2 : Hid ((L.take (i + 1)).find? (fun x => decide (x.1.k = key)) = none) := HFn.out.trans (if_neg hky)
        have q8 : decide ((x.k.1, x.k.2) = (key.1, key.2)) = false := decide_eq_false hky
        rw [q8]
        clear q8 hky hHeld
        have n1 : IntKind.i64.wrap ((i : Int) + 1) = (i : Int) + 1 := by rw [IntKind.wrap_i64]; omega
        go_wp2
        go_roundw
        case rel => exact ⟨i + 1, by go_num, by omega, HT2, HB2⟩
        case measure => simp [intOf]; omega
    · obtain rfl : i = L.length := by omega
      have k1 : ¬ (L.length : Int) < (L.length : Int) := by omega
      have HFd : Hid (fndT t key = none) := (by have h9 := HT.out; rw [List.take_length] at h9; show _ = _; unfold fndT; rw [← HM.out, List.find?_map]; show Option.map _ (L.find? _) = _; rw [show (L.find? ((fun x => decide (x.k = key)) ∘ Prod.fst)) = _ from h9]; rfl)
      have hs2 := HB1.out.size
      clear HT
      go_wp2_with (refine wpList_store_row rfl 27 (.tmp 4) (.tmp 27) rfl rb 27 #[.int .i64 0, .int .i64 0, .string ⟨#[]⟩, .string ⟨#[]⟩, .slice none 0 0, .slice none 0 0] #[.int .i64 0, .int .i64 0, .string ⟨#[]⟩, .string ⟨#[]⟩, .slice none 0 0, .slice none 0 0] rfl rfl HRr.out sizeVF rfl (by simp [Value.oneCell']) ?_)
      have hT9 : Below w.heap.size w (wr.setRow rb #[.int .i64 0, .int .i64 0, .string ⟨#[]⟩, .string ⟨#[]⟩, .slice none 0 0, .slice none 0 0]) := ((HB1.out.trans (HBr.out.mono hs2))).grown (grown_setRow _ _ _) (HB1.out.trans (HBr.out.mono hs2)).size (fun k e => by cases e; exact Hrb.out)
      refine bodyPost_ret (v := .tuple #[.agg #[.int .i64 0, .int .i64 0, .string ⟨#[]⟩, .string ⟨#[]⟩, .slice none 0 0, .slice none 0 0], .bool false]) ?res1 rfl ?post1
      case res1 => exact Eq.trans (results_cell_tmp9 (p := 4) (u := 5) rfl _ _ rb _ rfl (loadVN _ _ _ _ _ _ _ _ (setRow_same HRr.out))) rfl
      exact ⟨tZ, _, _, by rw [HFd.out]; rfl, by rw [HFd.out]; rfl, fdNil _ _, hT9⟩
theorem refFind_any (G : Nat → Prop) (t : VT) (key : St) (v : Value) (w : World) (h : VIs G w v t) (hsz : t.sz ≤ 1048576) : Calls Try.prog 23 #[v, .agg #[.int .i64 key.1, .int .i64 key.2]] w fun e w' => ∃ (x : VT) (av kv : Value), e = .returned (.tuple #[.agg #[.int .i64 x.k.1, .int .i64 x.k.2, .string x.tg, .string x.tx, av, kv], .bool (fndT t key).isSome]) ∧ (fndT t key).getD tZ = x ∧ FdIs (fun k => k < w.heap.size) w' av kv x.at_ x.ks ∧ Below w.heap.size w w' := by
  obtain ⟨aa, ca, ak, ck, e1, fd⟩ := h.form
  subst e1
  exact refFindN_any w.heap.size t key _ w (Nat.le_refl _) (VIs.of (fd.mono fun k _ q => q)) hsz
end Go.Proofs.Ythhnglpkfcmjiaa

namespace Go.Proofs.Ythhnglpkfcmjiaa
open Go.RowKit Go.Shelf
set_option linter.unusedVariables false
set_option linter.unusedSimpArgs false
/-- How many are above each node. -/
def dpL (t : VT) (d : Nat) : List Nat := (flatD t d).map Prod.fst
def dpsL (l : List VT) (d : Nat) : List Nat := (flatDs l d).map Prod.fst
theorem dpL_eq (t : VT) (d : Nat) : dpL t d = d :: dpsL t.ks (d + 1) := by unfold dpL dpsL; rw [flatD_eq]; rfl
theorem flatDs_append : ∀ (l m : List VT) (d : Nat), flatDs (l ++ m) d = flatDs l d ++ flatDs m d
  | [], m, d => by simp [flatDs]
  | x :: r, m, d => by rw [List.cons_append, flatDs, flatDs, flatDs_append r m d, List.append_assoc]
theorem dpsL_take {l : List VT} {i d : Nat} (h : i < l.length) : dpsL (l.take (i + 1)) d = dpsL (l.take i) d ++ dpL l[i] d := by
  unfold dpsL dpL
  rw [List.take_succ_eq_append_getElem h, flatDs_append, List.map_append]
  simp [flatDs]
theorem dpL_len (t : VT) (d : Nat) : (dpL t d).length = t.sz := by
  have h1 := congrArg List.length (flatD_snd t d)
  rw [List.length_map, flT_len] at h1
  unfold dpL
  rw [List.length_map, h1]
theorem dpsL_len (l : List VT) (d : Nat) : (dpsL l d).length = szs l := by
  have h1 := congrArg List.length ((flatD_n (szs l)).2 l d (Nat.le_refl _)).1
  rw [List.length_map, flTs_len] at h1
  unfold dpsL
  rw [List.length_map, h1]
def ntC (x : Nat) : List Value := [.int .i64 (x : Int)]
theorem ntC_len (x : Nat) : (ntC x).length = 1 := rfl
abbrev OwnNt (B : Nat) (w : World) (v : Value) (D : List Nat) : Prop := OwnE ntC 1 3 B w v D
theorem infoNt : (Try.prog.info? 3).map (fun i => (i.zero, i.size, i.bytes)) = some (some (.int .i64 0), 1, 8) := by kernel_rfl
/-- What stands while the depths are told. -/
structure DpS (N : Nat) (w : World) (t : VT) (d : Nat) (aa : Option Addr) (ca : Nat) (ak : Option Addr) (ck : Nat) (sv : Value) (D : List Nat) (v : Value) (D1 : List Nat) (i : Nat) (W : World) : Prop where
  tb : W.heap[w.heap.size]? = some (.cells #[.int .i64 t.k.1, .int .i64 t.k.2, .string t.tg, .string t.tx, .slice aa t.at_.length ca, .slice ak t.ks.length ck] 27)
  row : OwnNt N W v (D ++ D1)
  es : D1 = d :: dpsL (t.ks.take i) (d + 1)
  tch : Touch (fun k => sv.ownBlock = some k) w W
  vo : v.ownBlock = sv.ownBlock ∨ ∃ k, v.ownBlock = some k ∧ w.heap.size < k
  nn : ∃ g c, v = .slice (some ⟨g, 0, none⟩) (D ++ D1).length c
/-- What Deeps leaves. -/
def DpP (N : Nat) (t : VT) (d : Nat) (sv : Value) (D : List Nat) (w : World) (e : Ending) (w' : World) : Prop := ∃ v', e = .returned v' ∧ OwnNt N w' v' (D ++ dpL t d) ∧ Touch (fun k => sv.ownBlock = some k) w w' ∧ (v'.ownBlock = sv.ownBlock ∨ ∃ k, v'.ownBlock = some k ∧ w.heap.size ≤ k) ∧ ∃ g c, v' = .slice (some ⟨g, 0, none⟩) (D ++ dpL t d).length c
section
variable {N : Nat} {w W W' : World} {t : VT} {d : Nat} {aa : Option Addr} {ca : Nat} {ak : Option Addr} {ck : Nat} {sv v : Value} {D D1 : List Nat} {i : Nat}
theorem DpS.next (h : DpS N w t d aa ca ak ck sv D v D1 i W) (hs : ∀ k, sv.ownBlock = some k → N ≤ k ∧ k < w.heap.size) (hN : N ≤ w.heap.size) (hi : i < t.ks.length) {x : VT} (hx : x = t.ks[i]) {e : Ending} (hp : DpP N x (d + 1) v (D ++ D1) W e W') : ∃ v' D2, e = .returned v' ∧ DpS N w t d aa ca ak ck sv D v' D2 (i + 1) W' := by
  obtain ⟨v', he, h1, h4, h5, h6⟩ := hp
  have htl := row_lt h.tb
  have hws := h.tch.size
  have hvN : ∀ k, v.ownBlock = some k → N ≤ k ∧ k ≠ w.heap.size := fun k q => by
    rcases h.vo with z | ⟨k', z, zl⟩
    · have := hs k (by rw [← z, q]); omega
    · rw [q] at z; cases z; omega
  refine ⟨v', D1 ++ dpL x (d + 1), he, (h4.block _ htl (fun q => (hvN _ q).2 rfl)).trans h.tb, by rw [← List.append_assoc]; exact h1, ?_, Touch.trans h.tch h4 (fun j q => ?_), ?_, by rw [← List.append_assoc]; exact h6⟩
  · rw [h.es, dpsL_take hi, hx]
    simp
  · rcases h.vo with z | ⟨k', z, zl⟩
    · exact .inl (by rw [← z, q])
    · rw [q] at z; cases z; exact .inr (by omega)
  · rcases h5 with z | ⟨k, z, zl⟩
    · rw [z]; exact h.vo
    · exact .inr ⟨k, z, by omega⟩
end
set_option maxRecDepth 100000 in
set_option maxHeartbeats 8000000 in
theorem deeps_n (N m : Nat) : ∀ (t : VT) (d : Nat) (v sv : Value) (D : List Nat) (w : World), t.sz ≤ m → VIs (fun k => k < N) w v t → OwnNt N w sv D → (∃ g c, sv = .slice (some ⟨g, 0, none⟩) D.length c) → N ≤ w.heap.size → D.length + t.sz ≤ 1048576 → d + t.sz ≤ 2097152 → Calls Try.prog 67 #[v, .int .i64 (d : Int), sv] w fun e w' => DpP N t d sv D w e w' := by
  induction m with
  | zero => intro t _ _ _ _ _ h; have := t.sz_pos; omega
  | succ m ih =>
    intro t d v sv D w hm hv hs hsf hN hal hdl
    obtain ⟨aa, ca, ak, ck, e1, fd⟩ := hv.form
    subst e1
    obtain ⟨i0, hin, hz0, hz1, hz2⟩ := info_parts infoNt
    obtain ⟨g0, c0, rfl⟩ := hsf
    have hsN : ∀ k, (Value.slice (some ⟨g0, 0, none⟩) D.length c0).ownBlock = some k → N ≤ k ∧ k < w.heap.size := fun k q => OwnE.lt hs k q
    have HsN := hide9 hsN
    obtain ⟨W1, eW1⟩ : ∃ X, X = (w.alloc (.cells #[.int .i64 t.k.1, .int .i64 t.k.2, .string t.tg, .string t.tx, .slice aa t.at_.length ca, .slice ak t.ks.length ck] 27)) := ⟨_, rfl⟩
    obtain ⟨W2, eW2⟩ : ∃ X, X = W1.alloc (.cells #[.int .i64 (d : Int)] 3) := ⟨_, rfl⟩
    have hb1 : Below w.heap.size w W1 := (by rw [eW1]; exact (Below.refl _ _).alloc (Nat.le_refl _) _)
    have hs1 : W1.heap.size = w.heap.size + 1 := (by rw [eW1]; simp)
    have hb2 : Below W1.heap.size W1 W2 := (by rw [eW2]; exact (Below.refl _ _).alloc (Nat.le_refl _) _)
    have hs2 : W2.heap.size = w.heap.size + 2 := (by rw [eW2]; simp [hs1])
    have hT1 : W1.heap[w.heap.size]? = some (.cells #[.int .i64 t.k.1, .int .i64 t.k.2, .string t.tg, .string t.tx, .slice aa t.at_.length ca, .slice ak t.ks.length ck] 27) := (by rw [eW1]; exact heap_alloc_new _ _)
    have hT2 : W2.heap[w.heap.size + 1]? = some (.cells #[.int .i64 (d : Int)] 3) := (by rw [eW2, ← hs1]; exact heap_alloc_new _ _)
    have hbb := hb1.trans (hb2.mono hb1.size)
    have HO2 := hide9 (OwnE.below hs hbb)
    have HTt := hide9 ((hb2.block _ (row_lt hT1)).trans hT1)
    have HT2 := hide9 hT2
    have HB2 := hide9 hbb
    have Hfd := hide9 fd
    have Hs2 := hide9 hs2
    have HE := hide9 (And.intro eW1 eW2)
    have hlk := fd.ks.len
    have Hal := hide9 hal
    have HN := hide9 hN
    clear hv hs hsN hb1 hs1 hb2 hs2 hT1 hT2 hbb fd eW1 eW2 hN hal
    go_enter Try.func67, Try.ntmps67
    go_wp2_with (at_builtin; refine Stp.to ?_)
    refine Stp.of ?_
    rw [← HE.out.1, ← HE.out.2]
    refine wpList_append_lies W2 rfl _ _ 78 rfl N 3 i0 (.int .i64 0) 1 8 Try.underlying78 hin hz0 hz1 hz2 rfl (by decide) (.slice (some ⟨g0, 0, none⟩) D.length c0) D.length (flatE ntC D) rfl HO2.out ⟨w.heap.size + 1, 0, none⟩ 1 1 (ntC d) rfl rfl (fun j u hj => by rw [Addr.add_lit, Nat.zero_add, cell_of_row _ _ _ _ _ _ HT2.out]; simpa [ntC] using hj) (fun y hy => by simp [ntC] at hy; subst hy; rfl) (by decide) (by have := Hal.out; unfold maxLen; omega) (by have := Hal.out; omega) (by have := HN.out; have := Hs2.out; omega) (w.heap.size + 2) Hs2.out ?_
    intro g3 c3 W3 hown3 hgr3 hat3 hlt3
    have HS : Hid (DpS N w t d aa ca ak ck (.slice (some ⟨g0, 0, none⟩) D.length c0) D (.slice (some ⟨g3, 0, none⟩) (D.length + 1) c3) [d] 0 W3) := ⟨(hgr3.block _ (row_lt HTt.out) (fun e => by have := (HsN.out _ e.symm).2; omega)).trans HTt.out, OwnE.snoc rfl hown3, by simp [dpsL, flatDs], Touch.trans (Touch.of_below HB2.out) (Touch.of_grown (F := fun k => (Value.slice (some ⟨g0, 0, none⟩) D.length c0).ownBlock = some k) hgr3 (fun k e _ => e)) (fun j q => .inl q), hat3.elim (fun e => .inl e.symm) (fun e => .inr ⟨g3, rfl, by omega⟩), ⟨g3, c3, by simp⟩⟩
    clear hown3 hgr3 hat3 hlt3 HO2 HTt HT2 HB2 HE
    go_wp2
    go_loopw [2, 7] (fun v iv wr => ∃ (i : Nat) (D1 : List Nat), iv = .int .i64 (i : Int) ∧ i ≤ t.ks.length ∧ Hid (DpS N w t d aa ca ak ck (.slice (some ⟨g0, 0, none⟩) D.length c0) D (v) D1 i wr)) (fun _ iv _ => t.ks.length - (intOf iv).toNat)
    case atStart => exact ⟨0, _, rfl, Nat.zero_le _, HS⟩
    case round =>
      clear HS
      obtain ⟨i, D1, rfl, hi, HS⟩ := hrel
      obtain ⟨g1, c1, e1⟩ := HS.out.nn
      obtain ⟨n1, en1⟩ : ∃ n, n = (D ++ D1).length := ⟨_, rfl⟩
      rw [← en1] at e1
      subst e1
      clear en1
      have z5 := (row6 HS.out.tb).2.2.2.2.2
      by_cases hlt : i < t.ks.length
      · obtain ⟨b1, o1, rfl, hb1, hl1, hv1⟩ := (Hfd.out.ks.turn (G' := fun k => k < N) HS.out.tch.size (fun k q hl => ⟨q, HS.out.tch.block k hl (fun e => by have := (HsN.out k e).1; omega)⟩)).kid hlt
        have hszx : t.ks[i].sz < t.sz := VT.kid (t := t) hlt
        have hsz2 := szs_take hlt
        have hszl := szs_take_le t.ks (i + 1)
        obtain ⟨x, ex⟩ : ∃ x, x = t.ks[i] := ⟨_, rfl⟩
        rw [← ex] at hv1 hszx hsz2
        have Hx : Hid (x = t.ks[i]) := ex
        obtain ⟨xa, cx, xk, dx, p0, p1, p2, p3, p4, p5, fx⟩ := hv1.cells
        have HFx := hide9 fx
        have Hsz : Hid (x.sz ≤ m ∧ d + 1 + x.sz ≤ 2097152) := ⟨by omega, by omega⟩
        have k1 : (i : Int) < (t.ks.length : Int) := by omega
        have k0 : (0 : Int) ≤ (i : Int) := by omega
        have nd1 : IntKind.i64.wrap ((d : Int) + 1) = ((d + 1 : Nat) : Int) := by rw [IntKind.wrap_i64]; omega
        have HLn : Hid ((D ++ D1).length + x.sz ≤ 1048576) := (by have h9 := congrArg List.length HS.out.es; rw [List.length_cons, dpsL_len] at h9; have h8 := t.sz_eq; have h7 := Hal.out; show _ ≤ _; rw [List.length_append]; omega)
        clear hv1 hszx hsz2 hszl ex fx hb1 hl1
        go_wp2_with fail
        clear p0 p1 p2 p3 p4 p5 z5
        refine (ih x (d + 1) _ _ (D ++ D1) _ Hsz.out.1 (VIs.of HFx.out) HS.out.row HS.out.nn (Nat.le_trans HN.out HS.out.tch.size) HLn.out Hsz.out.2).mono ?_
        rintro e W4 hp
        obtain ⟨v4, D4, rfl, hS4⟩ := HS.out.next HsN.out HN.out hlt Hx.out hp
        have HS4 := hide9 hS4
        obtain ⟨a4, c4, e4⟩ := hS4.nn
        obtain ⟨n4, en4⟩ : ∃ n, n = (D ++ D4).length := ⟨_, rfl⟩
        rw [← en4] at e4
        subst e4
        clear en4
        clear hp hS4 HFx
        have nw1 : IntKind.i64.wrap ((i : Int) + 1) = (i : Int) + 1 := by rw [IntKind.wrap_i64]; omega
        go_wp2
        go_roundw
        case rel => exact ⟨i + 1, D4, by go_num, by omega, HS4⟩
        case measure => simp [intOf]; omega
      · have ei : i = t.ks.length := by omega
        have h9 : D1 = dpL t d := (by have h9 := HS.out.es; rw [ei, List.take_length, ← dpL_eq] at h9; exact h9)
        have HP : Hid (DpP N t d (.slice (some ⟨g0, 0, none⟩) D.length c0) D w (.returned (.slice (some ⟨g1, 0, none⟩) n1 c1)) wr) := ⟨_, rfl, by rw [← h9]; exact HS.out.row, HS.out.tch, HS.out.vo.imp id (fun ⟨k, q, z⟩ => ⟨k, q, by omega⟩), by rw [← h9]; exact HS.out.nn⟩
        have k1 : ¬ (i : Int) < (t.ks.length : Int) := by omega
        have k3 : decide ((i : Int) < (t.ks.length : Int)) = false := decide_eq_false k1
        clear HS ei h9
        go_wp2
        go_ret
        exact HP.out
set_option maxRecDepth 100000 in
set_option maxHeartbeats 4000000 in
theorem deepsF_any (G : Nat → Prop) (t : VT) (v : Value) (w : World) (hv : VIs G w v t) (hsz : t.sz ≤ 1048576) : Calls Try.prog 45 #[v] w fun e w' => ∃ v', e = .returned v' ∧ OwnNt w.heap.size w' v' (dpL t 0) ∧ Below w.heap.size w w' := by
  obtain ⟨aa, ca, ak, ck, e1, fd⟩ := hv.form
  subst e1
  obtain ⟨W1, eW1⟩ : ∃ X, X = (w.alloc (.cells #[.int .i64 t.k.1, .int .i64 t.k.2, .string t.tg, .string t.tx, .slice aa t.at_.length ca, .slice ak t.ks.length ck] 27)) := ⟨_, rfl⟩
  obtain ⟨W2, eW2⟩ : ∃ X, X = W1.alloc (.cells #[] 3) := ⟨_, rfl⟩
  have hb1 : Below w.heap.size w W1 := (by rw [eW1]; exact (Below.refl _ _).alloc (Nat.le_refl _) _)
  have hs1 : W1.heap.size = w.heap.size + 1 := (by rw [eW1]; simp)
  have hb2 : Below W1.heap.size W1 W2 := (by rw [eW2]; exact (Below.refl _ _).alloc (Nat.le_refl _) _)
  have hbb := hb1.trans (hb2.mono hb1.size)
  have HO : Hid (OwnNt w.heap.size W2 (.slice (some ⟨w.heap.size + 1, 0, none⟩) 0 0) []) := (by rw [eW2, ← hs1]; exact World.ownsRow_made W1 #[] 0 (by omega) (by unfold maxLen; omega) (by simp))
  have HV : Hid (FdIs (fun k => k < w.heap.size) W2 (.slice aa t.at_.length ca) (.slice ak t.ks.length ck) t.at_ t.ks) := fd.turn hbb.size fun k _ q => ⟨q, hbb.block k q⟩
  have HB := hide9 hbb
  have HE := hide9 (And.intro eW1 eW2)
  clear hv fd hb1 hb2 hbb hs1 eW1 eW2
  go_enter Try.func45, Try.ntmps45
  go_wp2_with fail
  rw [← HE.out.1, ← HE.out.2]
  clear HE
  refine (deeps_n w.heap.size t.sz t 0 _ _ [] _ (Nat.le_refl _) (VIs.of HV.out) HO.out ⟨_, _, rfl⟩ HB.out.size (by simpa using hsz) (by omega)).mono ?_
  rintro e W3 ⟨v', rfl, h1, h4, _, g3, c3, e3⟩
  have HP := hide9 (And.intro h1 (HB.out.trans (h4.below (fun k q => by have h9 : w.heap.size + 1 = k := (by simpa [Value.ownBlock] using q); omega) HB.out.size)))
  obtain ⟨n3, en3⟩ : ∃ n, n = ([] ++ dpL t 0).length := ⟨_, rfl⟩
  rw [← en3] at e3
  subst e3
  clear en3 h1 h4
  go_wp2
  go_ret
  exact ⟨_, rfl, HP.out.1, HP.out.2⟩
theorem dpL_mx (t : VT) : (dpL t 0).foldl max 0 = dpT t - 1 := by
  have h1 := flatA_mx (default : World) t 0 0 0
  have h2 : (flatA (default : World) t 0 0 0).map Nd.d = dpL t 0 := by unfold dpL; rw [← flatA_p (default : World) t 0 0 0, List.map_map]; rfl
  rw [h2] at h1
  omega
end Go.Proofs.Ythhnglpkfcmjiaa

namespace Go.Proofs.Ythhnglpkfcmjiaa
open Go.RowKit Go.Shelf
set_option linter.unusedVariables false
set_option linter.unusedSimpArgs false
theorem sizeSH : (Try.prog.info? 23).map (·.size) = some 2 := by kernel_rfl
/-- What the way down says of the ones ahead. -/
def Stk (X : List (Nat × VT)) (j : Nat) (S : List St) : Prop := ∀ m (hm : m < S.length), ∃ k, ∃ hk : k < X.length, k < j ∧ X[k].1 = m ∧ X[k].2.k = S[m] ∧ ∀ l (hl : l < X.length), k < l → l < j → m < X[l].1
theorem stk_any {X : List (Nat × VT)} {key : St} (hp : PreD 0 X) : ∀ (j : Nat), j ≤ X.length → (X.take j).find? (fun x => decide (x.2.k = key)) = none → ∃ S, parR [] X key = parR S (X.drop j) key ∧ PreD S.length (X.drop j) ∧ Stk X j S
  | 0, _, _ => ⟨[], rfl, hp, fun m hm => absurd hm (Nat.not_lt_zero _)⟩
  | j + 1, hj, hf => by
    have hjl : j < X.length := hj
    rw [List.take_succ_eq_append_getElem hjl, List.find?_append] at hf
    have hf1 : (X.take j).find? (fun x => decide (x.2.k = key)) = none := by
      cases h : (X.take j).find? (fun x => decide (x.2.k = key)) with
      | none => rfl
      | some y => rw [h] at hf; cases hf
    rw [hf1] at hf
    have hne : X[j].2.k ≠ key := fun e => by simp [e] at hf
    obtain ⟨S, h1, h2, h3⟩ := stk_any hp j (by omega) hf1
    rw [List.drop_eq_getElem_cons hjl] at h1 h2
    rw [parR, if_neg hne] at h1
    have hd : X[j].1 ≤ S.length := h2.1
    have hl : (S.take X[j].1 ++ [X[j].2.k]).length = X[j].1 + 1 := by simp; omega
    refine ⟨S.take X[j].1 ++ [X[j].2.k], h1, by rw [hl]; exact h2.2, fun m hm => ?_⟩
    rw [hl] at hm
    rcases Nat.lt_or_ge m X[j].1 with hlt | hge
    · obtain ⟨k, hk, k1, k2, k3, k4⟩ := h3 m (by omega)
      refine ⟨k, hk, by omega, k2, ?_, fun l hl2 a1 a2 => ?_⟩
      · rw [k3, List.getElem_append_left (by rw [List.length_take]; omega), List.getElem_take]
      · rcases Nat.lt_or_ge l j with b1 | b1
        · exact k4 l hl2 a1 b1
        · obtain rfl : l = j := by omega
          exact hlt
    · obtain rfl : m = X[j].1 := by omega
      refine ⟨j, hjl, by omega, rfl, ?_, fun l hl2 a1 a2 => by omega⟩
      rw [List.getElem_append_right (by rw [List.length_take]; omega)]
      simp
theorem par_at {X : List (Nat × VT)} {key : St} (hp : PreD 0 X) {i : Nat} (hi : i < X.length) (hf : (X.take i).find? (fun x => decide (x.2.k = key)) = none) (hk : X[i].2.k = key) : ∃ S, parR [] X key = lastS (S.take X[i].1) ∧ X[i].1 ≤ S.length ∧ Stk X i S := by
  obtain ⟨S, h1, h2, h3⟩ := stk_any hp i (by omega) hf
  rw [List.drop_eq_getElem_cons hi] at h1 h2
  rw [parR, if_pos hk] at h1
  exact ⟨S, h1, h2.1, h3⟩
theorem par_some {X : List (Nat × VT)} {key : St} (hp : PreD 0 X) {i k : Nat} (hi : i < X.length) (hf : (X.take i).find? (fun x => decide (x.2.k = key)) = none) (hk : X[i].2.k = key) (hki : k < i) (hd : X[k].1 + 1 = X[i].1) (hno : ∀ j (hj : j < X.length), k < j → j < i → X[j].1 + 1 ≠ X[i].1) : parR [] X key = (X[k].2.k, true) := by
  obtain ⟨S, h1, h2, h3⟩ := par_at hp hi hf hk
  obtain ⟨k0, hk0, a1, a2, a3, a4⟩ := h3 X[k].1 (by omega)
  have e : k0 = k := by
    rcases Nat.lt_trichotomy k0 k with h | h | h
    · have := a4 k (by omega) h hki; omega
    · exact h
    · exact absurd (by omega) (hno k0 hk0 h a1)
  subst e
  have hl : (S.take X[i].1).length = X[k0].1 + 1 := by rw [List.length_take]; omega
  rw [h1, lastS_pos hl, List.getElem_take, a3]
theorem par_none {X : List (Nat × VT)} {key : St} (hp : PreD 0 X) {i : Nat} (hi : i < X.length) (hf : (X.take i).find? (fun x => decide (x.2.k = key)) = none) (hk : X[i].2.k = key) (hno : ∀ j (hj : j < X.length), j < i → X[j].1 + 1 ≠ X[i].1) : parR [] X key = ((0, 0), false) := by
  obtain ⟨S, h1, h2, h3⟩ := par_at hp hi hf hk
  rcases Nat.eq_zero_or_pos X[i].1 with h0 | h0
  · rw [h1, h0]; rfl
  · obtain ⟨k0, hk0, a1, a2, _, _⟩ := h3 (X[i].1 - 1) (by omega)
    exact absurd (by omega) (hno k0 hk0 a1)
theorem par_no {X : List (Nat × VT)} {key : St} (hp : PreD 0 X) (hf : X.find? (fun x => decide (x.2.k = key)) = none) : parR [] X key = ((0, 0), false) := by
  obtain ⟨S, h1, _, _⟩ := stk_any hp X.length (Nat.le_refl _) (by rw [List.take_length]; exact hf)
  rw [h1, List.drop_length]; rfl
set_option maxRecDepth 100000 in
set_option maxHeartbeats 8000000 in
/-- The document's Parent. -/
theorem refParent_any (G : Nat → Prop) (t : VT) (key : St) (v : Value) (w : World) (h : VIs G w v t) (hsz : t.sz ≤ 1048576) : Calls Try.prog 25 #[v, .agg #[.int .i64 key.1, .int .i64 key.2]] w fun e w' => e = .returned (.tuple #[.agg #[.int .i64 (parR [] (flatD t 0) key).1.1, .int .i64 (parR [] (flatD t 0) key).1.2], .bool (parR [] (flatD t 0) key).2]) ∧ Below w.heap.size w w' := by
  obtain ⟨aa, ca, ak, ck, e1, fd⟩ := h.form
  subst e1
  obtain ⟨W0, eW⟩ : ∃ X, X = ((w.alloc (.cells #[.int .i64 t.k.1, .int .i64 t.k.2, .string t.tg, .string t.tx, .slice aa t.at_.length ca, .slice ak t.ks.length ck] 27)).alloc (.cells #[.int .i64 key.1, .int .i64 key.2] 23)).alloc (.cells #[.int .i64 0, .int .i64 0] 23) := ⟨_, rfl⟩
  have hb0 : Below w.heap.size w W0 := (by rw [eW]; exact (((Below.refl _ _).alloc (Nat.le_refl _) _).alloc (by simp) _).alloc (by simp; omega) _)
  have hT : W0.heap[w.heap.size]? = some (.cells #[.int .i64 t.k.1, .int .i64 t.k.2, .string t.tg, .string t.tx, .slice aa t.at_.length ca, .slice ak t.ks.length ck] 27) := (by rw [eW, Below.heap_alloc _ _ _ (by simp; omega), Below.heap_alloc _ _ _ (by simp)]; exact heap_alloc_new _ _)
  have hK : W0.heap[w.heap.size + 1]? = some (.cells #[.int .i64 key.1, .int .i64 key.2] 23) := (by rw [eW, Below.heap_alloc _ _ _ (by simp)]; have h9 := heap_alloc_new (w.alloc (.cells #[.int .i64 t.k.1, .int .i64 t.k.2, .string t.tg, .string t.tx, .slice aa t.at_.length ca, .slice ak t.ks.length ck] 27)) (.cells #[.int .i64 key.1, .int .i64 key.2] 23); rw [show (w.alloc (.cells #[.int .i64 t.k.1, .int .i64 t.k.2, .string t.tg, .string t.tx, .slice aa t.at_.length ca, .slice ak t.ks.length ck] 27)).heap.size = w.heap.size + 1 by simp] at h9; exact h9)
  have hR : W0.heap[w.heap.size + 2]? = some (.cells #[.int .i64 0, .int .i64 0] 23) := (by rw [eW]; have h9 := heap_alloc_new ((w.alloc (.cells #[.int .i64 t.k.1, .int .i64 t.k.2, .string t.tg, .string t.tx, .slice aa t.at_.length ca, .slice ak t.ks.length ck] 27)).alloc (.cells #[.int .i64 key.1, .int .i64 key.2] 23)) (.cells #[.int .i64 0, .int .i64 0] 23); rw [show ((w.alloc (.cells #[.int .i64 t.k.1, .int .i64 t.k.2, .string t.tg, .string t.tx, .slice aa t.at_.length ca, .slice ak t.ks.length ck] 27)).alloc (.cells #[.int .i64 key.1, .int .i64 key.2] 23)).heap.size = w.heap.size + 2 by simp] at h9; exact h9)
  have HFd := hide9 (fd.below hb0)
  have HB := hide9 hb0
  have HE := hide9 eW
  have HT := hide9 hT
  have HK := hide9 hK
  have HR := hide9 hR
  obtain ⟨y0, y1, y2, y3, y4, y5⟩ := row6 hT
  clear h fd hb0 eW hT hK hR
  obtain ⟨X, eX⟩ : ∃ X, X = flatD t 0 := ⟨_, rfl⟩
  rw [← eX]
  have HeX := hide9 eX
  clear eX
  go_enter Try.func25, Try.ntmps25
  go_upto_region 1 with fail
  rw [← HE.out]
  go_wp2_with fail
  clear HE y0 y1 y2 y3 y4 y5
  refine (flatF_any G t _ _ (VIs.of HFd.out) hsz).mono ?_
  rintro e w0 ⟨v1, L, rfl, h1, h2, _, h4⟩
  obtain ⟨a1, c1, e1⟩ := OwnE.form h1
  subst e1
  have HLl : Hid (L.length = t.sz) := (by show _ = _; rw [← flT_len, ← h2, List.length_map])
  have HM := hide9 h2
  have HL0 := hide9 h1
  replace HT : Hid (w0.heap[w.heap.size]? = some (.cells #[.int .i64 t.k.1, .int .i64 t.k.2, .string t.tg, .string t.tx, .slice aa t.at_.length ca, .slice ak t.ks.length ck] 27)) := (h4.block _ (row_lt HT.out)).trans HT.out
  replace HK : Hid (w0.heap[w.heap.size + 1]? = some (.cells #[.int .i64 key.1, .int .i64 key.2] 23)) := (h4.block _ (row_lt HK.out)).trans HK.out
  replace HR : Hid (w0.heap[w.heap.size + 2]? = some (.cells #[.int .i64 0, .int .i64 0] 23)) := (h4.block _ (row_lt HR.out)).trans HR.out
  replace HFd := hide9 (HFd.out.below h4)
  replace HB := hide9 (HB.out.trans (h4.mono HB.out.size))
  clear h1 h2 h4
  obtain ⟨y0, y1, y2, y3, y4, y5⟩ := row6 HT.out
  go_wp2_with fail
  clear y0 y1 y2 y3 y4 y5
  refine (deepsF_any G t _ _ (VIs.of HFd.out) hsz).mono ?_
  rintro e w1 ⟨v2, rfl, h1, h4⟩
  obtain ⟨a2, c2, e2⟩ := OwnE.form h1
  have hDl := dpL_len t 0
  rw [hDl] at e2
  subst e2
  have HD := hide9 h1
  have HL := hide9 (OwnE.below HL0.out h4)
  replace HK : Hid (w1.heap[w.heap.size + 1]? = some (.cells #[.int .i64 key.1, .int .i64 key.2] 23)) := (h4.block _ (row_lt HK.out)).trans HK.out
  replace HR : Hid (w1.heap[w.heap.size + 2]? = some (.cells #[.int .i64 0, .int .i64 0] 23)) := (h4.block _ (row_lt HR.out)).trans HR.out
  have HB1 := hide9 (HB.out.trans (h4.mono HB.out.size))
  clear h1 h4 HL0 HFd HT HB
  skip
  have hXl : X.length = t.sz := (by rw [HeX.out]; have h9 := dpL_len t 0; unfold dpL at h9; rw [List.length_map] at h9; exact h9)
  have HXd : Hid (dpL t 0 = X.map Prod.fst) := (by rw [HeX.out]; exact (rfl : _ = _))
  have HXk : Hid (L.map Prod.fst = X.map Prod.snd) := (by show _ = _; rw [HM.out, HeX.out, flatD_snd])
  have HPr : Hid (PreD 0 X) := (by rw [HeX.out]; exact preD t)
  have HXl := hide9 hXl
  have HDl := hide9 hDl
  have hL2 : L.length ≤ 1048576 := by have := HLl.out; omega
  clear hXl hDl HM
  obtain ⟨kb, ekb⟩ : ∃ b, b = w.heap.size + 1 := ⟨_, rfl⟩
  obtain ⟨rb, erb⟩ : ∃ b, b = w.heap.size + 2 := ⟨_, rfl⟩
  rw [← ekb] at HK
  rw [← erb] at HR
  have Hrb : Hid (w.heap.size ≤ rb) := (by show _ ≤ _; omega)
  go_wp2
  (try rw [show w.heap.size + 1 + 1 = rb by omega])
  (try rw [← erb])
  (try rw [← ekb])
  clear ekb erb
  go_loopw [8] (fun iv wr => ∃ i : Nat, iv = .int .i64 (i : Int) ∧ i ≤ L.length ∧ Hid ((X.take i).find? (fun x => decide (x.2.k = key)) = none) ∧ Hid (Below w1.heap.size w1 wr)) (fun iv _ => L.length - (intOf iv).toNat)
  case atStart => exact ⟨0, rfl, Nat.zero_le _, by (show _ = _; rfl), Below.refl _ _⟩
  case round =>
    obtain ⟨i, rfl, hil, HT, HBr⟩ := hrel
    by_cases hlt : i < L.length
    · have hiX : i < X.length := by rw [HXl.out, ← HLl.out]; exact hlt
      obtain ⟨g, cap, eg, _, hcs, _⟩ := OwnE.cells vnC_len HL.out hlt
      injection eg with e1 e8 e9
      subst e1
      clear e8 e9
      have hgl := (OwnE.lt HL.out g rfl).2
      have hxk : L[i].1 = X[i].2 := (by have h9 := congrArg (fun l => l[i]?) HXk.out; simp only [List.getElem?_map, List.getElem?_eq_getElem hlt, List.getElem?_eq_getElem hiX] at h9; exact Option.some.inj h9)
      have p0 : wr.cell? ⟨g, i * 6, none⟩ = some (.int .i64 X[i].2.k.1) := (HBr.out.cell (p := ⟨g, i * 6, none⟩) hgl).trans (by rw [← hxk]; exact hcs 0 _ rfl)
      have p1 : wr.cell? ⟨g, i * 6 + 1, none⟩ = some (.int .i64 X[i].2.k.2) := (HBr.out.cell (p := ⟨g, i * 6 + 1, none⟩) hgl).trans (by rw [← hxk]; exact hcs 1 _ rfl)
      have hfn : (X.take (i + 1)).find? (fun x => decide (x.2.k = key)) = if X[i].2.k = key then some X[i] else none := (by rw [List.take_succ_eq_append_getElem hiX, List.find?_append, HT.out]; simp only [Option.none_or, List.find?_cons, List.find?_nil]; split <;> simp_all)
      obtain ⟨s, es⟩ : ∃ s, s = X[i].2.k := ⟨_, rfl⟩
      rw [← es] at p0 p1 hfn
      have hgw : g < wr.heap.size := Nat.lt_of_lt_of_le hgl HBr.out.size
      have HXc : Hid (g < wr.heap.size ∧ wr.cell? ⟨g, i * 6, none⟩ = some (.int .i64 s.1) ∧ wr.cell? ⟨g, i * 6 + 1, none⟩ = some (.int .i64 s.2) ∧ True) := ⟨hgw, p0, p1, trivial⟩
      have HKr : Hid (kb < wr.heap.size ∧ wr.cell? ⟨kb, 0, none⟩ = some (.int .i64 key.1) ∧ wr.cell? ⟨kb, 1, none⟩ = some (.int .i64 key.2)) := (by have h9 := (HBr.out.block _ (row_lt HK.out)).trans HK.out; exact ⟨row_lt h9, by rw [cell_of_row _ _ _ _ _ _ h9]; rfl, by rw [cell_of_row _ _ _ _ _ _ h9]; rfl⟩)
      have HFn := hide9 hfn
      have Hes : Hid (X[i].2.k = s) := es.symm
      have HgL : Hid (g < w1.heap.size) := hgl
      have k1 : (i : Int) < (L.length : Int) := by omega
      have k0 : (0 : Int) ≤ (i : Int) := by omega
      clear hfn hcs hgl p0 p1 es hxk hgw
      go_upto_region 6 with fail
      refine wp_region_held_drew (S := fun W' => Below wr.heap.size wr W') (by kernel_rfl) (Below.refl _ _).drew (fun hHeld => ?_)
      obtain ⟨Uf1u0, eW⟩ : ∃ X, X = wr.drew := ⟨_, rfl⟩
      have hb : Below wr.heap.size wr Uf1u0 := by rw [eW]; exact (Below.refl _ _).drew
      rw [← eW] at hHeld ⊢
      clear eW hb
      refine tkW 0 (some 20) (v := ?_) ?_ hHeld ?_
      rotate_left
      · (intro ww _; go_simp; try with_reducible rfl)
      refine tkW 1 (some 21) (v := ?_) ?_ hHeld ?_
      rotate_left
      · (intro ww _; go_simp; try with_reducible rfl)
      refine tkW 2 (some 22) (v := ?_) ?_ hHeld ?_
      rotate_left
      · (intro ww hSw; (try dsimp only at hSw); go_simp; try with_reducible rfl)
      refine tkW 3 (some 23) (v := ?_) ?_ hHeld ?_
      rotate_left
      · (intro ww _; go_simp; try with_reducible rfl)
      refine tkW 4 (some 24) (v := ?_) ?_ hHeld ?_
      rotate_left
      · (intro ww hSw; (try dsimp only at hSw); obtain ⟨c9, c8⟩ := ckCells hSw HXc.out; go_simp; try with_reducible rfl)
      refine tkW 5 (some 25) (v := ?_) ?_ hHeld ?_
      rotate_left
      · (intro ww hSw; (try dsimp only at hSw); have c9 : ww.cell? ⟨kb, 0, none⟩ = some (.int .i64 key.1) := (hSw.cell (p := ⟨kb, 0, none⟩) HKr.out.1).trans HKr.out.2.1; have c8 : ww.cell? ⟨kb, 1, none⟩ = some (.int .i64 key.2) := (hSw.cell (p := ⟨kb, 1, none⟩) HKr.out.1).trans HKr.out.2.2; go_simp; try with_reducible rfl)
      refine tkW 6 (some 26) (v := .bool (!decide ((s.1, s.2) = (key.1, key.2)))) ?_ hHeld ?_
      · (intro ww hSw; (try dsimp only at hSw); have hq : ∀ w, (binOp .neq 23 (.agg #[.int .i64 s.1, .int .i64 s.2]) (.agg #[.int .i64 key.1, .int .i64 key.2])).run Try.prog w = .ok (.bool (!decide ((s.1, s.2) = (key.1, key.2)))) w := fun w => neqSt s.1 s.2 key.1 key.2 w; go_simp; try with_reducible rfl)
      refine wpAnyH_done (by kernel_rfl) ?_ _
      obtain ⟨U, eU⟩ : ∃ X, X = Uf1u0 := ⟨_, rfl⟩
      rw [← eU] at hHeld ⊢
      clear eU
      have HB2 := hide9 (HBr.out.trans (hHeld.mono HBr.out.size))
      clear hHeld HXc HKr HBr
      by_cases hky : s = key
      · have q8 : decide ((s.1, s.2) = (key.1, key.2)) = true := decide_eq_true hky
        have Hky : Hid (X[i].2.k = key) := Hes.out.trans hky
        rw [q8, show (!true) = false from rfl]
        clear q8 hky Hes HFn
        have m1 : IntKind.i64.wrap ((i : Int) - 1) = (i : Int) - 1 := by rw [IntKind.wrap_i64]; omega
        go_wp2
        go_loopw [9] (fun kv wr => ∃ k : Nat, k ≤ i ∧ kv = .int .i64 ((k : Int) - 1) ∧ Hid (∀ j (hj : j < X.length), k ≤ j → j < i → X[j].1 + 1 ≠ X[i].1) ∧ Hid (Below w1.heap.size w1 wr)) (fun kv _ => (intOf kv + 1).toNat)
        case atStart => exact ⟨i, Nat.le_refl _, rfl, fun j _ a b => by omega, HB2⟩
        case round =>
          obtain ⟨k, hk, rfl, HNo, HB3⟩ := hrel
          cases k with
          | zero =>
            have z1 : ¬ (0 : Int) ≤ ((0 : Nat) : Int) - 1 := by omega
            have z2 : ((0 : Nat) : Int) - 1 = -1 := by omega
            have HF : Hid (parR [] X key = ((0, 0), false)) := par_none HPr.out hiX HT.out Hky.out (fun j hj a => HNo.out j hj (Nat.zero_le _) a)
            have HRz : Hid (wr.heap[rb]? = some (.cells #[.int .i64 0, .int .i64 0] 23)) := (HB3.out.block _ (row_lt HR.out)).trans HR.out
            go_wp2_with (refine wpList_store_row rfl 23 (.tmp 4) (.tmp 48) rfl rb 23 #[.int .i64 0, .int .i64 0] #[.int .i64 0, .int .i64 0] rfl rfl HRz.out sizeSH rfl (by simp [Value.oneCell']) ?_)
            have hT9 : Below w.heap.size w (wr.setRow rb #[.int .i64 0, .int .i64 0]) := (HB1.out.trans (HB3.out.mono HB1.out.size)).grown (grown_setRow _ _ _) (HB1.out.trans (HB3.out.mono HB1.out.size)).size (fun k e => by cases e; exact Hrb.out)
            refine bodyPost_ret (v := .tuple #[.agg #[.int .i64 0, .int .i64 0], .bool false]) ?res48 rfl ?post48
            case res48 => exact Eq.trans (results_cell_tmp9 (p := 4) (u := 5) rfl _ _ rb _ rfl (loadST _ _ _ _ (setRow_same HRz.out))) rfl
            exact ⟨by rw [HF.out], hT9⟩
          | succ k =>
            have e1 : ((k + 1 : Nat) : Int) - 1 = (k : Int) := by omega
            rw [e1]
            have hkL : k < L.length := by omega
            have hkX : k < X.length := by omega
            have hkD : k < (dpL t 0).length := by rw [HDl.out, ← HXl.out]; exact hkX
            have hiD : i < (dpL t 0).length := by rw [HDl.out, ← HXl.out]; exact hiX
            obtain ⟨gd, cpd, egd, _, hcd, _⟩ := OwnE.cells ntC_len HD.out hkD
            obtain ⟨gd2, cpd2, egd2, _, hcd2, _⟩ := OwnE.cells ntC_len HD.out hiD
            injection egd with d1 d2 d3
            injection egd2 with d4 d5 d6
            rw [d1] at d4
            injection d4 with d4
            injection d4 with d4
            subst d1 d4
            clear d2 d3 d5 d6
            have hgd := (OwnE.lt HD.out gd rfl).2
            have f0 : wr.cell? ⟨gd, k, none⟩ = some (.int .i64 (X[k].1 : Int)) := (HB3.out.cell (p := ⟨gd, k, none⟩) hgd).trans (by have h9 := hcd 0 _ rfl; rw [Nat.mul_one] at h9; simp only [HXd.out, List.getElem_map] at h9; exact h9)
            have f1 : wr.cell? ⟨gd, i, none⟩ = some (.int .i64 (X[i].1 : Int)) := (HB3.out.cell (p := ⟨gd, i, none⟩) hgd).trans (by have h9 := hcd2 0 _ rfl; rw [Nat.mul_one] at h9; simp only [HXd.out, List.getElem_map] at h9; exact h9)
            obtain ⟨g9, cp9, eg9, _, hc9, _⟩ := OwnE.cells vnC_len HL.out hkL
            injection eg9 with d1 d2 d3
            injection d1 with d1
            injection d1 with d1
            subst d1
            clear d2 d3
            have hxk9 : L[k].1 = X[k].2 := (by have h9 := congrArg (fun l => l[k]?) HXk.out; simp only [List.getElem?_map, List.getElem?_eq_getElem hkL, List.getElem?_eq_getElem hkX] at h9; exact Option.some.inj h9)
            have p0 : ∀ n, (wr.drewN n).cell? ⟨g, k * 6, none⟩ = some (.int .i64 X[k].2.k.1) := fun n => (HB3.out.cell (p := ⟨g, k * 6, none⟩) HgL.out).trans (by rw [← hxk9]; exact hc9 0 _ rfl)
            have p1 : ∀ n, (wr.drewN n).cell? ⟨g, k * 6 + 1, none⟩ = some (.int .i64 X[k].2.k.2) := fun n => (HB3.out.cell (p := ⟨g, k * 6 + 1, none⟩) HgL.out).trans (by rw [← hxk9]; exact hc9 1 _ rfl)
            have hps : X[k].1 + 1 = X[i].1 → parR [] X key = (X[k].2.k, true) := fun e => par_some HPr.out hiX HT.out Hky.out (by omega) e (fun j hj a b => HNo.out j hj (by omega) b)
            have hnk : X[k].1 + 1 ≠ X[i].1 → ∀ j (hj : j < X.length), k ≤ j → j < i → X[j].1 + 1 ≠ X[i].1 := fun e j hj a b => (by rcases Nat.lt_or_ge k j with c | c; (exact HNo.out j hj (by omega) b); (obtain rfl : j = k := by omega); exact e)
            have hbx : X[i].1 ≤ 1048576 := (by have h9 := foldl_max_mem (dpL t 0) 0 X[i].1 (by rw [HXd.out]; exact List.mem_map_of_mem (List.getElem_mem hiX)); rw [dpL_mx] at h9; have := (dp_le_n t.sz).1 t (Nat.le_refl _); omega)
            have HPs := hide9 hps
            have HNk := hide9 hnk
            obtain ⟨u, eu⟩ : ∃ u, u = X[k].2.k := ⟨_, rfl⟩
            obtain ⟨dk, edk⟩ : ∃ d, d = X[k].1 := ⟨_, rfl⟩
            obtain ⟨di, edi⟩ : ∃ d, d = X[i].1 := ⟨_, rfl⟩
            rw [← eu] at HPs p0 p1
            rw [← edk] at HPs HNk f0
            rw [← edi] at f1 hbx
            have Hdi := hide9 edi
            rw [← Hdi.out] at HPs HNk
            have Hdk := hide9 edk
            have j0 : (0 : Int) ≤ (k : Int) := by omega
            have j1 : (k : Int) < (L.length : Int) := by omega
            have j2 : (k : Int) < (t.sz : Int) := by have := HXl.out; omega
            have j3 : (i : Int) < (t.sz : Int) := by have := HXl.out; omega
            have m2 : IntKind.i64.wrap ((di : Int) - 1) = (di : Int) - 1 := by rw [IntKind.wrap_i64]; omega
            clear e1 hcd hcd2 hc9 hps hnk eu edk edi hxk9 hgd
            by_cases heq : dk + 1 = di
            · have HF := hide9 (HPs.out heq)
              have q9 : ((dk : Int) == (di : Int) - 1) = true := (by rw [beq_iff_eq]; omega)
              clear heq HPs HNk
              have HRz : Hid (∀ n, (wr.drewN n).heap[rb]? = some (.cells #[.int .i64 0, .int .i64 0] 23)) := fun n => (HB3.out.block _ (row_lt HR.out)).trans HR.out
              go_wp2
              go_quiet (fail)
              go_wp2_with (refine wpList_store_row rfl 23 (.tmp 4) (.tmp 47) rfl rb 23 #[.int .i64 0, .int .i64 0] #[.int .i64 u.1, .int .i64 u.2] rfl rfl (HRz.out _) sizeSH rfl (by simp [Value.oneCell']) ?_)
              have hB9 := below_drewN HB3.out nq
              have hT9 : Below w.heap.size w ((wr.drewN nq).setRow rb #[.int .i64 u.1, .int .i64 u.2]) := (HB1.out.trans (hB9.mono HB1.out.size)).grown (grown_setRow _ _ _) (HB1.out.trans (hB9.mono HB1.out.size)).size (fun k e => by cases e; exact Hrb.out)
              refine bodyPost_ret (v := .tuple #[.agg #[.int .i64 u.1, .int .i64 u.2], .bool true]) ?res3 rfl ?post3
              case res3 => exact Eq.trans (results_cell_tmp9 (p := 4) (u := 5) rfl _ _ rb _ rfl (loadST _ _ _ _ (setRow_same (HRz.out _)))) rfl
              exact ⟨by rw [HF.out], hT9⟩
            · have HN2 := hide9 (HNk.out heq)
              skip
              have q9 : ((dk : Int) == (di : Int) - 1) = false := (by rw [beq_eq_false_iff_ne]; omega)
              clear heq HPs HNk
              have m3 : IntKind.i64.wrap ((k : Int) - 1) = (k : Int) - 1 := by rw [IntKind.wrap_i64]; omega
              go_wp2
              go_quiet (fail)
              go_wp2
              go_roundw
              case rel => exact ⟨k, by omega, by go_num, (by rw [Hdi.out] at HN2; exact HN2), below_drewN HB3.out _⟩
              case measure => simp [intOf]
      · have HT2 : Hid ((X.take (i + 1)).find? (fun x => decide (x.2.k = key)) = none) := HFn.out.trans (if_neg hky)
        have q8 : decide ((s.1, s.2) = (key.1, key.2)) = false := decide_eq_false hky
        rw [q8]
        clear q8 hky
        have n1 : IntKind.i64.wrap ((i : Int) + 1) = (i : Int) + 1 := by rw [IntKind.wrap_i64]; omega
        go_wp2
        go_roundw
        case rel => exact ⟨i + 1, by go_num, by omega, HT2, HB2⟩
        case measure => simp [intOf]; omega
    · have k1 : ¬ (i : Int) < (L.length : Int) := by omega
      have HF : Hid (parR [] X key = ((0, 0), false)) := par_no HPr.out (by have h9 := HT.out; rw [List.take_of_length_le (by have := HXl.out; have := HLl.out; omega)] at h9; exact h9)
      clear HT
      have HRz : Hid (wr.heap[rb]? = some (.cells #[.int .i64 0, .int .i64 0] 23)) := (HBr.out.block _ (row_lt HR.out)).trans HR.out
      go_wp2_with (refine wpList_store_row rfl 23 (.tmp 4) (.tmp 49) rfl rb 23 #[.int .i64 0, .int .i64 0] #[.int .i64 0, .int .i64 0] rfl rfl HRz.out sizeSH rfl (by simp [Value.oneCell']) ?_)
      have hT9 : Below w.heap.size w (wr.setRow rb #[.int .i64 0, .int .i64 0]) := (HB1.out.trans (HBr.out.mono HB1.out.size)).grown (grown_setRow _ _ _) (HB1.out.trans (HBr.out.mono HB1.out.size)).size (fun k e => by cases e; exact Hrb.out)
      refine bodyPost_ret (v := .tuple #[.agg #[.int .i64 0, .int .i64 0], .bool false]) ?res49 rfl ?post49
      case res49 => exact Eq.trans (results_cell_tmp9 (p := 4) (u := 5) rfl _ _ rb _ rfl (loadST _ _ _ _ (setRow_same HRz.out))) rfl
      exact ⟨by rw [HF.out], hT9⟩
end Go.Proofs.Ythhnglpkfcmjiaa
