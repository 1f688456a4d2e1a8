/- New, Put, Get, Value. -/
import Derived.Test.YtecliogffcnfiaaLwC
namespace Go.Proofs.Ytecliogffcnfiaa
open Go.RowKit
set_option linter.unusedVariables false
set_option linter.unusedSimpArgs false
theorem results_cell_row2 {P : Program} {fn : Func} {p u : Tmp} {ty : TypeId} (h : fn.results = #[.cell p ty, .tmp u]) (tmps : Array Value) (w : World) (g : Nat) (t : TypeId) (cs : Array Value) (fr : Nat × Nat) (d : TypeDesc)
    (hp : tmps.getD p undef = .pointer (some ⟨g, 0, none⟩)) (hg : w.heap[g]? = some (.cells cs t fr))
    (hu : P.underlying ty = some d) (hd : (match d with | .struct _ | .array _ _ => true | _ => false) = true) (hi : (P.info? ty).map (·.size) = some cs.size) {k : Value} (hk : tmps.getD u undef = k) :
    (results fn tmps).run P w = .ok (.tuple #[.agg cs, k]) w := by
  rw [results_cell_tmp h, hp, hk]
  simp [asAddr, run_loadVar_row w g t ty cs fr d hg hu hd hi]

theorem makeH (w : World) : (Instr.makeMap 48 none).run Try.prog w = .ok (.map (some w.heap.size)) (w.alloc (.map #[] 0)) := by kernel_rfl
theorem makeN (w : World) : (Instr.makeMap 49 none).run Try.prog w = .ok (.map (some w.heap.size)) (w.alloc (.map #[] 0)) := by kernel_rfl
theorem RegIs.new (w : World) : RegIs (fun j => w.heap.size ≤ j ∧ j < w.heap.size + 3) (((w.alloc (.map #[] 0)).alloc (.map #[] 0)).alloc (.cells #[.map (some w.heap.size), .map (some (w.heap.size + 1))] 51)) (w.heap.size + 2) [] (fun _ => []) w.heap.size (w.heap.size + 1) [] where
  row := by have := heap_alloc_new ((w.alloc (.map #[] 0)).alloc (.map #[] 0)) (.cells #[.map (some w.heap.size), .map (some (w.heap.size + 1))] 51); simpa using this
  hm := ⟨[], ⟨#[], 0, ((Below.heap_alloc _ _ _ (by simp; omega)).trans (Below.heap_alloc _ _ _ (by simp))).trans (heap_alloc_new w _), ⟨rfl, List.nodup_nil, fun x h => by simp at h⟩⟩, List.Perm.refl _⟩
  srt := List.Pairwise.nil
  nm := ⟨#[], 0, (Below.heap_alloc _ _ _ (by simp)).trans (by have := heap_alloc_new (w.alloc (.map #[] 0)) (.map #[] 0); simpa using this), ⟨rfl, List.nodup_nil, fun x h => by simp at h⟩⟩
  nod := List.nodup_nil
  own := fun x h => absurd h (by simp)
  no := fun _ _ => rfl
  nem := fun x h => absurd h (by simp)
  bn := fun _ => List.nodup_nil
  ne := by omega
  fr := by omega
  fa := by omega
  fb := by omega
  fe := fun x h => absurd h (by simp)
  dis := fun x h => absurd h (by simp)
  lt := fun k hk => by simp; omega

set_option maxHeartbeats 1000000 in
theorem new_any (w : World) : Calls Try.prog 12 #[] w fun e w' => ∃ rb F, e = .returned (.pointer (some ⟨rb, 0, none⟩)) ∧ RegOk F w' rb [] ∧ (∀ k, F k → w.heap.size ≤ k) ∧ Below w.heap.size w w' := by
  have m1 := makeH w
  have m2 := makeN (w.alloc (.map #[] 0))
  go_enter Try.func12, Try.ntmps12
  go_wp2
  go_ret
  have h := RegIs.new w
  exact ⟨w.heap.size + 2, _, rfl, ⟨_, _, _, _, h, fun a n => by simp, by simp⟩, fun k hk => hk.1, ((((Below.refl _ _).alloc (Nat.le_refl _) _).alloc (by simp) _).alloc (by simp; omega) _)⟩

set_option maxRecDepth 100000 in
set_option maxHeartbeats 4000000 in
theorem put_any (F : Nat → Prop) (rb : Nat) (R : List Rg) (r : Rg) (w : World) (h : RegOk F w rb R) (hlen : R.length < 4096) (hs : r.nm.size ≤ 281474976710656) :
    Calls Try.prog 10 #[.pointer (some ⟨rb, 0, none⟩), .agg #[.int .i64 r.nd.1, .int .i64 r.nd.2, .string r.nm, .int .i64 r.at_.1, .int .i64 r.at_.2, .string r.vl, .bool r.gn]] w fun e w' => e = .returned (.int .i64 (chkR r)) ∧ TakeP F w rb (putC R r) w' := by
  obtain ⟨W0, eW⟩ : ∃ X, X = w.alloc (.cells (rgCells r).toArray 26) := ⟨_, rfl⟩
  have hb0 : Below w.heap.size w W0 := by rw [eW]; exact (Below.refl _ _).alloc (Nat.le_refl _) _
  have HX : Hid (BxC w.heap.size (rgCells r) 26 W0) := by rw [eW]; exact BxC.new w _ _
  have HR : Hid (RegOk F W0 rb R) := h.below hb0
  have HB : Hid (Below w.heap.size w W0) := hb0
  have HFl : Hid (∀ k, F k → k < w.heap.size) := h.lt
  have x0 : W0.cell? ⟨w.heap.size, 0, none⟩ = some (.int .i64 r.nd.1) := HX.out.cell 0 _ rfl
  have x1 : W0.cell? ⟨w.heap.size, 1, none⟩ = some (.int .i64 r.nd.2) := HX.out.cell 1 _ rfl
  have x2 : W0.cell? ⟨w.heap.size, 2, none⟩ = some (.string r.nm) := HX.out.cell 2 _ rfl
  have x3 : W0.cell? ⟨w.heap.size, 3, none⟩ = some (.int .i64 r.at_.1) := HX.out.cell 3 _ rfl
  have x4 : W0.cell? ⟨w.heap.size, 4, none⟩ = some (.int .i64 r.at_.2) := HX.out.cell 4 _ rfl
  have x5 : W0.cell? ⟨w.heap.size, 5, none⟩ = some (.string r.vl) := HX.out.cell 5 _ rfl
  have x6 : W0.cell? ⟨w.heap.size, 6, none⟩ = some (.bool r.gn) := HX.out.cell 6 _ rfl
  rw [eW] at x0 x1 x2 x3 x4 x5 x6
  clear h hb0
  go_enter Try.func10, Try.ntmps10
  go_wp2_with fail
  have eW2 := eW
  simp only [rgCells] at eW2
  rw [← eW2]
  clear eW2 eW x0 x1 x2 x3 x4 x5 x6
  refine (check_any r hs _).mono ?_
  rintro e w1 ⟨rfl, hb⟩
  replace HX : Hid (BxC w.heap.size (rgCells r) 26 w1) := HX.out.below hb
  replace HR : Hid (RegOk F w1 rb R) := HR.out.below hb
  replace HB : Hid (Below w.heap.size w w1) := HB.out.trans (hb.mono HB.out.size)
  clear hb
  have x0 : w1.cell? ⟨w.heap.size, 0, none⟩ = some (.int .i64 r.nd.1) := HX.out.cell 0 _ rfl
  have x1 : w1.cell? ⟨w.heap.size, 1, none⟩ = some (.int .i64 r.nd.2) := HX.out.cell 1 _ rfl
  have x2 : w1.cell? ⟨w.heap.size, 2, none⟩ = some (.string r.nm) := HX.out.cell 2 _ rfl
  have x3 : w1.cell? ⟨w.heap.size, 3, none⟩ = some (.int .i64 r.at_.1) := HX.out.cell 3 _ rfl
  have x4 : w1.cell? ⟨w.heap.size, 4, none⟩ = some (.int .i64 r.at_.2) := HX.out.cell 4 _ rfl
  have x5 : w1.cell? ⟨w.heap.size, 5, none⟩ = some (.string r.vl) := HX.out.cell 5 _ rfl
  have x6 : w1.cell? ⟨w.heap.size, 6, none⟩ = some (.bool r.gn) := HX.out.cell 6 _ rfl
  by_cases h0 : chkR r = 0
  · have HP : Hid (putC R r = insR R r) := by (show _ = _; unfold putC okR; simp [h0])
    have HC : Hid (chkR r = 0) := h0
    rw [h0]
    clear h0
    go_wp2_with fail
    clear x0 x1 x2 x3 x4 x5 x6
    refine (take_any F rb R r _ HR.out hlen).mono ?_
    rintro e w2 ⟨⟨v, rfl⟩, F2, t1, t2, t3, t4⟩
    have HT : Hid (TakeP F w rb (putC R r) w2) := (by rw [HP.out]; exact TakeP.of t1 t2 (fun k hk => (t3 k hk).imp id (fun h => Nat.le_trans HB.out.size h)) ((Touch.of_below HB.out).trans t4 (fun j hj => .inl hj)))
    clear t1 t2 t3 t4
    go_wp2
    go_ret
    exact ⟨ret_int HC.out.symm, HT.out⟩
  · have HP : Hid (putC R r = R) := by (show _ = _; unfold putC okR; simp [h0])
    have q : (chkR r == 0) = false := by simpa using h0
    have HT : Hid (TakeP F w rb (putC R r) w1) := (by rw [HP.out]; exact TakeP.of HR.out (fun _ h => h) (fun _ h => .inl h) (Touch.of_below HB.out))
    clear h0
    go_wp2
    go_ret
    exact ⟨rfl, HT.out⟩

set_option maxRecDepth 100000 in
set_option maxHeartbeats 8000000 in
theorem get_any (F : Nat → Prop) (rb : Nat) (R : List Rg) (k : Ky) (w : World) (h : RegOk F w rb R) :
    Calls Try.prog 5 #[.pointer (some ⟨rb, 0, none⟩), .agg #[.int .i64 k.1.1, .int .i64 k.1.2], .string k.2] w fun e w' => e = .returned (.tuple #[rgV (atR R k), .bool (hasR R k)]) ∧ Below w.heap.size w w' := by
  obtain ⟨B, mh, mn, E, h, _, _⟩ := h
  obtain ⟨W1, eW⟩ : ∃ X, X = (w.alloc (.cells (stCells k.1).toArray 24)).alloc (.cells [.int .i64 0, .int .i64 0, .string ⟨#[]⟩, .int .i64 0, .int .i64 0, .string ⟨#[]⟩, .bool false].toArray 26) := ⟨_, rfl⟩
  have HB : Hid (Below w.heap.size w W1) := by rw [eW]; exact ((Below.refl _ _).alloc (Nat.le_refl _) _).alloc (by simp) _
  have HX0 : Hid (BxC w.heap.size (stCells k.1) 24 W1) := by rw [eW]; exact (BxC.new2 w _ _ _ _).1
  have HZ0 : Hid (BxC (w.heap.size + 1) [.int .i64 0, .int .i64 0, .string ⟨#[]⟩, .int .i64 0, .int .i64 0, .string ⟨#[]⟩, .bool false] 26 W1) := by rw [eW]; exact (BxC.new2 w _ _ _ _).2
  have HR : Hid (RegIs F W1 rb R B mh mn E) := h.below HB.out
  clear h
  go_enter Try.func5, Try.ntmps5
  go_wp2_with fail
  have eW2 := eW
  simp only [stCells] at eW2
  rw [← eW2]
  clear eW2 eW
  obtain ⟨bx, ebx⟩ : ∃ b, b = w.heap.size := ⟨_, rfl⟩
  obtain ⟨b6, eb6⟩ : ∃ b, b = w.heap.size + 1 := ⟨_, rfl⟩
  have HX : Hid (BxC bx (stCells k.1) 24 W1) := by rw [ebx]; exact HX0.out
  have HZ6 : Hid (BxC b6 [.int .i64 0, .int .i64 0, .string ⟨#[]⟩, .int .i64 0, .int .i64 0, .string ⟨#[]⟩, .bool false] 26 W1) := by rw [eb6]; exact HZ0.out
  have HG6 : Hid (w.heap.size ≤ b6) := by (show _ ≤ _; omega)
  rw [← eb6]
  rw [← ebx]
  clear HX0 HZ0 ebx eb6
  refine wp_region_held_drew (S := fun W' => BxC bx (stCells k.1) 24 W' ∧ BxC b6 [.int .i64 0, .int .i64 0, .string ⟨#[]⟩, .int .i64 0, .int .i64 0, .string ⟨#[]⟩, .bool false] 26 W' ∧ RegIs F W' rb R B mh mn E) (by kernel_rfl) ⟨HX.out.below (Below.refl _ _).drew, HZ6.out.below (Below.refl _ _).drew, HR.out.below (Below.refl _ _).drew⟩ (fun hHeld => ?_)
  obtain ⟨Ug5u0, eW⟩ : ∃ X, X = W1.drew := ⟨_, rfl⟩
  have hb : Below W1.heap.size W1 Ug5u0 := by rw [eW]; exact (Below.refl _ _).drew
  replace HB : Hid (Below w.heap.size w Ug5u0) := HB.out.trans (hb.mono HB.out.size)
  rw [← eW] at hHeld ⊢
  clear eW hb
  refine tkW 0 (some 14) (v := ?_) ?_ hHeld ?_
  rotate_left
  · (intro ww _; go_simp; try with_reducible rfl)
  refine tkW 1 (some 15) (v := ?_) ?_ hHeld ?_
  rotate_left
  · (intro ww hSw; (try dsimp only at hSw); go_simp; try with_reducible rfl)
  refine tkW 2 (some 16) (v := ?_) ?_ hHeld ?_
  rotate_left
  · (intro ww _; go_simp; try with_reducible rfl)
  refine tkW 3 (some 17) (v := ?_) ?_ hHeld ?_
  rotate_left
  · (intro ww hSw; (try dsimp only at hSw); have c0 := hSw.2.2.c0; have hlk : (Instr.lookup 48 (.map (some mh)) (.agg #[.int .i64 k.1.1, .int .i64 k.1.2, .string k.2]) true).run Try.prog ww = .ok (.tuple #[rgV (atR R k), .bool (hasR R k)]) ww := hSw.2.2.hm.look hSw.2.2.srt k; have y0 := hSw.1.cell 0 _ rfl; have y1 := hSw.1.cell 1 _ rfl; go_simp; try with_reducible rfl)
  refine tkW 4 (some 18) (v := ?_) ?_ hHeld ?_
  rotate_left
  · (intro ww hSw; (try dsimp only at hSw); have c0 := hSw.2.2.c0; have hlk : (Instr.lookup 48 (.map (some mh)) (.agg #[.int .i64 k.1.1, .int .i64 k.1.2, .string k.2]) true).run Try.prog ww = .ok (.tuple #[rgV (atR R k), .bool (hasR R k)]) ww := hSw.2.2.hm.look hSw.2.2.srt k; have y0 := hSw.1.cell 0 _ rfl; have y1 := hSw.1.cell 1 _ rfl; go_simp; try with_reducible rfl)
  refine tkW 5 (some 19) (v := ?_) ?_ hHeld ?_
  rotate_left
  · (intro ww _; go_simp; try with_reducible rfl)
  refine tkW 6 (some 20) (v := ?_) ?_ hHeld ?_
  rotate_left
  · (intro ww hSw; (try dsimp only at hSw); go_simp; try with_reducible rfl)
  refine tkW 7 (some 21) (v := ?_) ?_ hHeld ?_
  rotate_left
  · (intro ww hSw; (try dsimp only at hSw); have c0 := hSw.2.2.c0; have hlk : (Instr.lookup 48 (.map (some mh)) (.agg #[.int .i64 k.1.1, .int .i64 k.1.2, .string k.2]) true).run Try.prog ww = .ok (.tuple #[rgV (atR R k), .bool (hasR R k)]) ww := hSw.2.2.hm.look hSw.2.2.srt k; have y0 := hSw.1.cell 0 _ rfl; have y1 := hSw.1.cell 1 _ rfl; go_simp; try with_reducible rfl)
  refine tkW 8 (some 13) (v := ?_) ?_ hHeld ?_
  rotate_left
  · (intro ww _; go_simp; try with_reducible rfl)
  refine tkW 9 (some 22) (v := ?_) ?_ hHeld ?_
  rotate_left
  · (intro ww _; go_simp; try with_reducible rfl)
  refine tkW 10 (some 23) (v := ?_) ?_ hHeld ?_
  rotate_left
  · (intro ww _; go_simp; try with_reducible rfl)
  refine wpAnyH_ready (rs := [11]) (by kernel_rfl) (by simp) ?_
  refine AllReadyH.cons (o := ⟨some 8, _, _, _, _, _⟩) rfl (fun K hK => ?_) AllReadyH.nil
  have HN50 : Hid (bx < Ug5u0.heap.size ∧ b6 < Ug5u0.heap.size ∧ (∀ j, F j → j ≠ Ug5u0.heap.size) ∧ w.heap.size ≤ Ug5u0.heap.size) := ⟨hHeld.1.lt, hHeld.2.1.lt, fun j hj e => by have := hHeld.2.2.lt j hj; omega, HB.out.size⟩
  have hbx : Below Ug5u0.heap.size Ug5u0 (Ug5u0.alloc (.cells #[.int .i64 0, .int .i64 0, .string ⟨#[]⟩, .int .i64 0, .int .i64 0, .string ⟨#[]⟩, .bool false] 26)) := (Below.refl _ _).alloc (Nat.le_refl _) _
  go_simp
  refine hK.out _ _ (⟨hHeld.1.below hbx, hHeld.2.1.below hbx, hHeld.2.2.below hbx⟩) (fun hHeld2 => ?_)
  clear hK K hHeld
  have hHeld := hHeld2
  clear hHeld2
  (try simp only [Act.put, List.setIfInBounds_toArray, List.set_cons_zero, List.set_cons_succ])
  obtain ⟨Ug5u1, eW⟩ : ∃ X, X = Ug5u0.alloc (.cells #[.int .i64 0, .int .i64 0, .string ⟨#[]⟩, .int .i64 0, .int .i64 0, .string ⟨#[]⟩, .bool false] 26) := ⟨_, rfl⟩
  have hb : Below Ug5u0.heap.size Ug5u0 Ug5u1 := by rw [eW]; exact (Below.refl _ _).alloc (Nat.le_refl _) _
  replace HB : Hid (Below w.heap.size w Ug5u1) := HB.out.trans (hb.mono HB.out.size)
  have HZ : Hid (Ug5u1.heap[Ug5u0.heap.size]? = some (.cells #[.int .i64 0, .int .i64 0, .string ⟨#[]⟩, .int .i64 0, .int .i64 0, .string ⟨#[]⟩, .bool false] 26)) := by rw [eW]; exact heap_alloc_new _ _
  rw [← eW] at hHeld ⊢
  clear eW
  clear hbx
  obtain ⟨b8, enb⟩ : ∃ b, b = Ug5u0.heap.size := ⟨_, rfl⟩
  have HN5 : Hid (bx < b8 ∧ b6 < b8 ∧ (∀ j, F j → j ≠ b8) ∧ w.heap.size ≤ b8) := by rw [enb]; exact HN50.out
  rw [← enb] at HZ ⊢
  clear enb
  clear HN50
  clear hb
  refine wpAnyH_ready (rs := [12]) (by kernel_rfl) (by simp) ?_
  refine AllReadyH.cons (o := ⟨none, _, _, _, _, _⟩) rfl (fun K hK => ?_) AllReadyH.nil
  refine step_store_row rfl 26 (.tmp 8) (.tmp 22) rfl b8 26 #[.int .i64 0, .int .i64 0, .string ⟨#[]⟩, .int .i64 0, .int .i64 0, .string ⟨#[]⟩, .bool false] (rgCells (atR R k)).toArray rfl rfl HZ.out sizeReg rfl (by simp [Value.oneCell', rgCells]) ?_
  obtain ⟨Ug5u2, eW⟩ : ∃ Y, Y = Ug5u1.setRow b8 (rgCells (atR R k)).toArray := ⟨_, rfl⟩
  have ht9 : Touch (fun j => j = b8) Ug5u1 Ug5u2 := by rw [eW]; exact Touch.of_grown (grown_setRow _ _ _) fun j e _ => by cases e; rfl
  have HZ2 : Hid (BxC b8 (rgCells (atR R k)) 26 Ug5u2) := by rw [eW]; exact setRow_same HZ.out
  replace HB : Hid (Below w.heap.size w Ug5u2) := HB.out.trans (ht9.below (fun j e => by have := HN5.out.2.2.2; omega) HB.out.size)
  rw [← eW]
  have hS2 : BxC bx (stCells k.1) 24 Ug5u2 ∧ BxC b6 [.int .i64 0, .int .i64 0, .string ⟨#[]⟩, .int .i64 0, .int .i64 0, .string ⟨#[]⟩, .bool false] 26 Ug5u2 ∧ RegIs F Ug5u2 rb R B mh mn E := ⟨hHeld.1.touch ht9 (fun e => by have := HN5.out.1; omega), hHeld.2.1.touch ht9 (fun e => by have := HN5.out.2.1; omega), hHeld.2.2.touch ht9 (fun j hj e => HN5.out.2.2.1 j hj e)⟩
  refine hK.out _ _ (hS2) (fun hHeld2 => ?_)
  clear hK K hHeld
  have hHeld := hHeld2
  clear hHeld2
  (try simp only [Act.put, List.setIfInBounds_toArray, List.set_cons_zero, List.set_cons_succ])
  clear eW hS2 HZ ht9
  refine tkW 13 (some 9) (v := ?_) ?_ hHeld ?_
  rotate_left
  · (intro ww _; go_simp; try with_reducible rfl)
  refine wpAnyH_done (by kernel_rfl) ?_ _
  have HR9 : Hid (BxC b6 [.int .i64 0, .int .i64 0, .string ⟨#[]⟩, .int .i64 0, .int .i64 0, .string ⟨#[]⟩, .bool false] 26 Ug5u2) := hHeld.2.1
  clear hHeld
  have z0 : Ug5u2.cell? ⟨b8, 0, none⟩ = some (.int .i64 (atR R k).nd.1) := HZ2.out.cell 0 _ rfl
  have z1 : Ug5u2.cell? ⟨b8, 1, none⟩ = some (.int .i64 (atR R k).nd.2) := HZ2.out.cell 1 _ rfl
  have z2 : Ug5u2.cell? ⟨b8, 2, none⟩ = some (.string (atR R k).nm) := HZ2.out.cell 2 _ rfl
  have z3 : Ug5u2.cell? ⟨b8, 3, none⟩ = some (.int .i64 (atR R k).at_.1) := HZ2.out.cell 3 _ rfl
  have z4 : Ug5u2.cell? ⟨b8, 4, none⟩ = some (.int .i64 (atR R k).at_.2) := HZ2.out.cell 4 _ rfl
  have z5 : Ug5u2.cell? ⟨b8, 5, none⟩ = some (.string (atR R k).vl) := HZ2.out.cell 5 _ rfl
  have z6 : Ug5u2.cell? ⟨b8, 6, none⟩ = some (.bool (atR R k).gn) := HZ2.out.cell 6 _ rfl
  go_wp2_with (refine wpList_store_row rfl 26 (.tmp 6) (.tmp 24) rfl b6 26 #[.int .i64 0, .int .i64 0, .string ⟨#[]⟩, .int .i64 0, .int .i64 0, .string ⟨#[]⟩, .bool false] (rgCells (atR R k)).toArray rfl rfl HR9.out sizeReg rfl (by simp [Value.oneCell', rgCells]) ?_)
  have HQ : Hid ((Ug5u2.setRow b6 (rgCells (atR R k)).toArray).heap[b6]? = some (.cells (rgCells (atR R k)).toArray 26)) := setRow_same HR9.out
  have HB9 : Hid (Below w.heap.size w (Ug5u2.setRow b6 (rgCells (atR R k)).toArray)) := HB.out.trans ((Touch.of_grown (F := fun j => j = b6) (grown_setRow _ _ _) fun j e _ => by cases e; rfl).below (fun j e => by have := HG6.out; omega) HB.out.size)
  (try simp only [Exit.inBlock, Exit.then])
  refine bodyPost_ret (results_cell_row2 rfl _ _ b6 _ _ _ _ rfl HQ.out Try.underlying26 rfl (by kernel_rfl) rfl) rfl ?_
  exact ⟨rfl, HB9.out⟩

set_option maxRecDepth 100000 in
set_option maxHeartbeats 4000000 in
theorem get0_any (k : Ky) (w : World) :
    Calls Try.prog 5 #[.pointer none, .agg #[.int .i64 k.1.1, .int .i64 k.1.2], .string k.2] w fun e w' => e = .returned (.tuple #[rgV zeroR, .bool false]) ∧ Below w.heap.size w w' := by
  obtain ⟨W1, eW⟩ : ∃ X, X = (w.alloc (.cells (stCells k.1).toArray 24)).alloc (.cells [.int .i64 0, .int .i64 0, .string ⟨#[]⟩, .int .i64 0, .int .i64 0, .string ⟨#[]⟩, .bool false].toArray 26) := ⟨_, rfl⟩
  have HB : Hid (Below w.heap.size w W1) := by rw [eW]; exact ((Below.refl _ _).alloc (Nat.le_refl _) _).alloc (by simp) _
  have HR9 : Hid (BxC (w.heap.size + 1) [.int .i64 0, .int .i64 0, .string ⟨#[]⟩, .int .i64 0, .int .i64 0, .string ⟨#[]⟩, .bool false] 26 W1) := by rw [eW]; exact (BxC.new2 w _ _ _ _).2
  have eW2 := eW
  simp only [stCells] at eW2
  have HR8 := HR9
  rw [eW2] at HR8
  go_enter Try.func5, Try.ntmps5
  go_wp2_with (refine wpList_store_row rfl 26 (.tmp 6) (.tmp 12) rfl (w.heap.size + 1) 26 #[.int .i64 0, .int .i64 0, .string ⟨#[]⟩, .int .i64 0, .int .i64 0, .string ⟨#[]⟩, .bool false] #[.int .i64 0, .int .i64 0, .string ⟨#[]⟩, .int .i64 0, .int .i64 0, .string ⟨#[]⟩, .bool false] rfl rfl HR8.out sizeReg rfl (by simp [Value.oneCell']) ?_)
  have HQ : Hid ((W1.setRow (w.heap.size + 1) #[.int .i64 0, .int .i64 0, .string ⟨#[]⟩, .int .i64 0, .int .i64 0, .string ⟨#[]⟩, .bool false]).heap[w.heap.size + 1]? = some (.cells #[.int .i64 0, .int .i64 0, .string ⟨#[]⟩, .int .i64 0, .int .i64 0, .string ⟨#[]⟩, .bool false] 26)) := setRow_same HR9.out
  have HB9 : Hid (Below w.heap.size w (W1.setRow (w.heap.size + 1) #[.int .i64 0, .int .i64 0, .string ⟨#[]⟩, .int .i64 0, .int .i64 0, .string ⟨#[]⟩, .bool false])) := HB.out.trans ((Touch.of_grown (F := fun j => j = w.heap.size + 1) (grown_setRow _ _ _) fun j e _ => by cases e; rfl).below (fun j e => by omega) HB.out.size)
  rw [eW2] at HQ HB9
  (try simp only [Exit.inBlock, Exit.then])
  refine bodyPost_ret (results_cell_row2 rfl _ _ (w.heap.size + 1) _ _ _ _ rfl HQ.out Try.underlying26 rfl (by kernel_rfl) rfl) rfl ?_
  exact ⟨rfl, HB9.out⟩
/-- Registers that have this, or nil ones that have nothing. -/
def RegV (F : Nat → Prop) (w : World) (v : Value) (R : List Rg) : Prop := (∃ rb, v = .pointer (some ⟨rb, 0, none⟩) ∧ RegOk F w rb R) ∨ (v = .pointer none ∧ R = [])
section
variable {F : Nat → Prop} {w w' : World} {v : Value} {R : List Rg}
theorem RegV.touch (h : RegV F w v R) {G : Nat → Prop} (ht : Touch G w w') (hG : ∀ k, F k → ¬ G k) : RegV F w' v R := h.imp (fun ⟨rb, e, h⟩ => ⟨rb, e, h.touch ht hG⟩) id
theorem RegV.below (h : RegV F w v R) (hb : Below w.heap.size w w') : RegV F w' v R := h.imp (fun ⟨rb, e, h⟩ => ⟨rb, e, h.below hb⟩) id
theorem RegOk.rv {rb : Nat} (h : RegOk F w rb R) : RegV F w (.pointer (some ⟨rb, 0, none⟩)) R := .inl ⟨rb, rfl, h⟩
theorem RegV.ptr (h : RegV F w v R) : ∃ p, v = .pointer p := by
  rcases h with ⟨rb, rfl, h⟩ | ⟨rfl, rfl⟩
  · exact ⟨_, rfl⟩
  · exact ⟨_, rfl⟩
theorem RegV.srt (h : RegV F w v R) : SrtR R := by
  rcases h with ⟨rb, e, h⟩ | ⟨e, h⟩
  · exact h.srt
  · rw [h]; exact List.Pairwise.nil
theorem RegV.small (h : RegV F w v R) : R.length ≤ 4096 := by
  rcases h with ⟨rb, e, h⟩ | ⟨e, h⟩
  · exact h.small
  · rw [h]; simp
theorem get_v (h : RegV F w v R) (k : Ky) : Calls Try.prog 5 #[v, .agg #[.int .i64 k.1.1, .int .i64 k.1.2], .string k.2] w fun e w' => e = .returned (.tuple #[rgV (atR R k), .bool (hasR R k)]) ∧ Below w.heap.size w w' := by
  rcases h with ⟨rb, rfl, h⟩ | ⟨rfl, rfl⟩
  · exact get_any F rb R k w h
  · exact get0_any k w
end

set_option maxRecDepth 100000 in
set_option maxHeartbeats 4000000 in
theorem value_v {F : Nat → Prop} {v : Value} {R : List Rg} (k : Ky) (w : World) (h : RegV F w v R) :
    Calls Try.prog 7 #[v, .agg #[.int .i64 k.1.1, .int .i64 k.1.2], .string k.2] w fun e w' => e = .returned (.string (atR R k).vl) ∧ Below w.heap.size w w' := by
  obtain ⟨p, rfl⟩ := h.ptr
  obtain ⟨W0, eW⟩ : ∃ X, X = w.alloc (.cells (stCells k.1).toArray 24) := ⟨_, rfl⟩
  have HB : Hid (Below w.heap.size w W0) := by rw [eW]; exact (Below.refl _ _).alloc (Nat.le_refl _) _
  have HX : Hid (BxC w.heap.size (stCells k.1) 24 W0) := by rw [eW]; exact BxC.new w _ _
  have HR : Hid (RegV F W0 (.pointer p) R) := h.below HB.out
  have x0 : W0.cell? ⟨w.heap.size, 0, none⟩ = some (.int .i64 k.1.1) := HX.out.cell 0 _ rfl
  have x1 : W0.cell? ⟨w.heap.size, 1, none⟩ = some (.int .i64 k.1.2) := HX.out.cell 1 _ rfl
  rw [eW] at x0 x1
  clear h
  go_enter Try.func7, Try.ntmps7
  go_wp2_with fail
  have eW2 := eW
  simp only [stCells] at eW2
  rw [← eW2]
  clear eW2 eW x0 x1
  refine (get_v HR.out k).mono ?_
  rintro e w1 ⟨rfl, hb⟩
  have HB1 : Hid (Below w.heap.size w w1) := HB.out.trans (hb.mono HB.out.size)
  clear hb
  simp only [rgV]
  obtain ⟨W2, eW2⟩ : ∃ X, X = w1.alloc (.cells (rgCells (atR R k)).toArray 26) := ⟨_, rfl⟩
  have HB2 : Hid (Below w.heap.size w W2) := by rw [eW2]; exact HB1.out.trans (((Below.refl _ _).alloc (Nat.le_refl _) _).mono HB1.out.size)
  have HX2 : Hid (BxC w1.heap.size (rgCells (atR R k)) 26 W2) := by rw [eW2]; exact BxC.new w1 _ _
  have z5 : W2.cell? ⟨w1.heap.size, 5, none⟩ = some (.string (atR R k).vl) := HX2.out.cell 5 _ rfl
  rw [eW2] at z5
  go_wp2
  go_ret
  exact ⟨rfl, by (simp only [rgCells] at eW2; first | (rw [← eW2]; exact HB2.out) | (rw [eW2] at HB2; exact HB2.out))⟩

end Go.Proofs.Ytecliogffcnfiaa
