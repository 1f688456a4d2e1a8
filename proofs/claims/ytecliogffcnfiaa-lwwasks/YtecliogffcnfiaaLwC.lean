/- New, take, Put, Get, Value. -/
import Derived.Test.YtecliogffcnfiaaLwB
import Derived.Deep.RegionHeld
import Derived.Deep.RegionLaw
namespace Go.Proofs.Ytecliogffcnfiaa
open Go.RowKit
set_option linter.unusedVariables false
set_option linter.unusedSimpArgs false

theorem Touch.bel {F : Nat → Prop} {w W W' : World} (h : Touch F w W) (hb : Below W.heap.size W W') : Touch F w W' := h.trans (Touch.of_below (F := F) hb) (fun j hj => .inl hj)
theorem Touch.set {F : Nat → Prop} {w W : World} (h : Touch F w W) (nb : Nat) (hn : w.heap.size ≤ nb) (c : Array Value) : Touch F w (W.setRow nb c) := h.trans (Touch.of_grown (F := fun j => j = nb) (grown_setRow W nb c) (fun k e _ => by cases e; rfl)) (fun j hj => by subst hj; exact .inr hn)
theorem step_append_own_at {P : Program} {ops : Array Oper} {o : Oper} {a : Act} {w : World} {K : Act → World → Prop} {Q : Exit → Act → World → Prop} {X : Prop} (hgd : o.guard = none) (s x : Operand) (t : TypeId)
    (ho : o.op = .call { callee := .builtin .append, args := #[s, x], argTypes := #[t, t] })
    (base : Nat) (e : TypeId) (i : TypeInfo) (z : Value) (size bytes : Nat) (ht : P.underlying t = some (.slice e)) (hi : P.info? e = some i) (hz : i.zero = some z)
    (hsize : i.size = size) (hby : i.bytes = bytes) (hzs : z.cells.size = size) (hsz : 0 < size)
    (v : Value) (n : Nat) (xs : List Value) (hs : a.eval s = v) (hown : w.ownsRow base e size v n xs)
    (ad : Addr) (m c : Nat) (news : List Value) (hx : a.eval x = .slice (some ad) m c) (hl : news.length = m * size) (hnews : ∀ j u, news[j]? = some u → w.cell? (ad.add j) = some u) (h1 : ∀ u ∈ news, u.oneCell' = true)
    (h63 : n + m ≤ maxLen) (hbytes : (n + m) * bytes ≤ 140737488355328) (hbase : base ≤ w.heap.size)
    (h : ∀ v' w', w'.ownsRow base e size v' (n + m) (xs ++ news) → w.grownBy w' v.ownBlock → (v'.ownBlock = v.ownBlock ∨ v'.ownBlock = some w.heap.size) → K (a.put o.dst v') w') :
    if Region.wanted o (yielded ops a.tmps) = true then Oper.wp P o a w K Q else X := by
  have hw : Region.wanted o (yielded ops a.tmps) = true := by simp [Region.wanted, hgd]
  rw [if_pos hw]
  obtain ⟨v', w', hr, h2, h3, h4, h5⟩ := run_append_own_at (P := P) w base t o.type e i z size bytes ht hi hz hsize hby hzs hsz v n xs hown ad m c news hl hnews h1 h63 hbytes hbase
  unfold Oper.wp execOp
  simp only [ho, resolve, invoke, builtin, Sem.run_bind, Sem.run_pure, Result.andThen_ok, List.map_toArray, List.map_cons, List.map_nil, hs, hx, hr]
  exact h v' w' h2 h3 h5
theorem infoStr : (Try.prog.info? 9).map (fun i => (i.zero, i.size, i.bytes)) = some (some (.string ⟨#[]⟩), 1, 16) := by kernel_rfl
theorem info_parts {T : TypeId} {z : Value} {n b : Nat} (h : (Try.prog.info? T).map (fun i => (i.zero, i.size, i.bytes)) = some (some z, n, b)) : ∃ i, Try.prog.info? T = some i ∧ i.zero = some z ∧ i.size = n ∧ i.bytes = b := by
  cases e : Try.prog.info? T with
  | none => rw [e] at h; cases h
  | some i =>
    rw [e] at h
    simp only [Option.map_some, Option.some.injEq, Prod.mk.injEq] at h
    exact ⟨i, rfl, h.1, h.2.1, h.2.2⟩
theorem names_nodup {R : List Rg} {B : St → List ByteArray} (hn : NmsOk R B) {r : Rg} (hh : hasR R (keyR r) = false) (hb : (B r.nd).Nodup) : (B r.nd ++ [r.nm]).Nodup := by
  rw [List.nodup_append]
  refine ⟨hb, by simp, fun a ha b hb e => ?_⟩
  have e2 : b = r.nm := by simpa using hb
  rw [e, e2] at ha
  obtain ⟨q, hq, e3, e4⟩ := (hn _ _).1 ha
  unfold hasR at hh
  cases e5 : getR R (keyR r) with
  | some m => rw [e5] at hh; cases hh
  | none => exact getR_none e5 q hq (Prod.ext e3 e4)
theorem nms_new {R : List Rg} (hs : SrtR R) {B : St → List ByteArray} (hn : NmsOk R B) (r : Rg) : NmsOk (insR R r) (updN B r.nd (B r.nd ++ [r.nm])) := fun a n => by
  rw [ins_names hs]
  unfold updN
  by_cases e : a = r.nd
  · rw [if_pos e, List.mem_append, List.mem_singleton, hn, e]
    exact ⟨fun h => h.imp id (fun h => ⟨rfl, h⟩), fun h => h.imp id (fun h => h.2)⟩
  · rw [if_neg e, hn]
    exact ⟨.inl, fun h => h.elim id (fun h => absurd h.1 e)⟩
theorem has_at {R : List Rg} {k : Ky} (h : hasR R k = true) : atR R k ∈ R ∧ keyR (atR R k) = k := by
  unfold hasR at h
  unfold atR
  cases e : getR R k with
  | none => rw [e] at h; cases h
  | some m => exact getR_some e
theorem nms_old {R : List Rg} (hs : SrtR R) {B : St → List ByteArray} (hn : NmsOk R B) {r : Rg} (hh : hasR R (keyR r) = true) : NmsOk (insR R r) B := fun a n => by
  rw [ins_names hs, hn]
  refine ⟨.inl, fun h => h.elim id (fun h => ?_)⟩
  obtain ⟨h1, h2⟩ := has_at hh
  exact ⟨_, h1, (congrArg Prod.fst h2).trans h.1.symm, (congrArg Prod.snd h2).trans h.2.symm⟩
/-- What take leaves. -/
def TakeP (F : Nat → Prop) (w : World) (rb : Nat) (R : List Rg) (w' : World) : Prop := ∃ F', RegOk F' w' rb R ∧ (∀ k, F k → F' k) ∧ (∀ k, F' k → F k ∨ w.heap.size ≤ k) ∧ Touch F w w'
theorem TakeP.of {F F' : Nat → Prop} {w w' : World} {rb : Nat} {R : List Rg} (h : RegOk F' w' rb R) (h1 : ∀ k, F k → F' k) (h2 : ∀ k, F' k → F k ∨ w.heap.size ≤ k) (h3 : Touch F w w') : TakeP F w rb R w' := ⟨F', h, h1, h2, h3⟩

theorem names_len {R : List Rg} (hs : SrtR R) {B : St → List ByteArray} (hn : NmsOk R B) {a : St} (hb : (B a).Nodup) (hl : R.length ≤ 4096) : (B a).length ≤ 4096 := by
  have hp : (B a).Perm ((ofR R a).map Rg.nm) := by
    refine (List.perm_ext_iff_of_nodup hb ?_).2 fun n => ?_
    · unfold List.Nodup
      rw [List.pairwise_map]
      refine List.Pairwise.imp_of_mem ?_ (List.Pairwise.sublist List.filter_sublist hs)
      intro x y hx hy hl e
      rw [ltK_iff] at hl
      have e1 := (mem_of.1 hx).2
      have e2 := (mem_of.1 hy).2
      simp only [keyR] at hl
      rw [e1, e2, e] at hl
      rcases hl with h | ⟨_, h⟩
      · rw [ltS_irr] at h; cases h
      · rw [ltT_irr] at h; cases h
    · rw [hn, List.mem_map]
      exact ⟨fun ⟨r, h1, h2, h3⟩ => ⟨r, mem_of.2 ⟨h1, h2⟩, h3⟩, fun ⟨r, h1, h2⟩ => ⟨r, (mem_of.1 h1).1, (mem_of.1 h1).2, h2⟩⟩
  have := hp.length_eq
  rw [List.length_map] at this
  have := of_length R a
  omega

set_option maxRecDepth 100000 in
set_option maxHeartbeats 8000000 in
theorem take_any (F : Nat → Prop) (rb : Nat) (R : List Rg) (r : Rg) (w : World) (h : RegOk F w rb R) (hlen : R.length < 4096) :
    Calls Try.prog 17 #[.pointer (some ⟨rb, 0, none⟩), .agg #[.int .i64 r.nd.1, .int .i64 r.nd.2, .string r.nm, .int .i64 r.at_.1, .int .i64 r.at_.2, .string r.vl, .bool r.gn]] w fun e w' => (∃ v, e = .returned v) ∧ TakeP F w rb (insR R r) w' := by
  obtain ⟨B, mh, mn, E, h, hn, hlm⟩ := h
  obtain ⟨isr, hisr, hz0sr, hz1sr, hz2sr⟩ := info_parts infoStr
  obtain ⟨W1, eW⟩ : ∃ X, X = (w.alloc (.cells (rgCells r).toArray 26)).alloc (.cells [.int .i64 r.nd.1, .int .i64 r.nd.2, .string r.nm].toArray 53) := ⟨_, rfl⟩
  have hb1 : Below w.heap.size w W1 := by rw [eW]; exact ((Below.refl _ _).alloc (Nat.le_refl _) _).alloc (by simp) _
  have HX0 : Hid (BxC w.heap.size (rgCells r) 26 W1) := by rw [eW]; exact (BxC.new2 w _ _ _ _).1
  have HY0 : Hid (BxC (w.heap.size + 1) [.int .i64 r.nd.1, .int .i64 r.nd.2, .string r.nm] 53 W1) := by rw [eW]; exact (BxC.new2 w _ _ _ _).2
  have HR0 : Hid (RegIs F W1 rb R B mh mn E) := h.below hb1
  have HT : Hid (Touch F w W1) := Touch.of_below hb1
  have HNo : Hid (NmsOk R B) := hn
  have HLn : Hid (R.length < 4096) := hlen
  have HLm : Hid (R.length ≤ 4096) := hlm
  have HLt : Hid (∀ k, F k → k < w.heap.size) := h.lt
  have HBl : Hid ((B r.nd).length ≤ 4096) := names_len h.srt hn (h.bn r.nd) hlm
  have HGe : Hid (∀ b, w.heap.size ≤ b → b ≠ mn) := fun b hb e => by have := h.lt mn h.fb; omega
  have HGh : Hid (∀ b, w.heap.size ≤ b → b ≠ mh) := fun b hb e => by have := h.lt mh h.fa; omega
  have HSr : Hid (SrtR R) := h.srt
  have HG0 : Hid (w.heap.size ≤ w.heap.size ∧ w.heap.size ≤ w.heap.size + 1) := ⟨Nat.le_refl _, Nat.le_succ _⟩
  have x0 : W1.cell? ⟨w.heap.size, 0, none⟩ = some (.int .i64 r.nd.1) := HX0.out.cell 0 _ rfl
  have x1 : W1.cell? ⟨w.heap.size, 1, none⟩ = some (.int .i64 r.nd.2) := HX0.out.cell 1 _ rfl
  have x2 : W1.cell? ⟨w.heap.size, 2, none⟩ = some (.string r.nm) := HX0.out.cell 2 _ rfl
  rw [eW] at x0 x1 x2
  clear h hb1 hn hlen hlm
  go_enter Try.func17, Try.ntmps17
  go_wp2_with fail
  have eW2 := eW
  simp only [rgCells] at eW2
  rw [← eW2]
  clear eW2 eW x0 x1 x2
  obtain ⟨b3, eb3⟩ : ∃ b, b = w.heap.size := ⟨_, rfl⟩
  obtain ⟨b4, eb4⟩ : ∃ b, b = w.heap.size + 1 := ⟨_, rfl⟩
  have HG3 : Hid (w.heap.size ≤ b3 ∧ w.heap.size ≤ b4) := by rw [eb3, eb4]; exact HG0.out
  rw [← eb3] at HX0
  rw [← eb4] at HY0
  rw [← eb4]
  rw [← eb3]
  clear eb3 eb4 HG0
  refine wp_region_held_drew (S := fun W' => BxC b3 (rgCells r) 26 W' ∧ BxC b4 [.int .i64 r.nd.1, .int .i64 r.nd.2, .string r.nm] 53 W' ∧ RegIs F W' rb R B mh mn E) (by kernel_rfl) ⟨HX0.out.below (Below.refl _ _).drew, HY0.out.below (Below.refl _ _).drew, HR0.out.below (Below.refl _ _).drew⟩ (fun hHeld => ?_)
  obtain ⟨Ut1u0, eW⟩ : ∃ X, X = W1.drew := ⟨_, rfl⟩
  have hb : Below W1.heap.size W1 Ut1u0 := by rw [eW]; exact (Below.refl _ _).drew
  replace HT : Hid (Touch F w Ut1u0) := HT.out.bel hb
  rw [← eW] at hHeld ⊢
  clear eW hb
  refine tkW 0 (some 13) (v := ?_) ?_ hHeld ?_
  rotate_left
  · (intro ww _; go_simp; try with_reducible rfl)
  refine tkW 1 (some 14) (v := ?_) ?_ hHeld ?_
  rotate_left
  · (intro ww hSw; (try dsimp only at hSw); go_simp; try with_reducible rfl)
  refine tkW 2 (some 15) (v := ?_) ?_ hHeld ?_
  rotate_left
  · (intro ww _; go_simp; try with_reducible rfl)
  refine tkW 3 (some 16) (v := ?_) ?_ hHeld ?_
  rotate_left
  · (intro ww hSw; (try dsimp only at hSw); have c0 := hSw.2.2.c0; have hlk : (Instr.lookup 48 (.map (some mh)) (.agg #[.int .i64 r.nd.1, .int .i64 r.nd.2, .string r.nm]) true).run Try.prog ww = .ok (.tuple #[rgV (atR R (keyR r)), .bool (hasR R (keyR r))]) ww := hSw.2.2.hm.look hSw.2.2.srt (keyR r); have y0 := hSw.2.1.cell 0 _ rfl; have y1 := hSw.2.1.cell 1 _ rfl; have y2 := hSw.2.1.cell 2 _ rfl; go_simp; try with_reducible rfl)
  refine tkW 4 (some 17) (v := ?_) ?_ hHeld ?_
  rotate_left
  · (intro ww hSw; (try dsimp only at hSw); have c0 := hSw.2.2.c0; have hlk : (Instr.lookup 48 (.map (some mh)) (.agg #[.int .i64 r.nd.1, .int .i64 r.nd.2, .string r.nm]) true).run Try.prog ww = .ok (.tuple #[rgV (atR R (keyR r)), .bool (hasR R (keyR r))]) ww := hSw.2.2.hm.look hSw.2.2.srt (keyR r); have y0 := hSw.2.1.cell 0 _ rfl; have y1 := hSw.2.1.cell 1 _ rfl; have y2 := hSw.2.1.cell 2 _ rfl; go_simp; try with_reducible rfl)
  refine tkW 5 (some 18) (v := ?_) ?_ hHeld ?_
  rotate_left
  · (intro ww hSw; (try dsimp only at hSw); have c0 := hSw.2.2.c0; have hlk : (Instr.lookup 48 (.map (some mh)) (.agg #[.int .i64 r.nd.1, .int .i64 r.nd.2, .string r.nm]) true).run Try.prog ww = .ok (.tuple #[rgV (atR R (keyR r)), .bool (hasR R (keyR r))]) ww := hSw.2.2.hm.look hSw.2.2.srt (keyR r); have y0 := hSw.2.1.cell 0 _ rfl; have y1 := hSw.2.1.cell 1 _ rfl; have y2 := hSw.2.1.cell 2 _ rfl; go_simp; try with_reducible rfl)
  refine tkW 6 (some 12) (v := ?_) ?_ hHeld ?_
  rotate_left
  · (intro ww _; go_simp; try with_reducible rfl)
  refine tkW 7 (some 19) (v := ?_) ?_ hHeld ?_
  rotate_left
  · (intro ww _; go_simp; try with_reducible rfl)
  refine tkW 8 (some 20) (v := ?_) ?_ hHeld ?_
  rotate_left
  · (intro ww _; go_simp; try with_reducible rfl)
  refine wpAnyH_ready (rs := [9]) (by kernel_rfl) (by simp) ?_
  refine AllReadyH.cons (o := ⟨some 5, _, _, _, _, _⟩) rfl (fun K hK => ?_) AllReadyH.nil
  have HN50 : Hid (b3 < Ut1u0.heap.size ∧ b4 < Ut1u0.heap.size ∧ (∀ j, F j → j ≠ Ut1u0.heap.size) ∧ w.heap.size ≤ Ut1u0.heap.size) := ⟨hHeld.1.lt, hHeld.2.1.lt, fun j hj e => by have := hHeld.2.2.lt j hj; omega, HT.out.size⟩
  have hbx : Below Ut1u0.heap.size Ut1u0 (Ut1u0.alloc (.cells #[.int .i64 0, .int .i64 0, .string ⟨#[]⟩, .int .i64 0, .int .i64 0, .string ⟨#[]⟩, .bool false] 26)) := (Below.refl _ _).alloc (Nat.le_refl _) _
  go_simp
  refine hK.out _ _ (⟨hHeld.1.below hbx, hHeld.2.1.below hbx, hHeld.2.2.below hbx⟩) (fun hHeld2 => ?_)
  clear hK K hHeld
  have hHeld := hHeld2
  clear hHeld2
  (try simp only [Act.put, List.setIfInBounds_toArray, List.set_cons_zero, List.set_cons_succ])
  obtain ⟨Ut1u1, eW⟩ : ∃ X, X = Ut1u0.alloc (.cells #[.int .i64 0, .int .i64 0, .string ⟨#[]⟩, .int .i64 0, .int .i64 0, .string ⟨#[]⟩, .bool false] 26) := ⟨_, rfl⟩
  have hb : Below Ut1u0.heap.size Ut1u0 Ut1u1 := by rw [eW]; exact (Below.refl _ _).alloc (Nat.le_refl _) _
  replace HT : Hid (Touch F w Ut1u1) := HT.out.bel hb
  have HZ : Hid (Ut1u1.heap[Ut1u0.heap.size]? = some (.cells #[.int .i64 0, .int .i64 0, .string ⟨#[]⟩, .int .i64 0, .int .i64 0, .string ⟨#[]⟩, .bool false] 26)) := by rw [eW]; exact heap_alloc_new _ _
  rw [← eW] at hHeld ⊢
  clear eW
  clear hbx
  obtain ⟨b5, enb⟩ : ∃ b, b = Ut1u0.heap.size := ⟨_, rfl⟩
  have HN5 : Hid (b3 < b5 ∧ b4 < b5 ∧ (∀ j, F j → j ≠ b5) ∧ w.heap.size ≤ b5) := by rw [enb]; exact HN50.out
  rw [← enb] at HZ ⊢
  clear enb
  clear HN50
  clear hb
  refine wpAnyH_ready (rs := [10]) (by kernel_rfl) (by simp) ?_
  refine AllReadyH.cons (o := ⟨none, _, _, _, _, _⟩) rfl (fun K hK => ?_) AllReadyH.nil
  refine step_store_row rfl 26 (.tmp 5) (.tmp 19) rfl b5 26 #[.int .i64 0, .int .i64 0, .string ⟨#[]⟩, .int .i64 0, .int .i64 0, .string ⟨#[]⟩, .bool false] (rgCells (atR R (keyR r))).toArray rfl rfl HZ.out sizeReg rfl (by simp [Value.oneCell', rgCells]) ?_
  obtain ⟨Ut1u2, eW⟩ : ∃ Y, Y = Ut1u1.setRow b5 (rgCells (atR R (keyR r))).toArray := ⟨_, rfl⟩
  have ht9 : Touch (fun j => j = b5) Ut1u1 Ut1u2 := by rw [eW]; exact Touch.of_grown (grown_setRow _ _ _) fun j e _ => by cases e; rfl
  have HZ2 : Hid (BxC b5 (rgCells (atR R (keyR r))) 26 Ut1u2) := by rw [eW]; exact setRow_same HZ.out
  replace HT : Hid (Touch F w Ut1u2) := by rw [eW]; exact HT.out.set b5 HN5.out.2.2.2 _
  rw [← eW]
  have hS2 : BxC b3 (rgCells r) 26 Ut1u2 ∧ BxC b4 [.int .i64 r.nd.1, .int .i64 r.nd.2, .string r.nm] 53 Ut1u2 ∧ RegIs F Ut1u2 rb R B mh mn E := ⟨hHeld.1.touch ht9 (fun e => by have := HN5.out.1; omega), hHeld.2.1.touch ht9 (fun e => by have := HN5.out.2.1; omega), hHeld.2.2.touch ht9 (fun j hj e => HN5.out.2.2.1 j hj e)⟩
  refine hK.out _ _ (hS2) (fun hHeld2 => ?_)
  clear hK K hHeld
  have hHeld := hHeld2
  clear hHeld2
  (try simp only [Act.put, List.setIfInBounds_toArray, List.set_cons_zero, List.set_cons_succ])
  clear eW hS2 HZ ht9
  refine tkW 11 (some 6) (v := ?_) ?_ hHeld ?_
  rotate_left
  · (intro ww _; go_simp; try with_reducible rfl)
  refine wpAnyH_done (by kernel_rfl) ?_ _
  have HX : Hid (BxC b3 (rgCells r) 26 Ut1u2) := hHeld.1
  have HY : Hid (BxC b4 [.int .i64 r.nd.1, .int .i64 r.nd.2, .string r.nm] 53 Ut1u2) := hHeld.2.1
  have HR : Hid (RegIs F Ut1u2 rb R B mh mn E) := hHeld.2.2
  clear hHeld
  cases hH : hasR R (keyR r) with
  | false =>
    have HH : Hid (hasR R (keyR r) = false) := hH
    have HNd : Hid ((B r.nd ++ [r.nm]).Nodup) := names_nodup HNo.out hH (HR.out.bn r.nd)
    clear hH HZ2
    go_wp2_with fail
    refine wp_region_held_drew (S := fun W' => BxC b3 (rgCells r) 26 W' ∧ BxC b4 [.int .i64 r.nd.1, .int .i64 r.nd.2, .string r.nm] 53 W' ∧ BxC rb [.map (some mh), .map (some mn)] 51 W') (by kernel_rfl) ⟨HX.out.below (Below.refl _ _).drew, HY.out.below (Below.refl _ _).drew, BxC.below (cs := [.map (some mh), .map (some mn)]) HR.out.row (Below.refl _ _).drew⟩ (fun hHeld => ?_)
    obtain ⟨Um2u0, eW⟩ : ∃ X, X = Ut1u2.drew := ⟨_, rfl⟩
    have hb : Below Ut1u2.heap.size Ut1u2 Um2u0 := by rw [eW]; exact (Below.refl _ _).drew
    replace HT : Hid (Touch F w Um2u0) := HT.out.bel hb
    replace HR : Hid (RegIs F Um2u0 rb R B mh mn E) := HR.out.below hb
    rw [← eW] at hHeld ⊢
    clear eW hb
    refine tkW 0 (some 23) (v := ?_) ?_ hHeld ?_
    rotate_left
    · (intro ww _; go_simp; try with_reducible rfl)
    refine tkW 1 (some 24) (v := ?_) ?_ hHeld ?_
    rotate_left
    · (intro ww hSw; (try dsimp only at hSw); go_simp; try with_reducible rfl)
    refine tkW 2 (some 25) (v := ?_) ?_ hHeld ?_
    rotate_left
    · (intro ww _; go_simp; try with_reducible rfl)
    refine tkW 3 (some 26) (v := ?_) ?_ hHeld ?_
    rotate_left
    · (intro ww hSw; (try dsimp only at hSw); have x0 := hSw.1.cell 0 _ rfl; have x1 := hSw.1.cell 1 _ rfl; have x2 := hSw.1.cell 2 _ rfl; have c1 := hSw.2.2.cell 1 _ rfl; go_simp; try with_reducible rfl)
    refine tkW 4 (some 27) (v := ?_) ?_ hHeld ?_
    rotate_left
    · (intro ww _; go_simp; try with_reducible rfl)
    refine tkW 5 (some 28) (v := ?_) ?_ hHeld ?_
    rotate_left
    · (intro ww hSw; (try dsimp only at hSw); have x0 := hSw.1.cell 0 _ rfl; have x1 := hSw.1.cell 1 _ rfl; have x2 := hSw.1.cell 2 _ rfl; have c1 := hSw.2.2.cell 1 _ rfl; go_simp; try with_reducible rfl)
    refine tkW 6 (some 30) (v := ?_) ?_ hHeld ?_
    rotate_left
    · (intro ww _; go_simp; try with_reducible rfl)
    refine tkW 7 (some 31) (v := ?_) ?_ hHeld ?_
    rotate_left
    · (intro ww hSw; (try dsimp only at hSw); have x0 := hSw.1.cell 0 _ rfl; have x1 := hSw.1.cell 1 _ rfl; have x2 := hSw.1.cell 2 _ rfl; have c1 := hSw.2.2.cell 1 _ rfl; go_simp; try with_reducible rfl)
    refine wpAnyH_ready (rs := [8]) (by kernel_rfl) (by simp) ?_
    refine AllReadyH.cons (o := ⟨some 32, _, _, _, _, _⟩) rfl (fun K hK => ?_) AllReadyH.nil
    have HVs : Hid (w.heap.size ≤ Um2u0.heap.size) := HT.out.size
    have hbx : Below Um2u0.heap.size Um2u0 (Um2u0.alloc (.cells #[.string r.nm] 9)) := (Below.refl _ _).alloc (Nat.le_refl _) _
    go_simp
    refine hK.out _ _ (⟨hHeld.1.below hbx, hHeld.2.1.below hbx, hHeld.2.2.below hbx⟩) (fun hHeld2 => ?_)
    clear hK K hHeld
    have hHeld := hHeld2
    clear hHeld2
    (try simp only [Act.put, List.setIfInBounds_toArray, List.set_cons_zero, List.set_cons_succ])
    obtain ⟨Um2u1, eW⟩ : ∃ X, X = Um2u0.alloc (.cells #[.string r.nm] 9) := ⟨_, rfl⟩
    have hb : Below Um2u0.heap.size Um2u0 Um2u1 := by rw [eW]; exact (Below.refl _ _).alloc (Nat.le_refl _) _
    replace HT : Hid (Touch F w Um2u1) := HT.out.bel hb
    replace HR : Hid (RegIs F Um2u1 rb R B mh mn E) := HR.out.below hb
    have HV : Hid (Um2u1.heap[Um2u0.heap.size]? = some (.cells #[.string r.nm] 9)) := by rw [eW]; exact heap_alloc_new _ _
    rw [← eW] at hHeld ⊢
    clear eW
    clear hbx
    obtain ⟨vb, enb⟩ : ∃ b, b = Um2u0.heap.size := ⟨_, rfl⟩
    rw [← enb] at HV HVs ⊢
    clear enb
    clear hb
    refine wpAnyH_ready (rs := [9]) (by kernel_rfl) (by simp) ?_
    refine AllReadyH.cons (o := ⟨some 33, _, _, _, _, _⟩) rfl (fun K hK => ?_) AllReadyH.nil
    obtain ⟨t, Um2u2, hen, hO⟩ := HR.out.openN r.nd
    have hen2 : (Instr.mapEntry 49 (.map (some mn)) (.agg #[.int .i64 r.nd.1, .int .i64 r.nd.2])).run Try.prog Um2u1 = .ok (.tuple #[vN E r.nd, .int .i64 (t : Int)]) Um2u2 := hen
    have hS1 : BxC b3 (rgCells r) 26 Um2u2 ∧ BxC b4 [.int .i64 r.nd.1, .int .i64 r.nd.2, .string r.nm] 53 Um2u2 ∧ BxC rb [.map (some mh), .map (some mn)] 51 Um2u2 := ⟨hHeld.1.keep (hO.blk hHeld.1.lt (HGe.out b3 HG3.out.1)), hHeld.2.1.keep (hO.blk hHeld.2.1.lt (HGe.out b4 HG3.out.2)), hHeld.2.2.keep (hO.blk hHeld.2.2.lt HR.out.rmm.2)⟩
    have HV2 : Hid (BxC vb [.string r.nm] 9 Um2u2) := BxC.keep (cs := [.string r.nm]) HV.out (hO.blk (row_lt HV.out) (HGe.out vb HVs.out))
    obtain ⟨Wq, eWq⟩ : ∃ X, X = Um2u1 := ⟨_, rfl⟩
    have HO : Hid (OpenN F Wq rb R B mh mn E r.nd t Um2u2) := (by rw [eWq]; exact hO)
    have HT1 : Hid (Touch F w Wq) := (by rw [eWq]; exact HT.out)
    clear hen hO
    go_simp
    refine hK.out _ _ (hS1) (fun hHeld2 => ?_)
    clear hK K hHeld
    have hHeld := hHeld2
    clear hHeld2
    (try simp only [Act.put, List.setIfInBounds_toArray, List.set_cons_zero, List.set_cons_succ])
    clear hen2 hS1 HR HT HV eWq
    refine tkW 10 (some 29) (v := ?_) ?_ hHeld ?_
    rotate_left
    · (intro ww _; go_simp; try with_reducible rfl)
    refine tkW 12 (some 35) (v := ?_) ?_ hHeld ?_
    rotate_left
    · (intro ww _; go_simp; try with_reducible rfl)
    refine wpAnyH_ready (rs := [11]) (by kernel_rfl) (by simp) ?_
    refine AllReadyH.cons (o := ⟨some 34, _, _, _, _, _⟩) rfl (fun K hK => ?_) AllReadyH.nil
    refine step_append_own_at rfl (.tmp 29) (.tmp 32) 61 rfl 0 9 isr (.string ⟨#[]⟩) 1 16 Try.underlying61 hisr hz0sr hz1sr hz2sr rfl (by decide) (vN E r.nd) (B r.nd).length (flatE nmCells (B r.nd)) rfl HO.out.own ⟨vb, 0, none⟩ 1 1 [.string r.nm] rfl rfl (fun j u hj => by (rw [Addr.add_lit, cell_of_row Um2u2 vb _ _ _ _ HV2.out, Nat.zero_add, List.getElem?_toArray]; exact hj)) (by simp [Value.oneCell']) (by have := HBl.out; unfold maxLen; omega) (by have := HBl.out; omega) (Nat.zero_le _) ?_
    intro v2 Um2u3 hown hgr hat
    obtain ⟨a2, n2, c2, e2⟩ : ∃ a n c, v2 = .slice a n c := (by rcases hown.2 with ⟨e, _⟩ | ⟨g, cap, cur, e, _⟩; exact ⟨_, _, _, e⟩; exact ⟨_, _, _, e⟩)
    subst e2
    have hlo : ∀ b, w.heap.size ≤ b → some b ≠ (vN E r.nd).ownBlock := fun b hb e => (by have h1 := HLt.out _ (HO.out.is.inN e.symm).1; omega)
    have hS2 : BxC b3 (rgCells r) 26 Um2u3 ∧ BxC b4 [.int .i64 r.nd.1, .int .i64 r.nd.2, .string r.nm] 53 Um2u3 ∧ BxC rb [.map (some mh), .map (some mn)] 51 Um2u3 := ⟨hHeld.1.keep (hgr.block _ hHeld.1.lt (hlo b3 HG3.out.1)), hHeld.2.1.keep (hgr.block _ hHeld.2.1.lt (hlo b4 HG3.out.2)), hHeld.2.2.keep (hgr.block _ hHeld.2.2.lt (fun e => (HO.out.is.apart (HO.out.is.ownN r.nd) e.symm).1 rfl))⟩
    have HAp : Hid (OpenN F Wq rb R B mh mn E r.nd t Um2u2 ∧ OwnNm 0 Um2u3 (.slice a2 n2 c2) (B r.nd ++ [r.nm]) ∧ Um2u2.grownBy Um2u3 (vN E r.nd).ownBlock ∧ ((Value.slice a2 n2 c2).ownBlock = (vN E r.nd).ownBlock ∨ ∃ k, (Value.slice a2 n2 c2).ownBlock = some k ∧ Wq.heap.size ≤ k)) := ⟨HO.out, OwnE.snoc rfl hown, hgr, hat.imp id (fun h => ⟨_, h, HO.out.size⟩)⟩
    clear hown hgr hat hlo
    refine hK.out _ _ (hS2) (fun hHeld2 => ?_)
    clear hK K hHeld
    have hHeld := hHeld2
    clear hHeld2
    (try simp only [Act.put, List.setIfInBounds_toArray, List.set_cons_zero, List.set_cons_succ])
    clear hS2 HO HV2
    refine wpAnyH_ready (rs := [13]) (by kernel_rfl) (by simp) ?_
    refine AllReadyH.cons (o := ⟨none, _, _, _, _, _⟩) rfl (fun K hK => ?_) AllReadyH.nil
    obtain ⟨Um2u4, E2, hst, hR, hTo, hgb⟩ := HAp.out.1.store HAp.out.2.2.1 HAp.out.2.1 (by simp) HNd.out HAp.out.2.2.2
    have hst2 : (Instr.entryStore 49 (.map (some mn)) (.int .i64 (t : Int)) (.slice a2 n2 c2)).run Try.prog Um2u3 = .ok () Um2u4 := hst
    obtain ⟨F2, eF2⟩ : ∃ F2 : Nat → Prop, F2 = fun k => F k ∨ (Value.slice a2 n2 c2).ownBlock = some k := ⟨_, rfl⟩
    have HR : Hid (RegIs F2 Um2u4 rb R (updN B r.nd (B r.nd ++ [r.nm])) mh mn E2) := (by rw [eF2]; exact hR)
    have HT : Hid (Touch F w Um2u4) := HT1.out.trans hTo (fun j hj => .inl hj)
    have HSub : Hid ((∀ k, F k → F2 k) ∧ ∀ k, F2 k → F k ∨ w.heap.size ≤ k) := (by rw [eF2]; exact ⟨fun k hk => .inl hk, fun k hk => hk.elim .inl (fun e => HAp.out.2.2.2.elim (fun e2 => .inl (HAp.out.1.is.inN (e2 ▸ e)).1) (fun ⟨k2, e2, h2⟩ => .inr (by (rw [e] at e2; cases e2; exact Nat.le_trans HT1.out.size h2))))⟩)
    have hS1 : BxC b3 (rgCells r) 26 Um2u4 ∧ BxC b4 [.int .i64 r.nd.1, .int .i64 r.nd.2, .string r.nm] 53 Um2u4 ∧ BxC rb [.map (some mh), .map (some mn)] 51 Um2u4 := ⟨hHeld.1.keep (hgb.block _ hHeld.1.lt (fun e => HGe.out b3 HG3.out.1 (by cases e; rfl))), hHeld.2.1.keep (hgb.block _ hHeld.2.1.lt (fun e => HGe.out b4 HG3.out.2 (by cases e; rfl))), HR.out.row⟩
    clear hst hR hTo hgb eF2
    go_simp
    refine hK.out _ _ (hS1) (fun hHeld2 => ?_)
    clear hK K hHeld
    have hHeld := hHeld2
    clear hHeld2
    (try simp only [Act.put, List.setIfInBounds_toArray, List.set_cons_zero, List.set_cons_succ])
    clear hst2 hS1 HAp HT1
    refine wpAnyH_done (by kernel_rfl) ?_ _
    have HX : Hid (BxC b3 (rgCells r) 26 Um2u4) := hHeld.1
    have HY : Hid (BxC b4 [.int .i64 r.nd.1, .int .i64 r.nd.2, .string r.nm] 53 Um2u4) := hHeld.2.1
    clear hHeld
    go_wp2_with fail
    refine wp_region_held_drew (S := fun W' => BxC b3 (rgCells r) 26 W' ∧ BxC b4 [.int .i64 r.nd.1, .int .i64 r.nd.2, .string r.nm] 53 W' ∧ BxC rb [.map (some mh), .map (some mn)] 51 W') (by kernel_rfl) ⟨HX.out.below (Below.refl _ _).drew, HY.out.below (Below.refl _ _).drew, BxC.below (cs := [.map (some mh), .map (some mn)]) HR.out.row (Below.refl _ _).drew⟩ (fun hHeld => ?_)
    obtain ⟨Un3u0, eW⟩ : ∃ X, X = Um2u4.drew := ⟨_, rfl⟩
    have hb : Below Um2u4.heap.size Um2u4 Un3u0 := by rw [eW]; exact (Below.refl _ _).drew
    replace HT : Hid (Touch F w Un3u0) := HT.out.bel hb
    replace HR : Hid (RegIs F2 Un3u0 rb R (updN B r.nd (B r.nd ++ [r.nm])) mh mn E2) := HR.out.below hb
    rw [← eW] at hHeld ⊢
    clear eW hb
    refine tkW 0 (some 43) (v := ?_) ?_ hHeld ?_
    rotate_left
    · (intro ww _; go_simp; try with_reducible rfl)
    refine tkW 1 (some 44) (v := ?_) ?_ hHeld ?_
    rotate_left
    · (intro ww hSw; (try dsimp only at hSw); go_simp; try with_reducible rfl)
    refine tkW 2 (some 45) (v := ?_) ?_ hHeld ?_
    rotate_left
    · (intro ww _; go_simp; try with_reducible rfl)
    refine tkW 3 (some 46) (v := ?_) ?_ hHeld ?_
    rotate_left
    · (intro ww hSw; (try dsimp only at hSw); have x0 := hSw.1.cell 0 _ rfl; have x1 := hSw.1.cell 1 _ rfl; have x2 := hSw.1.cell 2 _ rfl; have x3 := hSw.1.cell 3 _ rfl; have x4 := hSw.1.cell 4 _ rfl; have x5 := hSw.1.cell 5 _ rfl; have x6 := hSw.1.cell 6 _ rfl; have c0 := hSw.2.2.cell 0 _ rfl; have y0 := hSw.2.1.cell 0 _ rfl; have y1 := hSw.2.1.cell 1 _ rfl; have y2 := hSw.2.1.cell 2 _ rfl; go_simp; try with_reducible rfl)
    refine tkW 4 (some 47) (v := ?_) ?_ hHeld ?_
    rotate_left
    · (intro ww hSw; (try dsimp only at hSw); have x0 := hSw.1.cell 0 _ rfl; have x1 := hSw.1.cell 1 _ rfl; have x2 := hSw.1.cell 2 _ rfl; have x3 := hSw.1.cell 3 _ rfl; have x4 := hSw.1.cell 4 _ rfl; have x5 := hSw.1.cell 5 _ rfl; have x6 := hSw.1.cell 6 _ rfl; have c0 := hSw.2.2.cell 0 _ rfl; have y0 := hSw.2.1.cell 0 _ rfl; have y1 := hSw.2.1.cell 1 _ rfl; have y2 := hSw.2.1.cell 2 _ rfl; go_simp; try with_reducible rfl)
    refine tkW 5 (some 48) (v := ?_) ?_ hHeld ?_
    rotate_left
    · (intro ww hSw; (try dsimp only at hSw); have x0 := hSw.1.cell 0 _ rfl; have x1 := hSw.1.cell 1 _ rfl; have x2 := hSw.1.cell 2 _ rfl; have x3 := hSw.1.cell 3 _ rfl; have x4 := hSw.1.cell 4 _ rfl; have x5 := hSw.1.cell 5 _ rfl; have x6 := hSw.1.cell 6 _ rfl; have c0 := hSw.2.2.cell 0 _ rfl; have y0 := hSw.2.1.cell 0 _ rfl; have y1 := hSw.2.1.cell 1 _ rfl; have y2 := hSw.2.1.cell 2 _ rfl; go_simp; try with_reducible rfl)
    refine wpAnyH_ready (rs := [6]) (by kernel_rfl) (by simp) ?_
    refine AllReadyH.cons (o := ⟨none, _, _, _, _, _⟩) rfl (fun K hK => ?_) AllReadyH.nil
    obtain ⟨Un3u1, hup, hR, hTo, hsz, hgb⟩ := HR.out.storeH r (fun h => by (rw [HH.out] at h; cases h))
    have hup2 : (Instr.mapUpdate 48 (.map (some mh)) (.agg #[.int .i64 r.nd.1, .int .i64 r.nd.2, .string r.nm]) (.agg #[.int .i64 r.nd.1, .int .i64 r.nd.2, .string r.nm, .int .i64 r.at_.1, .int .i64 r.at_.2, .string r.vl, .bool r.gn])).run Try.prog Un3u0 = .ok () Un3u1 := hup
    have HR9 : Hid (RegIs F2 Un3u1 rb (insR R r) (updN B r.nd (B r.nd ++ [r.nm])) mh mn E2) := hR
    have HT9 : Hid (Touch F w Un3u1) := HT.out.trans hTo HSub.out.2
    have hS1 : BxC b3 (rgCells r) 26 Un3u1 ∧ BxC b4 [.int .i64 r.nd.1, .int .i64 r.nd.2, .string r.nm] 53 Un3u1 ∧ BxC rb [.map (some mh), .map (some mn)] 51 Un3u1 := ⟨hHeld.1.keep (hgb.block _ hHeld.1.lt (fun e => HGh.out b3 HG3.out.1 (by cases e; rfl))), hHeld.2.1.keep (hgb.block _ hHeld.2.1.lt (fun e => HGh.out b4 HG3.out.2 (by cases e; rfl))), HR9.out.row⟩
    clear hup hR hTo hsz hgb
    go_simp
    refine hK.out _ _ (hS1) (fun hHeld2 => ?_)
    clear hK K hHeld
    have hHeld := hHeld2
    clear hHeld2
    (try simp only [Act.put, List.setIfInBounds_toArray, List.set_cons_zero, List.set_cons_succ])
    clear hup2 hS1 HT HR
    refine wpAnyH_done (by kernel_rfl) ?_ _
    clear hHeld
    go_wp2
    go_end0
    exact ⟨⟨_, rfl⟩, TakeP.of ⟨_, mh, mn, _, HR9.out, nms_new HSr.out HNo.out r, by (have h1 := HLn.out; have h2 := insR_length R r; omega)⟩ HSub.out.1 HSub.out.2 HT9.out⟩
  | true =>
    have HH : Hid (hasR R (keyR r) = true) := hH
    have x0 : Ut1u2.cell? ⟨b3, 0, none⟩ = some (.int .i64 r.nd.1) := HX.out.cell 0 _ rfl
    have x1 : Ut1u2.cell? ⟨b3, 1, none⟩ = some (.int .i64 r.nd.2) := HX.out.cell 1 _ rfl
    have x2 : Ut1u2.cell? ⟨b3, 2, none⟩ = some (.string r.nm) := HX.out.cell 2 _ rfl
    have x3 : Ut1u2.cell? ⟨b3, 3, none⟩ = some (.int .i64 r.at_.1) := HX.out.cell 3 _ rfl
    have x4 : Ut1u2.cell? ⟨b3, 4, none⟩ = some (.int .i64 r.at_.2) := HX.out.cell 4 _ rfl
    have x5 : Ut1u2.cell? ⟨b3, 5, none⟩ = some (.string r.vl) := HX.out.cell 5 _ rfl
    have x6 : Ut1u2.cell? ⟨b3, 6, none⟩ = some (.bool r.gn) := HX.out.cell 6 _ rfl
    have z0 : Ut1u2.cell? ⟨b5, 0, none⟩ = some (.int .i64 (atR R (keyR r)).nd.1) := HZ2.out.cell 0 _ rfl
    have z1 : Ut1u2.cell? ⟨b5, 1, none⟩ = some (.int .i64 (atR R (keyR r)).nd.2) := HZ2.out.cell 1 _ rfl
    have z2 : Ut1u2.cell? ⟨b5, 2, none⟩ = some (.string (atR R (keyR r)).nm) := HZ2.out.cell 2 _ rfl
    have z3 : Ut1u2.cell? ⟨b5, 3, none⟩ = some (.int .i64 (atR R (keyR r)).at_.1) := HZ2.out.cell 3 _ rfl
    have z4 : Ut1u2.cell? ⟨b5, 4, none⟩ = some (.int .i64 (atR R (keyR r)).at_.2) := HZ2.out.cell 4 _ rfl
    have z5 : Ut1u2.cell? ⟨b5, 5, none⟩ = some (.string (atR R (keyR r)).vl) := HZ2.out.cell 5 _ rfl
    have z6 : Ut1u2.cell? ⟨b5, 6, none⟩ = some (.bool (atR R (keyR r)).gn) := HZ2.out.cell 6 _ rfl
    clear hH
    go_wp2_with fail
    clear x0 x1 x2 x3 x4 x5 x6 z0 z1 z2 z3 z4 z5 z6
    refine (wins_any r (atR R (keyR r)) _).mono ?_
    rintro e w7 ⟨rfl, hb⟩
    replace HX := HX.out.below hb
    replace HY := HY.out.below hb
    replace HR := HR.out.below hb
    replace HT := HT.out.bel hb
    have HX : Hid (BxC b3 (rgCells r) 26 w7) := HX
    have HY : Hid (BxC b4 [.int .i64 r.nd.1, .int .i64 r.nd.2, .string r.nm] 53 w7) := HY
    have HR : Hid (RegIs F w7 rb R B mh mn E) := HR
    have HT : Hid (Touch F w w7) := HT
    clear hb HZ2
    cases hW : winB r (atR R (keyR r)) with
    | false =>
      have HE : Hid (insR R r = R) := ins_stays HR.out.srt (has_at HH.out).1 (has_at HH.out).2 hW
      clear hW
      go_wp2
      go_end0
      exact ⟨⟨_, rfl⟩, by (rw [HE.out]; exact TakeP.of ⟨_, mh, mn, _, HR.out, HNo.out, HLm.out⟩ (fun _ h => h) (fun _ h => .inl h) HT.out)⟩
    | true =>
      have HW : Hid (winB r (atR R (keyR r)) = true) := hW
      have HSub : Hid ((∀ k, F k → F k) ∧ ∀ k, F k → F k ∨ w.heap.size ≤ k) := ⟨fun _ h => h, fun _ h => .inl h⟩
      clear hW
      go_wp2_with fail
      refine wp_region_held_drew (S := fun W' => BxC b3 (rgCells r) 26 W' ∧ BxC b4 [.int .i64 r.nd.1, .int .i64 r.nd.2, .string r.nm] 53 W' ∧ BxC rb [.map (some mh), .map (some mn)] 51 W') (by kernel_rfl) ⟨HX.out.below (Below.refl _ _).drew, HY.out.below (Below.refl _ _).drew, BxC.below (cs := [.map (some mh), .map (some mn)]) HR.out.row (Below.refl _ _).drew⟩ (fun hHeld => ?_)
      obtain ⟨Uo4u0, eW⟩ : ∃ X, X = w7.drew := ⟨_, rfl⟩
      have hb : Below w7.heap.size w7 Uo4u0 := by rw [eW]; exact (Below.refl _ _).drew
      replace HT : Hid (Touch F w Uo4u0) := HT.out.bel hb
      replace HR : Hid (RegIs F Uo4u0 rb R B mh mn E) := HR.out.below hb
      rw [← eW] at hHeld ⊢
      clear eW hb
      refine tkW 0 (some 43) (v := ?_) ?_ hHeld ?_
      rotate_left
      · (intro ww _; go_simp; try with_reducible rfl)
      refine tkW 1 (some 44) (v := ?_) ?_ hHeld ?_
      rotate_left
      · (intro ww hSw; (try dsimp only at hSw); go_simp; try with_reducible rfl)
      refine tkW 2 (some 45) (v := ?_) ?_ hHeld ?_
      rotate_left
      · (intro ww _; go_simp; try with_reducible rfl)
      refine tkW 3 (some 46) (v := ?_) ?_ hHeld ?_
      rotate_left
      · (intro ww hSw; (try dsimp only at hSw); have x0 := hSw.1.cell 0 _ rfl; have x1 := hSw.1.cell 1 _ rfl; have x2 := hSw.1.cell 2 _ rfl; have x3 := hSw.1.cell 3 _ rfl; have x4 := hSw.1.cell 4 _ rfl; have x5 := hSw.1.cell 5 _ rfl; have x6 := hSw.1.cell 6 _ rfl; have c0 := hSw.2.2.cell 0 _ rfl; have y0 := hSw.2.1.cell 0 _ rfl; have y1 := hSw.2.1.cell 1 _ rfl; have y2 := hSw.2.1.cell 2 _ rfl; go_simp; try with_reducible rfl)
      refine tkW 4 (some 47) (v := ?_) ?_ hHeld ?_
      rotate_left
      · (intro ww hSw; (try dsimp only at hSw); have x0 := hSw.1.cell 0 _ rfl; have x1 := hSw.1.cell 1 _ rfl; have x2 := hSw.1.cell 2 _ rfl; have x3 := hSw.1.cell 3 _ rfl; have x4 := hSw.1.cell 4 _ rfl; have x5 := hSw.1.cell 5 _ rfl; have x6 := hSw.1.cell 6 _ rfl; have c0 := hSw.2.2.cell 0 _ rfl; have y0 := hSw.2.1.cell 0 _ rfl; have y1 := hSw.2.1.cell 1 _ rfl; have y2 := hSw.2.1.cell 2 _ rfl; go_simp; try with_reducible rfl)
      refine tkW 5 (some 48) (v := ?_) ?_ hHeld ?_
      rotate_left
      · (intro ww hSw; (try dsimp only at hSw); have x0 := hSw.1.cell 0 _ rfl; have x1 := hSw.1.cell 1 _ rfl; have x2 := hSw.1.cell 2 _ rfl; have x3 := hSw.1.cell 3 _ rfl; have x4 := hSw.1.cell 4 _ rfl; have x5 := hSw.1.cell 5 _ rfl; have x6 := hSw.1.cell 6 _ rfl; have c0 := hSw.2.2.cell 0 _ rfl; have y0 := hSw.2.1.cell 0 _ rfl; have y1 := hSw.2.1.cell 1 _ rfl; have y2 := hSw.2.1.cell 2 _ rfl; go_simp; try with_reducible rfl)
      refine wpAnyH_ready (rs := [6]) (by kernel_rfl) (by simp) ?_
      refine AllReadyH.cons (o := ⟨none, _, _, _, _, _⟩) rfl (fun K hK => ?_) AllReadyH.nil
      obtain ⟨Uo4u1, hup, hR, hTo, hsz, hgb⟩ := HR.out.storeH r (fun _ => HW.out)
      have hup2 : (Instr.mapUpdate 48 (.map (some mh)) (.agg #[.int .i64 r.nd.1, .int .i64 r.nd.2, .string r.nm]) (.agg #[.int .i64 r.nd.1, .int .i64 r.nd.2, .string r.nm, .int .i64 r.at_.1, .int .i64 r.at_.2, .string r.vl, .bool r.gn])).run Try.prog Uo4u0 = .ok () Uo4u1 := hup
      have HR9 : Hid (RegIs F Uo4u1 rb (insR R r) B mh mn E) := hR
      have HT9 : Hid (Touch F w Uo4u1) := HT.out.trans hTo HSub.out.2
      have hS1 : BxC b3 (rgCells r) 26 Uo4u1 ∧ BxC b4 [.int .i64 r.nd.1, .int .i64 r.nd.2, .string r.nm] 53 Uo4u1 ∧ BxC rb [.map (some mh), .map (some mn)] 51 Uo4u1 := ⟨hHeld.1.keep (hgb.block _ hHeld.1.lt (fun e => HGh.out b3 HG3.out.1 (by cases e; rfl))), hHeld.2.1.keep (hgb.block _ hHeld.2.1.lt (fun e => HGh.out b4 HG3.out.2 (by cases e; rfl))), HR9.out.row⟩
      clear hup hR hTo hsz hgb
      go_simp
      refine hK.out _ _ (hS1) (fun hHeld2 => ?_)
      clear hK K hHeld
      have hHeld := hHeld2
      clear hHeld2
      (try simp only [Act.put, List.setIfInBounds_toArray, List.set_cons_zero, List.set_cons_succ])
      clear hup2 hS1 HT HR
      refine wpAnyH_done (by kernel_rfl) ?_ _
      clear hHeld
      go_wp2
      go_end0
      exact ⟨⟨_, rfl⟩, TakeP.of ⟨_, mh, mn, _, HR9.out, nms_old HSr.out HNo.out HH.out, by (have h1 := HLn.out; have h2 := insR_length R r; omega)⟩ HSub.out.1 HSub.out.2 HT9.out⟩

end Go.Proofs.Ytecliogffcnfiaa
