/- Going over the places of a tree's nodes: spots, and what stands while one ranges over it. -/
import Derived.Test.YthhnglpkfcmjiaaKDiN
import Derived.Test.YthhnglpkfcmjiaaKVtE
import Derived.Test.YthhnglpkfcmjiaaKVtQ
import Derived.Laws.EntriesVeiled
namespace Go.Proofs.Ythhnglpkfcmjiaa
open Go.RowKit Go.Shelf
set_option linter.unusedVariables false
set_option linter.unusedSimpArgs false
attribute [local go_sem] Oper.semAt_some
theorem flatS_t_n (w : World) : ∀ (n : Nat), (∀ t u i b o, VT.sz t ≤ n → (flatS w t u i b o).map Sd.t = flT t) ∧ (∀ l u i b o, szs l ≤ n → (flatsS w l u i b o).map Sd.t = flTs l)
  | 0 => ⟨fun t _ _ _ _ h => by have := t.sz_pos; omega, fun l _ _ _ _ h => by
      cases l with
      | nil => simp [flatsS, flTs]
      | cons x r => have := x.sz_pos; rw [szs] at h; omega⟩
  | n + 1 => by
    have ih := flatS_t_n w n
    have h1 : ∀ t u i b o, VT.sz t ≤ n + 1 → (flatS w t u i b o).map Sd.t = flT t := fun t u i b o h => by
      rw [flatS_eq, List.map_cons, ih.2 _ _ _ _ _ (by have := t.sz_eq; omega), flT_eq]
    refine ⟨h1, fun l => ?_⟩
    induction l with
    | nil => intro u i b o _; simp [flatsS, flTs]
    | cons x r ihr =>
      intro u i b o h
      rw [szs] at h
      rw [flatsS, List.map_append, h1 x u i b o (by omega), ihr u (i + 1) b (o + 6) (by omega), flTs]
theorem flatS_t (w : World) (t : VT) (u : St) (i b o : Nat) : (flatS w t u i b o).map Sd.t = flT t := (flatS_t_n w t.sz).1 t u i b o (Nat.le_refl _)
theorem flatS_at_n (S : Nat → Prop) (w : World) : ∀ (n : Nat) (t : VT) (u : St) (i b o : Nat), t.sz ≤ n → VAt S w t b o → S b → ∀ x ∈ flatS w t u i b o, VAt S w x.t x.b x.o ∧ S x.b
  | 0, t, _, _, _, _, h, _, _, _, _ => by have := t.sz_pos; omega
  | n + 1, t, u, i, b, o, h, hv, hS, x, hx => by
    rw [flatS_eq] at hx
    rcases List.mem_cons.1 hx with rfl | hx
    · exact ⟨hv, hS⟩
    · have key : ∀ (l : List VT) (v : St) (j b2 o2 : Nat), (∀ i (hi : i < l.length), VAt S w l[i] b2 (o2 + i * 6) ∧ l[i].sz ≤ n) → S b2 → ∀ x ∈ flatsS w l v j b2 o2, VAt S w x.t x.b x.o ∧ S x.b := fun l => by
        induction l with
        | nil => intro _ _ _ _ _ _ x hx; simp [flatsS] at hx
        | cons y r ihr =>
          intro v j b2 o2 hl hS2 x hx
          rw [flatsS] at hx
          rcases List.mem_append.1 hx with hx | hx
          · have h0 := hl 0 (by simp)
            rw [Nat.zero_mul, Nat.add_zero, List.getElem_cons_zero] at h0
            exact flatS_at_n S w n y v j b2 o2 h0.2 h0.1 hS2 x hx
          · refine ihr v (j + 1) b2 (o2 + 6) (fun i hi => ?_) hS2 x hx
            have h1 := hl (i + 1) (by simpa using hi)
            rw [List.getElem_cons_succ, show o2 + (i + 1) * 6 = o2 + 6 + i * 6 by omega] at h1
            exact h1
      by_cases hk : t.ks = []
      · rw [hk] at hx; simp [flatsS] at hx
      · obtain ⟨b2, o2, ck, ekb, hg, hlt, _, _⟩ := hv.kbo (i := 0) (by cases h9 : t.ks with | nil => exact absurd h9 hk | cons _ _ => simp)
        rw [ekb] at hx
        refine key t.ks t.k 0 b2 o2 (fun j hj => ?_) hg x hx
        obtain ⟨b3, o3, ck3, ekb3, _, _, _, hv3⟩ := hv.kbo hj
        rw [ekb] at ekb3
        injection ekb3 with e1 e2
        subst e1 e2
        exact ⟨hv3, by have := VT.kid hj; omega⟩
theorem flatS_at {S : Nat → Prop} {w : World} {t : VT} {u : St} {i b o : Nat} (hv : VAt S w t b o) (hS : S b) : ∀ x ∈ flatS w t u i b o, VAt S w x.t x.b x.o ∧ S x.b := flatS_at_n S w t.sz t u i b o (Nat.le_refl _) hv hS
set_option maxRecDepth 100000 in
set_option maxHeartbeats 4000000 in
theorem spots1_in (n : Nat) (S : Nat → Prop) (N l Bp Bt : Nat) (t : VT) (w0 W : World) (hS : ∀ k, S k → k < w0.heap.size) (hk : KeepsS S w0 W) (hN : N ≤ W.heap.size) (hBp : W.cell? ⟨Bp, 0, none⟩ = some (.pointer (some ⟨Bt, 0, none⟩))) (hv : VAt S w0 t Bt 0) (hSb : S Bt)
    (J Jx : Nat → World → Prop) (hJ : ∀ (k : Nat) (A B : World), J k A → Below A.heap.size A B → J k B) (hY : ∀ (n k : Nat) (h : k < (flatS w0 t (0, 0) 0 Bt 0).length) (W1 : World), J k W1 → YieldAt Fence.wide n Try.prog l (encS (flatS w0 t (0, 0) 0 Bt 0)[k]) W1 fun e W' => (e = .returned (.bool true) ∧ J (k + 1) W' ∧ KpS S N W1 W') ∨ (e = .returned (.bool false) ∧ Jx (k + 1) W' ∧ KpS S N W1 W')) (h0 : J 0 W) :
    CallsIn Fence.wide n Try.prog 52 #[.func (.yield l) #[] #[], .pointer (some ⟨Bp, 0, none⟩)] W fun e W' => (∃ v, e = .returned v) ∧ (J (flatS w0 t (0, 0) 0 Bt 0).length W' ∨ ∃ k, k ≤ (flatS w0 t (0, 0) 0 Bt 0).length ∧ Jx k W') := by
  obtain ⟨hg, hb⟩ := GsS.start (l := l) hk hS hN
  have hj := hJ 0 _ _ h0 hb
  have hcl : CallsIn Fence.wide 0 Try.prog 53 #[.agg #[.pointer (some ⟨Bt, 0, none⟩), .int .i64 0, .int .i64 0, .int .i64 0], .pointer (some ⟨W.heap.size, 0, none⟩), .pointer (some ⟨W.heap.size + 1, 0, none⟩)] ((W.alloc (.cells #[.func (.yield l) #[] #[]] 86)).alloc (.cells #[.func (.func 53) #[] #[.pointer (some ⟨W.heap.size, 0, none⟩), .pointer (some ⟨W.heap.size + 1, 0, none⟩)]] 86)) fun e W' => GsE S N ((W.alloc (.cells #[.func (.yield l) #[] #[]] 86)).alloc (.cells #[.func (.func 53) #[] #[.pointer (some ⟨W.heap.size, 0, none⟩), .pointer (some ⟨W.heap.size + 1, 0, none⟩)]] 86)) (flatS w0 t (0, 0) 0 Bt 0) J Jx (0 + t.sz) e W' := spot_n S S (fun _ h => h) N l W.heap.size (W.heap.size + 1) w0 (flatS w0 t (0, 0) 0 Bt 0) J Jx hJ hY t.sz 0 t Bt 0 (0, 0) 0 0 _ (Nat.le_refl _) hv hSb (by rw [SegS, List.drop_zero]; exact List.prefix_rfl) hg hj
  have HC := hide9 (callsIn_wide.1 hcl)
  have hBp2 : ((W.alloc (.cells #[.func (.yield l) #[] #[]] 86)).alloc (.cells #[.func (.func 53) #[] #[.pointer (some ⟨W.heap.size, 0, none⟩), .pointer (some ⟨W.heap.size + 1, 0, none⟩)]] 86)).cell? ⟨Bp, 0, none⟩ = some (.pointer (some ⟨Bt, 0, none⟩)) := (Below.cell hb (p := ⟨Bp, 0, none⟩) (cell_lt hBp)).trans hBp
  have hne : Bp ≠ W.heap.size + 1 := by have : Bp < W.heap.size := cell_lt (p := ⟨Bp, 0, none⟩) hBp; omega
  clear hcl hg hj hb hv
  refine callsIn_wide.2 ?_
  go_enter Try.func52, Try.ntmps52
  go_wp2_with fail
  refine HC.out.mono ?_
  clear HC
  rintro e W3 ⟨bv, rfl, hkp, hgp⟩
  have HP := hide9 hgp
  clear hgp hkp
  go_wp2
  go_end0
  refine ⟨⟨_, rfl⟩, ?_⟩
  rcases HP.out with ⟨_, h1⟩ | ⟨_, h1⟩
  · left
    rw [flatS_len]
    rw [Nat.zero_add] at h1
    exact h1
  · exact .inr h1
theorem spots_seq (n : Nat) (S : Nat → Prop) (N Bp Bt : Nat) (t : VT) (w : World) (hS : ∀ k, S k → k < w.heap.size) (hN : N ≤ w.heap.size) (hBp : w.cell? ⟨Bp, 0, none⟩ = some (.pointer (some ⟨Bt, 0, none⟩))) (hv : VAt S w t Bt 0) (hSb : S Bt) :
    SeqK n Try.prog 52 #[.pointer (some ⟨Bp, 0, none⟩)] encS (KpS S N) (flatS w t (0, 0) 0 Bt 0) w := fun l J Jx W hW hJ _ hY h0 =>
  spots1_in n S N l Bp Bt t w W hS (KeepsS.of_below hW hS) (Nat.le_trans hN hW.size) ((hW.cell (p := ⟨Bp, 0, none⟩) (cell_lt hBp)).trans hBp) hv hSb J Jx (fun k A B hA hb => hJ k A B none hA (grownBy.ofBelow hb none) (fun r e => by cases e)) (fun m k h W1 hJ1 => YieldAt.anyD m (hY k h W1 hJ1)) h0
theorem spots_any (Bt : Nat) (w : World) : Calls Try.prog 31 #[.pointer (some ⟨Bt, 0, none⟩)] w fun e w' => e = .returned (.func (.func 52) #[] #[.pointer (some ⟨w.heap.size, 0, none⟩)]) ∧ w' = w.alloc (.cells #[.pointer (some ⟨Bt, 0, none⟩)] 58) := by
  go_enter Try.func31, Try.ntmps31
  go_wp2
  go_ret
  exact ⟨rfl, rfl⟩
theorem KpS.grown {S : Nat → Prop} {N : Nat} {A B : World} {row : Option Nat} (hg : A.grownBy B row) (hS : ∀ k, S k → k < A.heap.size) (h : ∀ g, row = some g → ¬ S g ∧ (g < N ∨ ∀ c f ty, A.heap[g]? = some (.cells c ty f) → ty ≠ 86 ∧ ty ≠ 64)) : KpS S N A B := by
  refine ⟨hg.size, fun k hk => hg.block k ?_ fun e => ?_⟩
  · rcases hk with hk | ⟨_, c, f, ty, hq, _⟩
    · exact hS k hk
    · exact row_lt hq
  · obtain ⟨h1, h2⟩ := h k e.symm
    rcases hk with hk | ⟨h3, c, f, ty, hq, ht⟩
    · exact h1 hk
    · rcases h2 with h2 | h2
      · omega
      · have := h2 c f ty hq
        rcases ht with ht | ht
        · exact this.1 ht
        · exact this.2 ht
/-- A place in a map: its key, its value. -/
def skU (x : Sd) : St := x.t.k
def svU (x : Sd) : Value := .agg #[.pointer (some ⟨x.b, x.o, none⟩), .int .i64 x.a.1, .int .i64 x.a.2, .int .i64 (x.i : Int)]
abbrev MpS (w : World) (b : Nat) (D : List Sd) : Prop := MapIs skU svU w b D
theorem uSpk : Try.prog.underlying 56 = some (.map 23 64) := by kernel_rfl
theorem zSpk (w : World) : (zeroValue 64).run Try.prog w = .ok (.agg #[.pointer none, .int .i64 0, .int .i64 0, .int .i64 0]) w := by kernel_rfl
theorem sizeSp : (Try.prog.info? 64).map (·.size) = some 4 := by kernel_rfl
/-- Boxes and maps of the caller's own, while the blocks of S stay. -/
structure DgS (w W2 : World) (S : Nat → Prop) (bx : Nat → Option (Value × TypeId)) (mp : Nat → Option (List Sd)) (U : World) : Prop where
  rn : RnS w W2 S bx U
  ms : ∀ b D, mp b = some D → MpS U b D
  mn : ∀ b D, mp b = some D → ¬ S b ∧ w.heap.size ≤ b ∧ b < W2.heap.size ∧ bx b = none
section
variable {w W2 U U' : World} {S : Nat → Prop} {bx : Nat → Option (Value × TypeId)} {mp : Nat → Option (List Sd)}
theorem DgS.below (h : DgS w W2 S bx mp U) (hb : Below U.heap.size U U') : DgS w W2 S bx mp U' := ⟨h.rn.below hb, fun b D e => (h.ms b D e).keep (hb.block _ (h.ms b D e).lt), h.mn⟩
theorem DgS.grown (h : DgS w W2 S bx mp U) {row : Option Nat} (hg : U.grownBy U' row) (hr : ∀ r, row = some r → W2.heap.size ≤ r ∧ ∃ o : Obj, U.heap[r]? = some o ∧ o.isCells = false) : DgS w W2 S bx mp U' :=
  ⟨h.rn.grown hg hr, fun b D e => (h.ms b D e).keep (hg.block _ (h.ms b D e).lt (fun e2 => by have := (hr _ e2.symm).1; have := (h.mn b D e).2.2.1; omega)), h.mn⟩
/-- A row of the caller's own, which is no box and no map of these. -/
theorem DgS.grownR (h : DgS w W2 S bx mp U) {row : Option Nat} (hg : U.grownBy U' row) (hr : ∀ r, row = some r → w.heap.size ≤ r ∧ ¬ S r ∧ bx r = none ∧ mp r = none) : DgS w W2 S bx mp U' := by
  refine ⟨⟨fun b v t e => ?_, h.rn.bel.grown hg h.rn.bel.size (fun k e => (hr k e).1), h.rn.kp.trans ⟨hg.size, fun k q => hg.block k (Nat.lt_of_lt_of_le (h.rn.sl k q) h.rn.kp.1) (fun e => (hr k e.symm).2.1 q)⟩, h.rn.sl, h.rn.ns, h.rn.le⟩, fun b D e => (h.ms b D e).keep (hg.block _ (h.ms b D e).lt (fun e2 => by rw [(hr _ e2.symm).2.2.2] at e; cases e)), h.mn⟩
  have h1 := h.rn.box b v t e
  exact (hg.block b (row_lt h1) (fun e2 => by rw [(hr _ e2.symm).2.2.1] at e; cases e)).trans h1
theorem DgS.set (h : DgS w W2 S bx mp U) {b : Nat} {v0 : Value} {t : TypeId} (hb : bx b = some (v0, t)) (v : Value) : DgS w W2 S (fun k => if k = b then some (v, t) else bx k) mp (U.setCell ⟨b, 0, none⟩ v) := by
  refine ⟨h.rn.set hb v, fun c D e => (h.ms c D e).keep (RowKit.Below.heap_setCell _ _ _ _ (fun (e2 : c = b) => by have := (h.mn c D e).2.2.2; rw [e2, hb] at this; cases this)), fun c D e => ?_⟩
  obtain ⟨h1, h2, h3, h4⟩ := h.mn c D e
  refine ⟨h1, h2, h3, ?_⟩
  show (if c = b then _ else _) = none
  rw [if_neg (fun e2 => by rw [e2, hb] at h4; cases h4), h4]
/-- A map is another one. -/
theorem DgS.store (h : DgS w W2 S bx mp U) {mb : Nat} {D0 D : List Sd} (hm : mp mb = some D0) (hg : U.grownBy U' (some mb)) (hn : MpS U' mb D) : DgS w W2 S bx (fun k => if k = mb then some D else mp k) U' := by
  obtain ⟨n1, n2, n3, n4⟩ := h.mn mb D0 hm
  refine ⟨⟨fun b v t e => ?_, h.rn.bel.grown hg h.rn.bel.size (fun k e => by cases e; exact n2), h.rn.kp.trans ⟨hg.size, fun k q => hg.block k (Nat.lt_of_lt_of_le (h.rn.sl k q) h.rn.kp.1) (fun e => by cases e; exact n1 q)⟩, h.rn.sl, h.rn.ns, h.rn.le⟩, fun b E e => ?_, fun b E e => ?_⟩
  · have h1 := h.rn.box b v t e
    exact (hg.block b (row_lt h1) (fun e2 => by cases e2; rw [n4] at e; cases e)).trans h1
  · by_cases hb : b = mb
    · subst hb
      rw [if_pos rfl] at e
      injection e with e
      exact e ▸ hn
    · rw [if_neg hb] at e
      exact (h.ms b E e).keep (hg.block _ (h.ms b E e).lt (fun e2 => by injection e2 with e2; exact hb e2))
  · by_cases hb : b = mb
    · subst hb; exact ⟨n1, n2, n3, n4⟩
    · rw [if_neg hb] at e; exact h.mn b E e
theorem DgS.kpM (h : DgS w W2 S bx mp U) {mb : Nat} {D0 : List Sd} (hm : mp mb = some D0) (hg : U.grownBy U' (some mb)) : KpS S W2.heap.size U U' :=
  KpS.grown hg (fun k q => Nat.lt_of_lt_of_le (h.rn.sl k q) h.rn.kp.1) (fun g e => by cases e; exact ⟨(h.mn mb D0 hm).1, .inl (h.mn mb D0 hm).2.2.1⟩)
theorem DgS.kpB (h : DgS w W2 S bx mp U) {b : Nat} {v0 : Value} {t : TypeId} (hb : bx b = some (v0, t)) (v : Value) : KpS S W2.heap.size U (U.setCell ⟨b, 0, none⟩ v) :=
  KpS.grown (grownBy_setCell _ _ _ _) (fun k q => Nat.lt_of_lt_of_le (h.rn.sl k q) h.rn.kp.1) (fun g e => by cases e; exact ⟨(h.rn.ns b v0 t hb).1, .inl (h.rn.ns b v0 t hb).2.2⟩)
theorem DgS.kp0 (h : DgS w W2 S bx mp U) (hb : Below U.heap.size U U') : KpS S W2.heap.size U U' := KpS.of_below hb (fun k q => Nat.lt_of_lt_of_le (h.rn.sl k q) h.rn.kp.1)
end
/-- One map, two maps. -/
def M0 : Nat → Option (List Sd) := fun _ => none
def M1 (b : Nat) (D : List Sd) : Nat → Option (List Sd) := fun k => if k = b then some D else none
theorem M1.at (b : Nat) (D : List Sd) : M1 b D b = some D := if_pos rfl
theorem M1.of {b c : Nat} {D E : List Sd} (h : M1 b D c = some E) : c = b ∧ E = D := by
  unfold M1 at h
  by_cases e : c = b
  · rw [if_pos e] at h; injection h with h; exact ⟨e, h.symm⟩
  · rw [if_neg e] at h; cases h
theorem M1.set (b : Nat) (D E : List Sd) : (fun k => if k = b then some E else M1 b D k) = M1 b E := by funext k; unfold M1; by_cases h : k = b <;> simp [h]
def M2 (b : Nat) (D : List Sd) (c : Nat) (E : List Sd) : Nat → Option (List Sd) := fun k => if k = b then some D else if k = c then some E else none
theorem M2.at1 (b : Nat) (D : List Sd) (c : Nat) (E : List Sd) : M2 b D c E b = some D := if_pos rfl
theorem M2.at2 {b c : Nat} (h : b ≠ c) (D E : List Sd) : M2 b D c E c = some E := by unfold M2; rw [if_neg (fun e => h e.symm), if_pos rfl]
theorem M2.set1 (b : Nat) (D : List Sd) (c : Nat) (E X : List Sd) : (fun k => if k = b then some X else M2 b D c E k) = M2 b X c E := by funext k; unfold M2; by_cases h : k = b <;> simp [h]
theorem M2.set2 {b c : Nat} (h : b ≠ c) (D E X : List Sd) : (fun k => if k = c then some X else M2 b D c E k) = M2 b D c X := by
  funext k; unfold M2
  by_cases h1 : k = b
  · subst h1; simp [h]
  · by_cases h2 : k = c
    · subst h2; simp [h1]
    · simp [h1, h2]
def B0 : Nat → Option (Value × TypeId) := fun _ => none
/-- The box of a place in a round. -/
def SbX (W2 : World) (sb : Nat) (x : Sd) (W : World) : Prop := W.heap[sb]? = some (.cells #[.pointer (some ⟨x.b, x.o, none⟩), .int .i64 x.a.1, .int .i64 x.a.2, .int .i64 (x.i : Int)] 64) ∧ W2.heap.size ≤ sb
theorem SbX.grown {W2 A B : World} {sb : Nat} {x : Sd} (h : SbX W2 sb x A) {row : Option Nat} (hg : A.grownBy B row) (hr : ∀ r, row = some r → ∃ o : Obj, A.heap[r]? = some o ∧ o.isCells = false) : SbX W2 sb x B := ⟨row_own h.1 hg hr, h.2⟩
theorem SbX.below {W2 A B : World} {sb : Nat} {x : Sd} (h : SbX W2 sb x A) (hb : Below A.heap.size A B) : SbX W2 sb x B := ⟨(hb.block _ (row_lt h.1)).trans h.1, h.2⟩
theorem SbX.kp {W2 A B : World} {S : Nat → Prop} {sb : Nat} {x : Sd} (h : SbX W2 sb x A) (hk : KpS S W2.heap.size A B) : SbX W2 sb x B := ⟨(hk.2 sb (.inr ⟨h.2, _, _, _, h.1, .inr rfl⟩)).trans h.1, h.2⟩
theorem wpListIn_store_rowS {F : Fence} {n : Nat} {P : Program} {ops : Array Oper} {rest : List Oper} {op : Oper} {a : Act} {w : World} {Q : Exit → Act → World → Prop} (hgd : op.guard = none) (ty : TypeId) (x y : Operand) (ho : op.op = .store ty x y)
    (b : Nat) (t : TypeId) (c c' : Array Value) (hx : a.eval x = .pointer (some ⟨b, 0, none⟩)) (hy : a.eval y = .agg c') (hr : w.heap[b]? = some (.cells c t))
    (hi : (P.info? ty).map (·.size) = some c'.size) (hs : c.size = c'.size) (h1 : c'.all (·.oneCell') = true)
    (h : wpListIn F n P ops Q rest (a.put op.dst undef) (w.setRow b c')) : wpListIn F n P ops Q (op :: rest) a w := by
  refine wpListIn_plain hgd fun K hK => ?_
  unfold Oper.wpIn
  refine ⟨?_, ?_⟩
  · simp [Oper.about, ho]
  · rw [Oper.semAt_plain F _ _ (by rw [ho]; intro c hc; cases hc)]
    simp only [execOp, ho, hx, hy, Instr.storeAt, Instr.sureAddr, Sem.run_bind, Sem.run_pure, Result.andThen_ok, run_storeVar_row w b t ty c c' hr hi hs h1]
    exact hK _ _ h
end Go.Proofs.Ythhnglpkfcmjiaa
