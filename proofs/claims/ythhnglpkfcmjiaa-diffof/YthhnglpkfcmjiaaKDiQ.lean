/- A row of steps in a box; each: a step for each node that is among some. -/
import Derived.Test.YthhnglpkfcmjiaaKDiP
import Derived.Test.YthhnglpkfcmjiaaKPlainPz
import Derived.Deep.AppendLies
namespace Go.Proofs.Ythhnglpkfcmjiaa
open Go.RowKit Go.Shelf
set_option linter.unusedVariables false
set_option linter.unusedSimpArgs false
attribute [local go_sem] Oper.semAt_some
theorem infoPaD : (Try.prog.info? 45).map (fun i => (i.zero, i.size, i.bytes)) = some (some (.agg #[.int .i64 0, .int .i64 0, .int .i64 0, .int .i64 0, .int .i64 0, .int .i64 0, .int .i64 0, .string ⟨#[]⟩, .string ⟨#[]⟩]), 9, 88) := by kernel_rfl
theorem pa_oneD (p : Pa) : ∀ u ∈ paCells p, u.oneCell' = true := fun u hu => by
  simp [paCells] at hu
  rcases hu with rfl | rfl | rfl | rfl | rfl | rfl | rfl | rfl | rfl <;> rfl
abbrev OwnPa (B : Nat) (w : World) (v : Value) (L : List Pa) : Prop := OwnE paCells 9 45 B w v L
theorem own_cellsE {α : Type} {enc : α → List Value} {n : Nat} {T : TypeId} {B : Nat} {W : World} {v : Value} {D : List α} (h : OwnE enc n T B W v D) {k : Nat} (hk : v.ownBlock = some k) : ∃ c, W.heap[k]? = some (.cells c T) := by
  rcases h.2 with ⟨rfl, _⟩ | ⟨g, cap, cur, rfl, _, hc, _⟩
  · cases hk
  · injection hk with hk
    subst hk
    exact ⟨cur, hc⟩
theorem keepsFrom_ownE {α : Type} {enc : α → List Value} {n : Nat} {T : TypeId} {B N : Nat} {W W' : World} {v : Value} {D : List α} (h : OwnE enc n T N W v D) (hg : W.grownBy W' v.ownBlock) : KeepsFrom B W W' := ⟨hg.size, fun k o _ hk ho => (hg.block k (Array.getElem?_eq_some_iff.1 hk).1 (fun e => by
  obtain ⟨c, hc⟩ := own_cellsE h e.symm
  rw [hk] at hc
  injection hc with hc
  subst hc
  cases ho)).trans hk⟩
theorem KpS.ownE {α : Type} {enc : α → List Value} {n : Nat} {T : TypeId} {S : Nat → Prop} {N : Nat} {W W' : World} {v : Value} {D : List α} (h : OwnE enc n T N W v D) (hT : T ≠ 86 ∧ T ≠ 64) (hS : ∀ k, S k → k < N) (hW : ∀ k, S k → k < W.heap.size) (hg : W.grownBy W' v.ownBlock) : KpS S N W W' :=
  KpS.grown hg hW fun g e => by
    refine ⟨fun q => by have := (OwnE.lt h g e).1; have := hS g q; omega, .inr fun c f ty hc => ?_⟩
    obtain ⟨c2, h2⟩ := own_cellsE h e
    rw [hc] at h2
    injection h2 with h2
    injection h2 with _ h3 _
    rw [h3]; exact hT
theorem DgS.own {α : Type} {enc : α → List Value} {n : Nat} {T : TypeId} {w W2 U U' : World} {S : Nat → Prop} {bx : Nat → Option (Value × TypeId)} {mp : Nat → Option (List Sd)} {v : Value} {D : List α} (h : DgS w W2 S bx mp U) (ho : OwnE enc n T W2.heap.size U v D) (hg : U.grownBy U' v.ownBlock) : DgS w W2 S bx mp U' :=
  h.grownR hg fun r e => by
    have h1 := (OwnE.lt ho r e).1
    refine ⟨by have := h.rn.le; omega, fun q => by have := h.rn.sl r q; omega, ?_, ?_⟩
    · cases e2 : bx r with
      | none => rfl
      | some x => have := (h.rn.ns r x.1 x.2 e2).2.2; omega
    · cases e2 : mp r with
      | none => rfl
      | some x => have := (h.mn r x e2).2.2.1; omega
/-- A row of steps in a box. -/
structure OuS (w W2 : World) (S : Nat → Prop) (ob : Nat) (v : Value) (L : List Pa) (W U : World) : Prop where
  dg : DgS w W2 S (B1 ob v 31) M0 U
  ow : OwnPa W2.heap.size U v L
  kf : KeepsFrom W2.heap.size W U
  kn : KpS S W2.heap.size W U
section
variable {w W2 W U U' : World} {S : Nat → Prop} {ob : Nat} {v v' : Value} {L L' : List Pa}
theorem OuS.below (h : OuS w W2 S ob (v) (L) W U) (hb : Below U.heap.size U U') : OuS w W2 S ob (v) (L) W U' := ⟨h.dg.below hb, OwnE.below h.ow hb, h.kf.trans (keepsFrom_below hb), h.kn.trans (h.dg.kp0 hb)⟩
/-- The row is longer, and in the box. -/
theorem OuS.push (h : OuS w W2 S ob (v) (L) W U) (hg : U.grownBy U' v.ownBlock) (ho : OwnPa W2.heap.size U' v' L') : OuS w W2 S ob (v') (L') W (U'.setCell ⟨ob, 0, none⟩ v') := by
  have hns := h.dg.rn.ns ob v 31 (B1.at _ _ _)
  have h8 := h.dg.own h.ow hg
  have h9 := h8.set (B1.at _ _ _) v'
  rw [B1.set] at h9
  refine ⟨h9, OwnE.keep ho fun k e => RowKit.Below.heap_setCell _ _ _ _ (by have := (OwnE.lt ho k e).1; show k ≠ ob; omega), (h.kf.trans (keepsFrom_ownE h.ow hg)).trans (keepsFrom_set _ _ _), (h.kn.trans (KpS.ownE h.ow ⟨by decide, by decide⟩ h.dg.rn.sl (fun k q => Nat.lt_of_lt_of_le (h.dg.rn.sl k q) h.dg.rn.kp.1) hg)).trans (h8.kpB (B1.at _ _ _) v')⟩
end
/-- A step of a kind, of a node. -/
def pK (kd : Int) (s : St) : Pa := ⟨kd, s, (0, 0), (0, 0), ⟨#[]⟩, ⟨#[]⟩⟩
def eaL (D : List Sd) (kd : Int) (xs : List Sd) : List Pa := (xs.filter fun x => (getP skU D x.t.k).isSome).map fun x => pK kd x.t.k
theorem eaL_snoc (D : List Sd) (kd : Int) (xs : List Sd) (x : Sd) : eaL D kd (xs ++ [x]) = eaL D kd xs ++ if (getP skU D x.t.k).isSome then [pK kd x.t.k] else [] := by
  unfold eaL
  rw [List.filter_append, List.map_append]
  cases h : (getP skU D x.t.k).isSome <;> simp [h]
theorem eaL_len (D : List Sd) (kd : Int) (xs : List Sd) : (eaL D kd xs).length ≤ xs.length := by unfold eaL; rw [List.length_map]; exact List.length_filter_le _ _
theorem OuS.apart {w W2 W U U' : World} {S : Nat → Prop} {ob tb : Nat} {v : Value} {L : List Pa} (h : OuS w W2 S ob (v) (L) W U) (hg : U.grownBy U' (some tb)) (h1 : ob < tb) (h2 : W.heap.size ≤ tb) (h3 : v.ownBlock ≠ some tb) (h4 : ∃ c, U.heap[tb]? = some (.cells c 64)) (hW2 : W2.heap.size ≤ tb) : OuS w W2 S ob (v) (L) W U' := by
  obtain ⟨c, hc⟩ := h4
  have hS : ∀ k, S k → k < U.heap.size ∧ k ≠ tb := fun k q => ⟨Nat.lt_of_lt_of_le (h.dg.rn.sl k q) h.dg.rn.kp.1, by have := h.dg.rn.sl k q; omega⟩
  refine ⟨h.dg.grownR hg (fun r e => by cases e; exact ⟨Nat.le_trans h.dg.rn.le hW2, fun q => (hS _ q).2 rfl, (by unfold B1; rw [if_neg (by omega)]), rfl⟩), OwnE.keep h.ow fun k e => hg.block k (OwnE.lt h.ow k e).2 (fun e2 => h3 (by rw [e]; exact e2)), h.kf.trans ⟨hg.size, fun k o _ hk ho => (hg.block k (row_lt hk) (fun e => ?_)).trans hk⟩, ⟨Nat.le_trans h.kn.1 hg.size, fun k hk => (hg.block k ?_ (fun e => ?_)).trans (h.kn.2 k hk)⟩⟩
  · injection e with e
    subst e
    rw [hc] at hk
    injection hk with hk
    subst hk
    cases ho
  · rcases hk with hk | ⟨_, c, f, ty, hq, _⟩
    · exact (hS k hk).1
    · exact Nat.lt_of_lt_of_le (row_lt hq) h.kn.1
  · injection e with e
    rcases hk with hk | ⟨_, c, f, ty, hq, _⟩
    · exact (hS k hk).2 (by omega)
    · have := row_lt hq; omega
theorem look_sd {w : World} {mb : Nat} {D : List Sd} (h : MpS w mb D) (s : St) : ∃ (lv : Sd) (lb : Bool), (∀ W9, W9.heap[mb]? = w.heap[mb]? → (Instr.lookup 56 (.map (some mb)) (.agg #[.int .i64 s.1, .int .i64 s.2]) true).run Try.prog W9 = .ok (.tuple #[.agg (if lb then #[.pointer (some ⟨lv.b, lv.o, none⟩), .int .i64 lv.a.1, .int .i64 lv.a.2, .int .i64 (lv.i : Int)] else #[.pointer none, .int .i64 0, .int .i64 0, .int .i64 0]), .bool lb]) W9) ∧ lb = (getP skU D s).isSome := by
  cases hg : getP skU D s with
  | none => exact ⟨⟨(0, 0), 0, 0, 0, .node (0, 0) ⟨#[]⟩ ⟨#[]⟩ [] []⟩, false, fun W9 e => (look_st 56 64 (.agg #[.pointer none, .int .i64 0, .int .i64 0, .int .i64 0]) uSpk zSpk (h.keep e) s).trans (by rw [hg]; rfl), rfl⟩
  | some y => exact ⟨y, true, fun W9 e => (look_st 56 64 (.agg #[.pointer none, .int .i64 0, .int .i64 0, .int .i64 0]) uSpk zSpk (h.keep e) s).trans (by rw [hg]; rfl), rfl⟩
set_option maxRecDepth 100000 in
set_option maxHeartbeats 8000000 in
theorem each_in (n0 : Nat) (hn : 5 ≤ n0) (G : Nat → Prop) (D : List Sd) (mb : Nat) (kd : Int) (t : VT) (Bt : Nat) (w : World) (hm : MpS w mb D) (hv : VAt G w t Bt 0) (hsz : t.sz ≤ 1048576) :
    CallsIn Fence.wide n0 Try.prog 51 #[.map (some mb), .int .i64 kd, .pointer (some ⟨Bt, 0, none⟩)] w fun e w' => ∃ v, e = .returned v ∧ OwnPa w.heap.size w' v (eaL D kd (flatS w t (0, 0) 0 Bt 0)) ∧ Below w.heap.size w w' := by
  obtain ⟨i0, hin, hz0, hz1, hz2⟩ := info_parts infoPaD
  have hro : Fence.wide.round = none := rfl
  have h1n : 1 ≤ n0 := by omega
  refine callsIn_of_wp_marks Try.func51 rfl trivial ?_ hro
  simp only [Try.ntmps51, List.size_toArray, List.length_cons, List.length_nil, Nat.reduceAdd, Nat.reduceSub, Array.replicate_succ, Array.replicate_zero, List.push_toArray, List.append_toArray, List.nil_append, List.cons_append]
  gi_wp2_with fail
  refine ⟨trivial, ?_⟩
  refine (callsIn_wide.2 (spots_any Bt _)).mono ?_
  rintro e W2 ⟨rfl, hw2⟩
  have hO0 : W2.heap[w.heap.size]? = some (.cells #[.map (some mb)] 56) := (by rw [hw2]; rw [Below.heap_alloc _ _ _ (by simp <;> omega)]; rw [Below.heap_alloc _ _ _ (by simp <;> omega)]; rw [Below.heap_alloc _ _ _ (by simp <;> omega)]; have h := heap_alloc_new w (.cells #[.map (some mb)] 56); exact h)
  have hO1 : W2.heap[w.heap.size + 1]? = some (.cells #[.int .i64 kd] 3) := (by rw [hw2]; rw [Below.heap_alloc _ _ _ (by simp <;> omega)]; rw [Below.heap_alloc _ _ _ (by simp <;> omega)]; have h := heap_alloc_new (w.alloc (.cells #[.map (some mb)] 56)) (.cells #[.int .i64 kd] 3); rw [show (w.alloc (.cells #[.map (some mb)] 56)).heap.size = w.heap.size + 1 by simp] at h; exact h)
  have hO2 : W2.heap[w.heap.size + 2]? = some (.cells #[.slice none 0 0] 31) := (by rw [hw2]; rw [Below.heap_alloc _ _ _ (by simp <;> omega)]; have h := heap_alloc_new ((w.alloc (.cells #[.map (some mb)] 56)).alloc (.cells #[.int .i64 kd] 3)) (.cells #[.slice none 0 0] 31); rw [show ((w.alloc (.cells #[.map (some mb)] 56)).alloc (.cells #[.int .i64 kd] 3)).heap.size = w.heap.size + 2 by simp] at h; exact h)
  have hO3 : W2.heap[w.heap.size + 3]? = some (.cells #[.pointer (some ⟨Bt, 0, none⟩)] 58) := (by rw [hw2]; have h := heap_alloc_new (((w.alloc (.cells #[.map (some mb)] 56)).alloc (.cells #[.int .i64 kd] 3)).alloc (.cells #[.slice none 0 0] 31)) (.cells #[.pointer (some ⟨Bt, 0, none⟩)] 58); rw [show (((w.alloc (.cells #[.map (some mb)] 56)).alloc (.cells #[.int .i64 kd] 3)).alloc (.cells #[.slice none 0 0] 31)).heap.size = w.heap.size + 3 by simp] at h; exact h)
  have hb2 : Below w.heap.size w W2 := (by rw [hw2]; exact ((((Below.refl _ _).alloc (Nat.le_refl _) _).alloc (by simp <;> omega) _).alloc (by simp <;> omega) _).alloc (by simp <;> omega) _)
  have hs2 : W2.heap.size = w.heap.size + 4 := (by rw [hw2]; simp)
  have eB : (((w.alloc (.cells #[.map (some mb)] 56)).alloc (.cells #[.int .i64 kd] 3)).alloc (.cells #[.slice none 0 0] 31)).heap.size = w.heap.size + 3 := by simp
  rw [eB]
  clear eB hw2
  obtain ⟨vb, evb⟩ : ∃ b, b = w.heap.size := ⟨_, rfl⟩
  obtain ⟨kb, ekb⟩ : ∃ b, b = w.heap.size + 1 := ⟨_, rfl⟩
  obtain ⟨ob, eob⟩ : ∃ b, b = w.heap.size + 2 := ⟨_, rfl⟩
  obtain ⟨pb, epb⟩ : ∃ b, b = w.heap.size + 3 := ⟨_, rfl⟩
  rw [← ekb] at hO1
  rw [← eob] at hO2
  rw [← epb] at hO3
  rw [← evb] at hO0
  rw [← epb]
  (try rw [← eob])
  (try rw [← ekb])
  (try rw [← evb])
  obtain ⟨S, eS⟩ : ∃ S : Nat → Prop, S = fun k => k < W2.heap.size ∧ k ≠ ob := ⟨_, rfl⟩
  have hSl : ∀ k, S k → k < W2.heap.size := fun k q => by (rw [eS] at q; exact q.1)
  have hS0 : ∀ k, k < w.heap.size → S k := fun k q => by (rw [eS]; exact ⟨by omega, by omega⟩)
  have hSv : S vb := by (rw [eS]; exact ⟨by omega, by omega⟩)
  have hSk : S kb := by (rw [eS]; exact ⟨by omega, by omega⟩)
  have hlB := cell_lt hv.cells9
  have hva : VAt S W2 t Bt 0 := (hv.turn hb2.size (fun k q l => ⟨hS0 k l, hb2.block k l⟩) (hb2.block _ hlB))
  have HSq := spots_seq (n0 - 1) S W2.heap.size pb Bt t W2 hSl (Nat.le_refl _) (by rw [cell_of_row _ _ _ _ _ _ hO3]; rfl) hva (hS0 _ hlB)
  obtain ⟨xs, exs⟩ : ∃ xs, xs = flatS w t (0, 0) 0 Bt 0 := ⟨_, rfl⟩
  rw [flatS_same hv hb2 (0, 0) 0, ← exs] at HSq
  have HA0 : DgS w W2 S (B1 ob (.slice none 0 0) 31) M0 W2 := ⟨RnS.mk1 hO2 hb2 hSl (fun q => by (rw [eS] at q; exact q.2 rfl)) (by omega), fun b D e => (by cases e), fun b D e => (by cases e)⟩
  have HVs : Hid (S vb ∧ W2.cell? ⟨vb, 0, none⟩ = some (.map (some mb))) := ⟨hSv, by rw [cell_of_row _ _ _ _ _ _ hO0]; rfl⟩
  have HKs : Hid (S kb ∧ W2.cell? ⟨kb, 0, none⟩ = some (.int .i64 kd)) := ⟨hSk, by rw [cell_of_row _ _ _ _ _ _ hO1]; rfl⟩
  have HMp : Hid (S mb ∧ MpS W2 mb D) := ⟨hS0 _ hm.lt, hm.keep (hb2.block _ hm.lt)⟩
  have HAt : Hid (∀ x ∈ xs, VAt S W2 x.t x.b x.o ∧ S x.b) := (by rw [exs, ← flatS_same hv hb2 (0, 0) 0]; exact flatS_at hva (hS0 _ hlB))
  have hxl : xs.length = t.sz := (by rw [exs]; exact flatS_len _ _ _ _ _ _)
  have HXl := hide9 hxl
  have HXs := hide9 exs
  have HNo : Hid (w.heap.size ≤ W2.heap.size) := hb2.size
  clear exs eS hS0 hSv hSk hva hlB hO0 hO1 hO2 hO3 hb2 hs2 evb ekb eob epb hxl hm
  gi_wp2
  refine range_K h1n (gf := 52) (lb := #[.pointer (some ⟨pb, 0, none⟩)]) rfl (enters_of Try.func52 (by kernel_rfl) rfl) HSq KpS.trans (fun W l o o' hl ho hc _ => KpS.obj (fun q => by have := hSl l q; omega) ho hc) (Below.refl _ _) (fun _ => rfl)
    (fun k W => ∃ v, DgS w W2 S (B1 ob v 31) M0 W ∧ OwnPa W2.heap.size W v (eaL D kd (xs.take k))) (fun _ _ _ => False)
    (fun k A B row ⟨v, h1, h2⟩ hg hr => ⟨v, h1.grown hg hr, OwnE.keep h2 fun j e => (by obtain ⟨c, hc⟩ := own_cellsE h2 e; exact (row_own hc hg (fun r q => (hr r q).2)).trans hc.symm)⟩) (fun c k A B row hf hg hr => hf.elim) ⟨_, HA0, OwnE.nil0 _ _⟩
    (fun x a' W => ∃ sb, SbX W2 sb x W ∧ a' = { tmps := #[.map (some mb), .int .i64 kd, .pointer (some ⟨Bt, 0, none⟩), .pointer (some ⟨vb, 0, none⟩), .pointer (some ⟨kb, 0, none⟩), undef, .slice none 0 0, .pointer (some ⟨ob, 0, none⟩), .pointer (some ⟨sb, 0, none⟩), undef, undef, .pointer (some ⟨Bt, 0, none⟩), .func (.func 52) #[] #[.pointer (some ⟨pb, 0, none⟩)], .agg #[.pointer (some ⟨x.b, x.o, none⟩), .int .i64 x.a.1, .int .i64 x.a.2, .int .i64 (x.i : Int)], undef, undef, undef, undef, undef, undef, undef, undef, undef, undef, undef, undef, undef, undef, undef, undef, undef, undef, undef, undef, undef, undef], defers := [] }) (fun x a' u A B row ⟨sb, h1, h5⟩ hg hr => ⟨sb, h1.grown hg (fun r e => (hr r e).2), h5⟩) ?assign ?body ?done ?stop
  clear HA0
  case assign =>
    rintro l k hk W K ⟨v, hA, hO⟩ hK
    obtain ⟨x, ex⟩ : ∃ x, x = xs[k] := ⟨_, rfl⟩
    rw [← ex] at hK ⊢
    clear ex
    have Hz : Hid ((W.alloc (.cells #[.pointer none, .int .i64 0, .int .i64 0, .int .i64 0] 64)).heap[W.heap.size]? = some (.cells #[.pointer none, .int .i64 0, .int .i64 0, .int .i64 0] 64)) := heap_alloc_new _ _
    obtain ⟨Wn, eW⟩ : ∃ X, X = (W.alloc (.cells #[.pointer none, .int .i64 0, .int .i64 0, .int .i64 0] 64)).setRow W.heap.size #[.pointer (some ⟨x.b, x.o, none⟩), .int .i64 x.a.1, .int .i64 x.a.2, .int .i64 (x.i : Int)] := ⟨_, rfl⟩
    have hb : Below W.heap.size W Wn := (by rw [eW]; exact ((Below.refl _ _).alloc (Nat.le_refl _) _).grown (grown_setRow _ _ _) (by simp) (fun k e => by cases e; exact Nat.le_refl _))
    obtain ⟨sb, esb⟩ : ∃ n, n = W.heap.size := ⟨_, rfl⟩
    have hsx : SbX W2 sb x Wn := ⟨by rw [eW, esb]; exact setRow_same Hz.out, by rw [esb]; exact hA.rn.kp.1⟩
    have HFin : Hid (∀ a' : Act, _ → K a' Wn) := fun a' ha => hK a' Wn (keepsFrom_below hb) (hA.kp0 hb) (⟨v, hA.below hb, OwnE.below hO hb⟩) ⟨sb, hsx, ha⟩
    have HEw := hide9 (And.intro eW esb)
    clear hK hb hsx eW esb hA hO
    simp only [encS] at *
    gi_wp2_with (refine wpListIn_store_rowS rfl 64 (.tmp 8) (.tmp 13) rfl W.heap.size 64 #[.pointer none, .int .i64 0, .int .i64 0, .int .i64 0] #[.pointer (some ⟨x.b, x.o, none⟩), .int .i64 x.a.1, .int .i64 x.a.2, .int .i64 (x.i : Int)] rfl rfl Hz.out sizeSp rfl (by simp [Value.oneCell']) ?_)
    rw [← HEw.out.1, ← HEw.out.2]
    exact HFin.out _ rfl
  case body =>
    rintro l k hk a' W hlD ⟨v, hdg, how⟩ ⟨sb, hsx, rfl⟩
    obtain ⟨hxv, hxS⟩ := HAt.out xs[k] (List.getElem_mem hk)
    have hD : eaL D kd (xs.take (k + 1)) = eaL D kd (xs.take k) ++ (if (getP skU D xs[k].t.k).isSome then [pK kd xs[k].t.k] else []) := (by rw [List.take_succ_eq_append_getElem hk, eaL_snoc])
    have hLl : (eaL D kd (xs.take k)).length ≤ 1048576 := (by have := eaL_len D kd (xs.take k); rw [List.length_take] at this; have := HXl.out; omega)
    obtain ⟨R, eR⟩ : ∃ R, R = eaL D kd (xs.take k) := ⟨_, rfl⟩
    rw [← eR] at how hD hLl
    obtain ⟨x, ex⟩ : ∃ x, x = xs[k] := ⟨_, rfl⟩
    rw [← ex] at hxv hxS hD hsx
    obtain ⟨av, cv, ev⟩ := OwnE.form how
    subst ev
    have HC : Hid (OuS w W2 S ob (.slice av R.length cv) (R) W W) := ⟨hdg, how, KeepsFrom.refl _ _, KpS.refl _ _ _⟩
    have HC0 : Hid (DgS w W2 S (B1 ob (.slice av R.length cv) 31) M0 W) := hdg
    have HSb : Hid (SbX W2 sb x W) := hsx
    have HSb0 : Hid (SbX W2 sb x W) := hsx
    have HXv : Hid (VAt S W2 x.t x.b x.o ∧ S x.b) := ⟨hxv, hxS⟩
    obtain ⟨_, _, _, _, kc0, kc1, _⟩ := hxv.cells
    have HX2 : Hid (W2.cell? ⟨x.b, x.o, none⟩ = some (.int .i64 x.t.k.1) ∧ W2.cell? ⟨x.b, x.o + 1, none⟩ = some (.int .i64 x.t.k.2)) := ⟨kc0, kc1⟩
    have HD := hide9 hD
    clear hxv hxS hD eR ex kc0 kc1 hdg how hsx
    gi_wp2
    obtain ⟨lv, lb, hlk, hbb⟩ : ∃ (lv : Sd) (lb : Bool), (∀ W9, W9.heap[mb]? = W2.heap[mb]? → (Instr.lookup 56 (.map (some mb)) (.agg #[.int .i64 x.t.k.1, .int .i64 x.t.k.2]) true).run Try.prog W9 = .ok (.tuple #[.agg (if lb then #[.pointer (some ⟨lv.b, lv.o, none⟩), .int .i64 lv.a.1, .int .i64 lv.a.2, .int .i64 (lv.i : Int)] else #[.pointer none, .int .i64 0, .int .i64 0, .int .i64 0]), .bool lb]) W9) ∧ lb = (getP skU D x.t.k).isSome := (look_sd HMp.out.2 x.t.k)
    have HBb := hide9 hbb
    clear hbb
    cases lb with
    | false =>
      have hlb9 := True.intro
      simp only [Bool.false_eq_true, if_false] at hlk
      clear hlb9
      refine region_round_held (S := fun W' => KeepsS (fun k => S k ∨ k = sb) W W') l (by kernel_rfl) (by kernel_rfl) (lets_then (lets_block lets_roundK)) (KeepsS.of_below (Below.refl W.heap.size W).drew (fun k q => by rcases q with q | rfl; exact Nat.lt_of_lt_of_le (HC0.out.rn.sl k q) HC0.out.rn.kp.1; exact row_lt HSb0.out.1)) (fun hHeld => ?_)
      obtain ⟨Ud01u0, eW⟩ : ∃ X, X = W.drew := ⟨_, rfl⟩
      have hb : Below W.heap.size W Ud01u0 := by rw [eW]; exact (Below.refl _ _).drew
      replace HC : Hid (OuS w W2 S ob (.slice av R.length cv) (R) W Ud01u0) := HC.out.below hb
      replace HSb : Hid (SbX W2 sb x Ud01u0) := HSb.out.below hb
      rw [← eW] at hHeld ⊢
      clear eW hb
      refine tkW 0 (some 15) (v := ?_) ?_ hHeld ?_
      rotate_left
      · (intro ww hSw; (try dsimp only at hSw); have q0 : ww.cell? ⟨vb, 0, none⟩ = some (.map (some mb)) := (hSw.cell (p := ⟨vb, 0, none⟩) (.inl HVs.out.1)).trans ((HC0.out.rn.kp.cell (p := ⟨vb, 0, none⟩) HVs.out.1).trans HVs.out.2); go_simp; try with_reducible rfl)
      refine tkW 1 (some 16) (v := ?_) ?_ hHeld ?_
      rotate_left
      · (intro ww _; go_simp; try with_reducible rfl)
      refine tkW 2 (some 17) (v := ?_) ?_ hHeld ?_
      rotate_left
      · (intro ww hSw; (try dsimp only at hSw); obtain ⟨z0, z1, z2, z3⟩ := row4 ((hSw.2 sb (.inr rfl)).trans HSb0.out.1); go_simp; try with_reducible rfl)
      refine tkW 3 (some 18) (v := ?_) ?_ hHeld ?_
      rotate_left
      · (intro ww hSw; (try dsimp only at hSw); go_simp; try with_reducible rfl)
      refine tkW 4 (some 19) (v := ?_) ?_ hHeld ?_
      rotate_left
      · (intro ww _; go_simp; try with_reducible rfl)
      refine tkW 5 (some 20) (v := ?_) ?_ hHeld ?_
      rotate_left
      · (intro ww hSw; (try dsimp only at hSw); have q6 : ww.cell? ⟨x.b, x.o, none⟩ = some (.int .i64 x.t.k.1) := (hSw.cell (p := ⟨x.b, x.o, none⟩) (.inl HXv.out.2)).trans ((HC0.out.rn.kp.cell (p := ⟨x.b, x.o, none⟩) HXv.out.2).trans HX2.out.1); have q7 : ww.cell? ⟨x.b, x.o + 1, none⟩ = some (.int .i64 x.t.k.2) := (hSw.cell (p := ⟨x.b, x.o + 1, none⟩) (.inl HXv.out.2)).trans ((HC0.out.rn.kp.cell (p := ⟨x.b, x.o + 1, none⟩) HXv.out.2).trans HX2.out.2); go_simp; try with_reducible rfl)
      refine tkW 6 (some 21) (v := ?_) ?_ hHeld ?_
      rotate_left
      · (intro ww hSw; (try dsimp only at hSw); have hl9 := hlk ww ((hSw.2 mb (.inl HMp.out.1)).trans (HC0.out.rn.kp.2 mb HMp.out.1)); go_simp; try with_reducible rfl)
      refine tkW 7 (some 14) (v := ?_) ?_ hHeld ?_
      rotate_left
      · (intro ww hSw; (try dsimp only at hSw); go_simp; try with_reducible rfl)
      refine tkW 8 (some 22) (v := ?_) ?_ hHeld ?_
      rotate_left
      · (intro ww hSw; (try dsimp only at hSw); go_simp; try with_reducible rfl)
      refine tkW 9 (some 23) (v := ?_) ?_ hHeld ?_
      rotate_left
      · (intro ww hSw; (try dsimp only at hSw); go_simp; try with_reducible rfl)
      refine wpAnyH_ready (rs := [10]) (by kernel_rfl) (by simp) ?_
      refine AllReadyH.cons (o := ⟨some 9, _, _, _, _, _⟩) rfl (fun K hK => ?_) AllReadyH.nil
      have hHsz : Hid (W.heap.size ≤ Ud01u0.heap.size) := hHeld.1
      have hbx : Below Ud01u0.heap.size Ud01u0 (Ud01u0.alloc (.cells #[.pointer none, .int .i64 0, .int .i64 0, .int .i64 0] 64)) := (Below.refl _ _).alloc (Nat.le_refl _) _
      have hkb9 := HC.out.dg.kp0 hbx
      go_simp
      refine hK.out _ _ (hHeld.trans ⟨hbx.size, fun k q => by rcases q with q | rfl; exact hkb9.2 k (.inl q); exact (hbx.block _ (row_lt HSb.out.1))⟩) (fun hHeld2 => ?_)
      clear hK K hHeld
      have hHeld := hHeld2
      clear hHeld2
      (try simp only [Act.put, List.setIfInBounds_toArray, List.set_cons_zero, List.set_cons_succ])
      obtain ⟨Ud01u1, eW⟩ : ∃ X, X = Ud01u0.alloc (.cells #[.pointer none, .int .i64 0, .int .i64 0, .int .i64 0] 64) := ⟨_, rfl⟩
      have hb : Below Ud01u0.heap.size Ud01u0 Ud01u1 := by rw [eW]; exact (Below.refl _ _).alloc (Nat.le_refl _) _
      replace HC : Hid (OuS w W2 S ob (.slice av R.length cv) (R) W Ud01u1) := HC.out.below hb
      replace HSb : Hid (SbX W2 sb x Ud01u1) := HSb.out.below hb
      clear hbx hkb9
      have HT : Hid (Ud01u1.heap[Ud01u0.heap.size]? = some (.cells #[.pointer none, .int .i64 0, .int .i64 0, .int .i64 0] 64)) := by rw [eW]; exact heap_alloc_new _ _
      rw [← eW] at hHeld ⊢
      clear eW
      obtain ⟨tb, etb⟩ : ∃ b, b = Ud01u0.heap.size := ⟨_, rfl⟩
      have Htb : Hid (W2.heap.size ≤ tb ∧ sb < tb ∧ W.heap.size ≤ tb) := ⟨by rw [etb]; exact Nat.le_trans HC0.out.rn.kp.1 hHsz.out, by rw [etb]; exact Nat.lt_of_lt_of_le (row_lt HSb0.out.1) hHsz.out, by rw [etb]; exact hHsz.out⟩
      rw [← etb] at HT ⊢
      clear etb hHsz
      clear hb
      refine wpAnyH_ready (rs := [11]) (by kernel_rfl) (by simp) ?_
      refine AllReadyH.cons (o := ⟨none, _, _, _, _, _⟩) rfl (fun K hK => ?_) AllReadyH.nil
      refine step_store_row rfl 64 (.tmp 9) (.tmp 22) rfl tb 64 #[.pointer none, .int .i64 0, .int .i64 0, .int .i64 0] #[.pointer none, .int .i64 0, .int .i64 0, .int .i64 0] rfl rfl HT.out sizeSp rfl (by simp [Value.oneCell']) ?_
      obtain ⟨Ud01u2, eW⟩ : ∃ X, X = Ud01u1.setRow tb #[.pointer none, .int .i64 0, .int .i64 0, .int .i64 0] := ⟨_, rfl⟩
      rw [← eW]
      have hgw : Ud01u1.grownBy Ud01u2 (some tb) := (by rw [eW]; exact grown_setRow _ _ _)
      have hbw : ∀ k, k < Ud01u1.heap.size → k ≠ tb → Ud01u2.heap[k]? = Ud01u1.heap[k]? := fun k l q => hgw.block k l (fun e => by injection e with e; exact q (by omega))
      have HC9 : Hid (OuS w W2 S ob (.slice av R.length cv) (R) W Ud01u2) := HC.out.apart hgw (by have := Htb.out.1; have := HC0.out.rn.ns ob _ _ (B1.at _ _ _); omega) Htb.out.2.2 (fun e => by obtain ⟨c9, h9⟩ := own_cellsE HC.out.ow e; rw [HT.out] at h9; injection h9 with h9; injection h9 with _ h9 _; exact absurd h9 (by decide)) ⟨_, HT.out⟩ Htb.out.1
      have hkp : KeepsS (fun k => S k ∨ k = sb) W Ud01u2 := hHeld.trans ⟨hgw.size, fun k q => by rcases q with q | rfl; exact hbw k (Nat.lt_of_lt_of_le (HC.out.dg.rn.sl k q) HC.out.dg.rn.kp.1) (by have := HC.out.dg.rn.sl k q; have := Htb.out.1; omega); exact hbw _ (row_lt HSb.out.1) (by have := Htb.out.2.1; omega)⟩
      clear hbw
      refine hK.out _ _ (hkp) (fun hHeld2 => ?_)
      clear hK K hHeld
      have hHeld := hHeld2
      clear hHeld2
      (try simp only [Act.put, List.setIfInBounds_toArray, List.set_cons_zero, List.set_cons_succ])
      clear hkp hgw eW HC HSb HT
      refine tkW 12 (some 10) (v := ?_) ?_ hHeld ?_
      rotate_left
      · (intro ww hSw; (try dsimp only at hSw); go_simp; try with_reducible rfl)
      refine wpAnyH_done (by kernel_rfl) ?_ _
      have hsb9 : Hid (SbX W2 sb x Ud01u2) := ⟨(hHeld.2 sb (.inr rfl)).trans HSb0.out.1, HSb0.out.2⟩
      clear hHeld Htb hlk
      gi_wp2
      exact ⟨HC9.out.kf, HC9.out.kn, _, HC9.out.dg, (by show OwnPa _ _ _ (eaL D kd (xs.take (k + 1))); rw [HD.out, ← HBb.out, if_neg (by simp), List.append_nil]; exact HC9.out.ow)⟩
    | true =>
      have hlb9 := True.intro
      simp only [if_true] at hlk
      clear hlb9
      refine region_round_held (S := fun W' => KeepsS (fun k => S k ∨ k = sb) W W') l (by kernel_rfl) (by kernel_rfl) (lets_then (lets_block lets_roundK)) (KeepsS.of_below (Below.refl W.heap.size W).drew (fun k q => by rcases q with q | rfl; exact Nat.lt_of_lt_of_le (HC0.out.rn.sl k q) HC0.out.rn.kp.1; exact row_lt HSb0.out.1)) (fun hHeld => ?_)
      obtain ⟨Ud12u0, eW⟩ : ∃ X, X = W.drew := ⟨_, rfl⟩
      have hb : Below W.heap.size W Ud12u0 := by rw [eW]; exact (Below.refl _ _).drew
      replace HC : Hid (OuS w W2 S ob (.slice av R.length cv) (R) W Ud12u0) := HC.out.below hb
      replace HSb : Hid (SbX W2 sb x Ud12u0) := HSb.out.below hb
      rw [← eW] at hHeld ⊢
      clear eW hb
      refine tkW 0 (some 15) (v := ?_) ?_ hHeld ?_
      rotate_left
      · (intro ww hSw; (try dsimp only at hSw); have q0 : ww.cell? ⟨vb, 0, none⟩ = some (.map (some mb)) := (hSw.cell (p := ⟨vb, 0, none⟩) (.inl HVs.out.1)).trans ((HC0.out.rn.kp.cell (p := ⟨vb, 0, none⟩) HVs.out.1).trans HVs.out.2); go_simp; try with_reducible rfl)
      refine tkW 1 (some 16) (v := ?_) ?_ hHeld ?_
      rotate_left
      · (intro ww _; go_simp; try with_reducible rfl)
      refine tkW 2 (some 17) (v := ?_) ?_ hHeld ?_
      rotate_left
      · (intro ww hSw; (try dsimp only at hSw); obtain ⟨z0, z1, z2, z3⟩ := row4 ((hSw.2 sb (.inr rfl)).trans HSb0.out.1); go_simp; try with_reducible rfl)
      refine tkW 3 (some 18) (v := ?_) ?_ hHeld ?_
      rotate_left
      · (intro ww hSw; (try dsimp only at hSw); go_simp; try with_reducible rfl)
      refine tkW 4 (some 19) (v := ?_) ?_ hHeld ?_
      rotate_left
      · (intro ww _; go_simp; try with_reducible rfl)
      refine tkW 5 (some 20) (v := ?_) ?_ hHeld ?_
      rotate_left
      · (intro ww hSw; (try dsimp only at hSw); have q6 : ww.cell? ⟨x.b, x.o, none⟩ = some (.int .i64 x.t.k.1) := (hSw.cell (p := ⟨x.b, x.o, none⟩) (.inl HXv.out.2)).trans ((HC0.out.rn.kp.cell (p := ⟨x.b, x.o, none⟩) HXv.out.2).trans HX2.out.1); have q7 : ww.cell? ⟨x.b, x.o + 1, none⟩ = some (.int .i64 x.t.k.2) := (hSw.cell (p := ⟨x.b, x.o + 1, none⟩) (.inl HXv.out.2)).trans ((HC0.out.rn.kp.cell (p := ⟨x.b, x.o + 1, none⟩) HXv.out.2).trans HX2.out.2); go_simp; try with_reducible rfl)
      refine tkW 6 (some 21) (v := ?_) ?_ hHeld ?_
      rotate_left
      · (intro ww hSw; (try dsimp only at hSw); have hl9 := hlk ww ((hSw.2 mb (.inl HMp.out.1)).trans (HC0.out.rn.kp.2 mb HMp.out.1)); go_simp; try with_reducible rfl)
      refine tkW 7 (some 14) (v := ?_) ?_ hHeld ?_
      rotate_left
      · (intro ww hSw; (try dsimp only at hSw); go_simp; try with_reducible rfl)
      refine tkW 8 (some 22) (v := ?_) ?_ hHeld ?_
      rotate_left
      · (intro ww hSw; (try dsimp only at hSw); go_simp; try with_reducible rfl)
      refine tkW 9 (some 23) (v := ?_) ?_ hHeld ?_
      rotate_left
      · (intro ww hSw; (try dsimp only at hSw); go_simp; try with_reducible rfl)
      refine wpAnyH_ready (rs := [10]) (by kernel_rfl) (by simp) ?_
      refine AllReadyH.cons (o := ⟨some 9, _, _, _, _, _⟩) rfl (fun K hK => ?_) AllReadyH.nil
      have hHsz : Hid (W.heap.size ≤ Ud12u0.heap.size) := hHeld.1
      have hbx : Below Ud12u0.heap.size Ud12u0 (Ud12u0.alloc (.cells #[.pointer none, .int .i64 0, .int .i64 0, .int .i64 0] 64)) := (Below.refl _ _).alloc (Nat.le_refl _) _
      have hkb9 := HC.out.dg.kp0 hbx
      go_simp
      refine hK.out _ _ (hHeld.trans ⟨hbx.size, fun k q => by rcases q with q | rfl; exact hkb9.2 k (.inl q); exact (hbx.block _ (row_lt HSb.out.1))⟩) (fun hHeld2 => ?_)
      clear hK K hHeld
      have hHeld := hHeld2
      clear hHeld2
      (try simp only [Act.put, List.setIfInBounds_toArray, List.set_cons_zero, List.set_cons_succ])
      obtain ⟨Ud12u1, eW⟩ : ∃ X, X = Ud12u0.alloc (.cells #[.pointer none, .int .i64 0, .int .i64 0, .int .i64 0] 64) := ⟨_, rfl⟩
      have hb : Below Ud12u0.heap.size Ud12u0 Ud12u1 := by rw [eW]; exact (Below.refl _ _).alloc (Nat.le_refl _) _
      replace HC : Hid (OuS w W2 S ob (.slice av R.length cv) (R) W Ud12u1) := HC.out.below hb
      replace HSb : Hid (SbX W2 sb x Ud12u1) := HSb.out.below hb
      clear hbx hkb9
      have HT : Hid (Ud12u1.heap[Ud12u0.heap.size]? = some (.cells #[.pointer none, .int .i64 0, .int .i64 0, .int .i64 0] 64)) := by rw [eW]; exact heap_alloc_new _ _
      rw [← eW] at hHeld ⊢
      clear eW
      obtain ⟨tb, etb⟩ : ∃ b, b = Ud12u0.heap.size := ⟨_, rfl⟩
      have Htb : Hid (W2.heap.size ≤ tb ∧ sb < tb ∧ W.heap.size ≤ tb) := ⟨by rw [etb]; exact Nat.le_trans HC0.out.rn.kp.1 hHsz.out, by rw [etb]; exact Nat.lt_of_lt_of_le (row_lt HSb0.out.1) hHsz.out, by rw [etb]; exact hHsz.out⟩
      rw [← etb] at HT ⊢
      clear etb hHsz
      clear hb
      refine wpAnyH_ready (rs := [11]) (by kernel_rfl) (by simp) ?_
      refine AllReadyH.cons (o := ⟨none, _, _, _, _, _⟩) rfl (fun K hK => ?_) AllReadyH.nil
      refine step_store_row rfl 64 (.tmp 9) (.tmp 22) rfl tb 64 #[.pointer none, .int .i64 0, .int .i64 0, .int .i64 0] #[.pointer (some ⟨lv.b, lv.o, none⟩), .int .i64 lv.a.1, .int .i64 lv.a.2, .int .i64 (lv.i : Int)] rfl rfl HT.out sizeSp rfl (by simp [Value.oneCell']) ?_
      obtain ⟨Ud12u2, eW⟩ : ∃ X, X = Ud12u1.setRow tb #[.pointer (some ⟨lv.b, lv.o, none⟩), .int .i64 lv.a.1, .int .i64 lv.a.2, .int .i64 (lv.i : Int)] := ⟨_, rfl⟩
      rw [← eW]
      have hgw : Ud12u1.grownBy Ud12u2 (some tb) := (by rw [eW]; exact grown_setRow _ _ _)
      have hbw : ∀ k, k < Ud12u1.heap.size → k ≠ tb → Ud12u2.heap[k]? = Ud12u1.heap[k]? := fun k l q => hgw.block k l (fun e => by injection e with e; exact q (by omega))
      have HC9 : Hid (OuS w W2 S ob (.slice av R.length cv) (R) W Ud12u2) := HC.out.apart hgw (by have := Htb.out.1; have := HC0.out.rn.ns ob _ _ (B1.at _ _ _); omega) Htb.out.2.2 (fun e => by obtain ⟨c9, h9⟩ := own_cellsE HC.out.ow e; rw [HT.out] at h9; injection h9 with h9; injection h9 with _ h9 _; exact absurd h9 (by decide)) ⟨_, HT.out⟩ Htb.out.1
      have hkp : KeepsS (fun k => S k ∨ k = sb) W Ud12u2 := hHeld.trans ⟨hgw.size, fun k q => by rcases q with q | rfl; exact hbw k (Nat.lt_of_lt_of_le (HC.out.dg.rn.sl k q) HC.out.dg.rn.kp.1) (by have := HC.out.dg.rn.sl k q; have := Htb.out.1; omega); exact hbw _ (row_lt HSb.out.1) (by have := Htb.out.2.1; omega)⟩
      clear hbw
      refine hK.out _ _ (hkp) (fun hHeld2 => ?_)
      clear hK K hHeld
      have hHeld := hHeld2
      clear hHeld2
      (try simp only [Act.put, List.setIfInBounds_toArray, List.set_cons_zero, List.set_cons_succ])
      clear hkp hgw eW HC HSb HT
      refine tkW 12 (some 10) (v := ?_) ?_ hHeld ?_
      rotate_left
      · (intro ww hSw; (try dsimp only at hSw); go_simp; try with_reducible rfl)
      refine wpAnyH_done (by kernel_rfl) ?_ _
      have hsb9 : Hid (SbX W2 sb x Ud12u2) := ⟨(hHeld.2 sb (.inr rfl)).trans HSb0.out.1, HSb0.out.2⟩
      clear hHeld Htb hlk
      gi_wp2
      obtain ⟨WA, eWA⟩ : ∃ X, X = Ud12u2 := ⟨_, rfl⟩
      rw [← eWA] at HC9 hsb9 ⊢
      clear eWA HC0 HSb0
      have HSb0 := hsb9
      have HC0 : Hid (DgS w W2 S (B1 ob (.slice av R.length cv) 31) M0 WA) := HC9.out.dg
      have HSb := hsb9
      clear hsb9
      have HC : Hid (OuS w W2 S ob (.slice av R.length cv) (R) W WA) := HC9.out
      clear HC9
      refine region_round_held (S := fun W' => KeepsS (fun k => S k ∨ k = sb) WA W') l (by kernel_rfl) (by kernel_rfl) (lets_block lets_roundK) (KeepsS.of_below (Below.refl WA.heap.size WA).drew (fun k q => by rcases q with q | rfl; exact Nat.lt_of_lt_of_le (HC0.out.rn.sl k q) HC0.out.rn.kp.1; exact row_lt HSb0.out.1)) (fun hHeld => ?_)
      obtain ⟨Ue3u0, eW⟩ : ∃ X, X = WA.drew := ⟨_, rfl⟩
      have hb : Below WA.heap.size WA Ue3u0 := by rw [eW]; exact (Below.refl _ _).drew
      replace HC : Hid (OuS w W2 S ob (.slice av R.length cv) (R) W Ue3u0) := HC.out.below hb
      replace HSb : Hid (SbX W2 sb x Ue3u0) := HSb.out.below hb
      rw [← eW] at hHeld ⊢
      clear eW hb
      refine tkW 1 (some 26) (v := ?_) ?_ hHeld ?_
      rotate_left
      · (intro ww hSw; (try dsimp only at hSw); have q0 : ww.cell? ⟨kb, 0, none⟩ = some (.int .i64 kd) := (hSw.cell (p := ⟨kb, 0, none⟩) (.inl HKs.out.1)).trans ((HC0.out.rn.kp.cell (p := ⟨kb, 0, none⟩) HKs.out.1).trans HKs.out.2); go_simp; try with_reducible rfl)
      refine tkW 2 (some 27) (v := ?_) ?_ hHeld ?_
      rotate_left
      · (intro ww _; go_simp; try with_reducible rfl)
      refine tkW 3 (some 28) (v := ?_) ?_ hHeld ?_
      rotate_left
      · (intro ww hSw; (try dsimp only at hSw); obtain ⟨z0, z1, z2, z3⟩ := row4 ((hSw.2 sb (.inr rfl)).trans HSb0.out.1); go_simp; try with_reducible rfl)
      refine tkW 4 (some 29) (v := ?_) ?_ hHeld ?_
      rotate_left
      · (intro ww hSw; (try dsimp only at hSw); go_simp; try with_reducible rfl)
      refine tkW 5 (some 30) (v := ?_) ?_ hHeld ?_
      rotate_left
      · (intro ww _; go_simp; try with_reducible rfl)
      refine tkW 6 (some 31) (v := ?_) ?_ hHeld ?_
      rotate_left
      · (intro ww hSw; (try dsimp only at hSw); have q6 : ww.cell? ⟨x.b, x.o, none⟩ = some (.int .i64 x.t.k.1) := (hSw.cell (p := ⟨x.b, x.o, none⟩) (.inl HXv.out.2)).trans ((HC0.out.rn.kp.cell (p := ⟨x.b, x.o, none⟩) HXv.out.2).trans HX2.out.1); have q7 : ww.cell? ⟨x.b, x.o + 1, none⟩ = some (.int .i64 x.t.k.2) := (hSw.cell (p := ⟨x.b, x.o + 1, none⟩) (.inl HXv.out.2)).trans ((HC0.out.rn.kp.cell (p := ⟨x.b, x.o + 1, none⟩) HXv.out.2).trans HX2.out.2); go_simp; try with_reducible rfl)
      refine tkW 7 (some 32) (v := ?_) ?_ hHeld ?_
      rotate_left
      · (intro ww hSw; (try dsimp only at hSw); go_simp; try with_reducible rfl)
      refine wpAnyH_ready (rs := [0, 8]) (by kernel_rfl) (by simp) ?_
      refine AllReadyH.cons (o := ⟨some 25, _, _, _, _, _⟩) rfl (fun K hK => ?_) (AllReadyH.cons (o := ⟨some 33, _, _, _, _, _⟩) rfl (fun K hK => ?_) AllReadyH.nil)
      · have q0 := HC.out.dg.rn.cell (B1.at _ _ _)
        go_simp
        refine hK.out _ _ (hHeld) (fun hHeld2 => ?_)
        clear hK K hHeld
        have hHeld := hHeld2
        clear hHeld2
        (try simp only [Act.put, List.setIfInBounds_toArray, List.set_cons_zero, List.set_cons_succ])
        clear q0
        refine wpAnyH_ready (rs := [8]) (by kernel_rfl) (by simp) ?_
        refine AllReadyH.cons (o := ⟨some 33, _, _, _, _, _⟩) rfl (fun K hK => ?_) AllReadyH.nil
        have hbx : Below Ue3u0.heap.size Ue3u0 (Ue3u0.alloc (.cells #[.int .i64 kd, .int .i64 x.t.k.1, .int .i64 x.t.k.2, .int .i64 0, .int .i64 0, .int .i64 0, .int .i64 0, .string ⟨#[]⟩, .string ⟨#[]⟩] 45)) := (Below.refl _ _).alloc (Nat.le_refl _) _
        have hkb9 := HC.out.dg.kp0 hbx
        go_simp
        refine hK.out _ _ (hHeld.trans ⟨hbx.size, fun k q => by rcases q with q | rfl; exact hkb9.2 k (.inl q); exact (hbx.block _ (row_lt HSb.out.1))⟩) (fun hHeld2 => ?_)
        clear hK K hHeld
        have hHeld := hHeld2
        clear hHeld2
        (try simp only [Act.put, List.setIfInBounds_toArray, List.set_cons_zero, List.set_cons_succ])
        obtain ⟨Ue3u2, eW⟩ : ∃ X, X = Ue3u0.alloc (.cells #[.int .i64 kd, .int .i64 x.t.k.1, .int .i64 x.t.k.2, .int .i64 0, .int .i64 0, .int .i64 0, .int .i64 0, .string ⟨#[]⟩, .string ⟨#[]⟩] 45) := ⟨_, rfl⟩
        have hb : Below Ue3u0.heap.size Ue3u0 Ue3u2 := by rw [eW]; exact (Below.refl _ _).alloc (Nat.le_refl _) _
        replace HC : Hid (OuS w W2 S ob (.slice av R.length cv) (R) W Ue3u2) := HC.out.below hb
        replace HSb : Hid (SbX W2 sb x Ue3u2) := HSb.out.below hb
        clear hbx hkb9
        have HVb : Hid (Ue3u2.heap[Ue3u0.heap.size]? = some (.cells #[.int .i64 kd, .int .i64 x.t.k.1, .int .i64 x.t.k.2, .int .i64 0, .int .i64 0, .int .i64 0, .int .i64 0, .string ⟨#[]⟩, .string ⟨#[]⟩] 45)) := by rw [eW]; exact heap_alloc_new _ _
        rw [← eW] at hHeld ⊢
        clear eW
        obtain ⟨qb, eqb⟩ : ∃ b, b = Ue3u0.heap.size := ⟨_, rfl⟩
        rw [← eqb] at HVb ⊢
        clear eqb
        clear hb
        refine wpAnyH_ready (rs := [9]) (by kernel_rfl) (by simp) ?_
        refine AllReadyH.cons (o := ⟨some 34, _, _, _, _, _⟩) rfl (fun K hK => ?_) AllReadyH.nil
        refine step_append_lies _ (by rfl) _ _ 31 (by rfl) W2.heap.size 45 i0 (.agg #[.int .i64 0, .int .i64 0, .int .i64 0, .int .i64 0, .int .i64 0, .int .i64 0, .int .i64 0, .string ⟨#[]⟩, .string ⟨#[]⟩]) 9 88 Try.underlying31 hin hz0 hz1 hz2 rfl (by decide) (.slice av R.length cv) R.length (flatE paCells R) (by rfl) HC.out.ow ⟨qb, 0, none⟩ 1 1 (paCells (pK kd x.t.k)) (by rfl) rfl (World.news_of_block HVb.out) (pa_oneD _) (by decide) (by unfold maxLen; omega) (by omega) (Nat.le_trans (Nat.le_refl _) (by have := HC.out.dg.rn.kp.1; exact this)) Ue3u2.heap.size rfl ?_
        intro g3 c3 Ue3u3 hown3 hgrow3 hat3 hlt3
        have HO3 : Hid (OwnPa W2.heap.size Ue3u3 (.slice (some ⟨g3, 0, none⟩) (R.length + 1) c3) (R ++ [pK kd x.t.k])) := OwnE.snoc rfl hown3
        have HC3 : Hid (OuS w W2 S ob (.slice (some ⟨g3, 0, none⟩) (R.length + 1) c3) (R ++ [pK kd x.t.k]) W (Ue3u3.setCell ⟨ob, 0, none⟩ (.slice (some ⟨g3, 0, none⟩) (R.length + 1) c3))) := HC.out.push hgrow3 HO3.out
        have HR3 : Hid (DgS w W2 S (B1 ob (.slice av R.length cv) 31) M0 Ue3u3) := HC.out.dg.own HC.out.ow hgrow3
        have hkn3 := KpS.ownE HC.out.ow ⟨by decide, by decide⟩ HC.out.dg.rn.sl (fun k q => Nat.lt_of_lt_of_le (HC.out.dg.rn.sl k q) HC.out.dg.rn.kp.1) hgrow3
        have hkp : KeepsS (fun k => S k ∨ k = sb) WA Ue3u3 := hHeld.trans ⟨hkn3.1, fun k q => by rcases q with q | rfl; exact hkn3.2 k (.inl q); exact hkn3.2 _ (.inr ⟨HSb.out.2, _, _, _, HSb.out.1, .inr rfl⟩)⟩
        replace HSb : Hid (SbX W2 sb x Ue3u3) := HSb.out.kp hkn3
        clear hown3 hgrow3 hat3 hlt3 hkn3
        refine hK.out _ _ (hkp) (fun hHeld2 => ?_)
        clear hK K hHeld
        have hHeld := hHeld2
        clear hHeld2
        (try simp only [Act.put, List.setIfInBounds_toArray, List.set_cons_zero, List.set_cons_succ])
        clear hkp HC HVb HO3
        refine wpAnyH_ready (rs := [10]) (by kernel_rfl) (by simp) ?_
        refine AllReadyH.cons (o := ⟨none, _, _, _, _, _⟩) rfl (fun K hK => ?_) AllReadyH.nil
        have q0 := HR3.out.rn.cell (B1.at _ _ _)
        have q1 := HR3.out.rn.free (B1.at _ _ _)
        have hkn3 := HR3.out.kpB (B1.at _ _ _) (.slice (some ⟨g3, 0, none⟩) (R.length + 1) c3)
        have hkp : KeepsS (fun k => S k ∨ k = sb) WA (Ue3u3.setCell ⟨ob, 0, none⟩ (.slice (some ⟨g3, 0, none⟩) (R.length + 1) c3)) := hHeld.trans ⟨hkn3.1, fun k q => by rcases q with q | rfl; exact hkn3.2 k (.inl q); exact hkn3.2 _ (.inr ⟨HSb.out.2, _, _, _, HSb.out.1, .inr rfl⟩)⟩
        clear hkn3
        go_simp
        refine hK.out _ _ (hkp) (fun hHeld2 => ?_)
        clear hK K hHeld
        have hHeld := hHeld2
        clear hHeld2
        (try simp only [Act.put, List.setIfInBounds_toArray, List.set_cons_zero, List.set_cons_succ])
        clear q0 q1 HR3 HSb hkp
        refine wpAnyH_done (by kernel_rfl) ?_ _
        clear hHeld
        gi_wp2
        exact ⟨HC3.out.kf, HC3.out.kn, _, HC3.out.dg, (by show OwnPa _ _ _ (eaL D kd (xs.take (k + 1))); rw [HD.out, ← HBb.out, if_pos rfl]; exact HC3.out.ow)⟩
      · have hbx : Below Ue3u0.heap.size Ue3u0 (Ue3u0.alloc (.cells #[.int .i64 kd, .int .i64 x.t.k.1, .int .i64 x.t.k.2, .int .i64 0, .int .i64 0, .int .i64 0, .int .i64 0, .string ⟨#[]⟩, .string ⟨#[]⟩] 45)) := (Below.refl _ _).alloc (Nat.le_refl _) _
        have hkb9 := HC.out.dg.kp0 hbx
        go_simp
        refine hK.out _ _ (hHeld.trans ⟨hbx.size, fun k q => by rcases q with q | rfl; exact hkb9.2 k (.inl q); exact (hbx.block _ (row_lt HSb.out.1))⟩) (fun hHeld2 => ?_)
        clear hK K hHeld
        have hHeld := hHeld2
        clear hHeld2
        (try simp only [Act.put, List.setIfInBounds_toArray, List.set_cons_zero, List.set_cons_succ])
        obtain ⟨Ue3u5, eW⟩ : ∃ X, X = Ue3u0.alloc (.cells #[.int .i64 kd, .int .i64 x.t.k.1, .int .i64 x.t.k.2, .int .i64 0, .int .i64 0, .int .i64 0, .int .i64 0, .string ⟨#[]⟩, .string ⟨#[]⟩] 45) := ⟨_, rfl⟩
        have hb : Below Ue3u0.heap.size Ue3u0 Ue3u5 := by rw [eW]; exact (Below.refl _ _).alloc (Nat.le_refl _) _
        replace HC : Hid (OuS w W2 S ob (.slice av R.length cv) (R) W Ue3u5) := HC.out.below hb
        replace HSb : Hid (SbX W2 sb x Ue3u5) := HSb.out.below hb
        clear hbx hkb9
        have HVb : Hid (Ue3u5.heap[Ue3u0.heap.size]? = some (.cells #[.int .i64 kd, .int .i64 x.t.k.1, .int .i64 x.t.k.2, .int .i64 0, .int .i64 0, .int .i64 0, .int .i64 0, .string ⟨#[]⟩, .string ⟨#[]⟩] 45)) := by rw [eW]; exact heap_alloc_new _ _
        rw [← eW] at hHeld ⊢
        clear eW
        obtain ⟨qb, eqb⟩ : ∃ b, b = Ue3u0.heap.size := ⟨_, rfl⟩
        rw [← eqb] at HVb ⊢
        clear eqb
        clear hb
        refine wpAnyH_ready (rs := [0]) (by kernel_rfl) (by simp) ?_
        refine AllReadyH.cons (o := ⟨some 25, _, _, _, _, _⟩) rfl (fun K hK => ?_) AllReadyH.nil
        have q0 := HC.out.dg.rn.cell (B1.at _ _ _)
        go_simp
        refine hK.out _ _ (hHeld) (fun hHeld2 => ?_)
        clear hK K hHeld
        have hHeld := hHeld2
        clear hHeld2
        (try simp only [Act.put, List.setIfInBounds_toArray, List.set_cons_zero, List.set_cons_succ])
        clear q0
        refine wpAnyH_ready (rs := [9]) (by kernel_rfl) (by simp) ?_
        refine AllReadyH.cons (o := ⟨some 34, _, _, _, _, _⟩) rfl (fun K hK => ?_) AllReadyH.nil
        refine step_append_lies _ (by rfl) _ _ 31 (by rfl) W2.heap.size 45 i0 (.agg #[.int .i64 0, .int .i64 0, .int .i64 0, .int .i64 0, .int .i64 0, .int .i64 0, .int .i64 0, .string ⟨#[]⟩, .string ⟨#[]⟩]) 9 88 Try.underlying31 hin hz0 hz1 hz2 rfl (by decide) (.slice av R.length cv) R.length (flatE paCells R) (by rfl) HC.out.ow ⟨qb, 0, none⟩ 1 1 (paCells (pK kd x.t.k)) (by rfl) rfl (World.news_of_block HVb.out) (pa_oneD _) (by decide) (by unfold maxLen; omega) (by omega) (Nat.le_trans (Nat.le_refl _) (by have := HC.out.dg.rn.kp.1; exact this)) Ue3u5.heap.size rfl ?_
        intro g3 c3 Ue3u7 hown3 hgrow3 hat3 hlt3
        have HO3 : Hid (OwnPa W2.heap.size Ue3u7 (.slice (some ⟨g3, 0, none⟩) (R.length + 1) c3) (R ++ [pK kd x.t.k])) := OwnE.snoc rfl hown3
        have HC3 : Hid (OuS w W2 S ob (.slice (some ⟨g3, 0, none⟩) (R.length + 1) c3) (R ++ [pK kd x.t.k]) W (Ue3u7.setCell ⟨ob, 0, none⟩ (.slice (some ⟨g3, 0, none⟩) (R.length + 1) c3))) := HC.out.push hgrow3 HO3.out
        have HR3 : Hid (DgS w W2 S (B1 ob (.slice av R.length cv) 31) M0 Ue3u7) := HC.out.dg.own HC.out.ow hgrow3
        have hkn3 := KpS.ownE HC.out.ow ⟨by decide, by decide⟩ HC.out.dg.rn.sl (fun k q => Nat.lt_of_lt_of_le (HC.out.dg.rn.sl k q) HC.out.dg.rn.kp.1) hgrow3
        have hkp : KeepsS (fun k => S k ∨ k = sb) WA Ue3u7 := hHeld.trans ⟨hkn3.1, fun k q => by rcases q with q | rfl; exact hkn3.2 k (.inl q); exact hkn3.2 _ (.inr ⟨HSb.out.2, _, _, _, HSb.out.1, .inr rfl⟩)⟩
        replace HSb : Hid (SbX W2 sb x Ue3u7) := HSb.out.kp hkn3
        clear hown3 hgrow3 hat3 hlt3 hkn3
        refine hK.out _ _ (hkp) (fun hHeld2 => ?_)
        clear hK K hHeld
        have hHeld := hHeld2
        clear hHeld2
        (try simp only [Act.put, List.setIfInBounds_toArray, List.set_cons_zero, List.set_cons_succ])
        clear hkp HC HVb HO3
        refine wpAnyH_ready (rs := [10]) (by kernel_rfl) (by simp) ?_
        refine AllReadyH.cons (o := ⟨none, _, _, _, _, _⟩) rfl (fun K hK => ?_) AllReadyH.nil
        have q0 := HR3.out.rn.cell (B1.at _ _ _)
        have q1 := HR3.out.rn.free (B1.at _ _ _)
        have hkn3 := HR3.out.kpB (B1.at _ _ _) (.slice (some ⟨g3, 0, none⟩) (R.length + 1) c3)
        have hkp : KeepsS (fun k => S k ∨ k = sb) WA (Ue3u7.setCell ⟨ob, 0, none⟩ (.slice (some ⟨g3, 0, none⟩) (R.length + 1) c3)) := hHeld.trans ⟨hkn3.1, fun k q => by rcases q with q | rfl; exact hkn3.2 k (.inl q); exact hkn3.2 _ (.inr ⟨HSb.out.2, _, _, _, HSb.out.1, .inr rfl⟩)⟩
        clear hkn3
        go_simp
        refine hK.out _ _ (hkp) (fun hHeld2 => ?_)
        clear hK K hHeld
        have hHeld := hHeld2
        clear hHeld2
        (try simp only [Act.put, List.setIfInBounds_toArray, List.set_cons_zero, List.set_cons_succ])
        clear q0 q1 HR3 HSb hkp
        refine wpAnyH_done (by kernel_rfl) ?_ _
        clear hHeld
        gi_wp2
        exact ⟨HC3.out.kf, HC3.out.kn, _, HC3.out.dg, (by show OwnPa _ _ _ (eaL D kd (xs.take (k + 1))); rw [HD.out, ← HBb.out, if_pos rfl]; exact HC3.out.ow)⟩
  case done =>
    rintro Dd W hDd ⟨v, hA, hO⟩ hDf
    rw [List.take_length] at hO
    have x1 := hA.rn.cell (B1.at _ _ _)
    have HA := hide9 hA
    have HO := hide9 hO
    have HDf := hide9 hDf
    clear hA hO hDf
    gi_wp2
    refine ⟨by simp, .inl ⟨_, _, rfl, run_takeDeferred HDf.out, ?_⟩⟩
    have hE := HA.out.grown (grownBy_putObj' W Dd (.deferred none)) (fun r e => by cases e; exact ⟨hDd, _, HDf.out, rfl⟩)
    have hO2 : OwnPa W2.heap.size (W.putObj Dd (.deferred none)) v (eaL D kd xs) := OwnE.keep HO.out fun j e => (by obtain ⟨c, hc⟩ := own_cellsE HO.out e; exact (row_own hc (grownBy_putObj' W Dd (.deferred none)) (fun r q => by cases q; exact ⟨_, HDf.out, rfl⟩)).trans hc.symm)
    rw [HXs.out] at hO2
    exact ⟨_, results_tmp rfl _ _ _, v, rfl, OwnE.low hO2 HNo.out, hE.rn.bel⟩
  case stop =>
    rintro D9 c k W hD hk hf; exact hf.elim
theorem each_any (G : Nat → Prop) (D : List Sd) (mb : Nat) (kd : Int) (t : VT) (Bt : Nat) (w : World) (hm : MpS w mb D) (hv : VAt G w t Bt 0) (hsz : t.sz ≤ 1048576) : Calls Try.prog 51 #[.map (some mb), .int .i64 kd, .pointer (some ⟨Bt, 0, none⟩)] w fun e w' => ∃ v, e = .returned v ∧ OwnPa w.heap.size w' v (eaL D kd (flatS w t (0, 0) 0 Bt 0)) ∧ Below w.heap.size w w' := callsIn_wide.1 (each_in 5 (Nat.le_refl _) G D mb kd t Bt w hm hv hsz)
end Go.Proofs.Ythhnglpkfcmjiaa
