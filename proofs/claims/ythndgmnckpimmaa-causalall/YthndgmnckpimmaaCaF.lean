/- What release tells. -/
import Derived.Test.YthndgmnckpimmaaCaP
import Derived.WalkMore
namespace Go.Proofs.Ythndgmnckpimmaa
open Go.RowKit
set_option linter.unusedVariables false
set_option linter.unusedSimpArgs false

theorem OwnH.one (w : World) (B : Nat) (hB : B ≤ w.heap.size) (c : Ch) (dv : Value) : OwnH B (w.alloc (.cells (chCells c dv).toArray 35)) (.slice (some ⟨w.heap.size, 0, none⟩) 1 1) [(c, dv)] :=
  ⟨rfl, .inr ⟨w.heap.size, 1, (chCells c dv).toArray, rfl, hB, heap_alloc_new w _, Nat.le_refl _, by unfold maxLen; omega, rfl, by simp [flatH, chCells]⟩⟩
/-- Where the release stands, in memory. -/
structure RelM (F : Nat → Prop) (w : World) (bb : Nat) (room : Int) (mb : Nat) (D : List (Ch × Value)) (c : Ch) (W4 : World) (M : Nat) (H : List Ch) (kn1 : List Int) (kv ov : Value) (wr : World) : Prop where
  ex : ∃ kn O p n E D', RunS kn1 H kn O p n ∧ OwnI w.heap.size wr kv kn ∧ AccH w.heap.size ov E wr ∧ E.map Prod.fst = c :: O ∧ BufIs F wr bb room mb D' ∧ (D'.map Prod.fst).Perm (H.filter p)
  keep : KeepsS (fun k => M ≤ k ∧ k < W4.heap.size) W4 wr
  far : ∀ k, ov.ownBlock = some k → k < M ∨ W4.heap.size ≤ k
  touch : Touch F w wr
/-- What release leaves. -/
def RelP (F : Nat → Prop) (w : World) (bb : Nat) (room : Int) (mb : Nat) (c : Ch) (H : List Ch) (kn1 : List Int) (v : Value) (w' : World) : Prop := ∃ E D', AccH w.heap.size v E w' ∧ E.map Prod.fst = c :: (runL H.length kn1 H).1 ∧ BufIs F w' bb room mb D' ∧ (D'.map Prod.fst).Perm (runL H.length kn1 H).2 ∧ Touch F w w'
theorem OwnH.at {B : Nat} {w : World} {v : Value} {D : List (Ch × Value)} (h : OwnH B w v D) {i : Nat} (hi : i < D.length) : ∃ g cap, v = .slice (some ⟨g, 0, none⟩) D.length cap ∧ ∀ j u, (chCells D[i].1 D[i].2)[j]? = some u → w.cell? ⟨g, i * 13 + j, none⟩ = some u := by
  rcases h.2 with ⟨rfl, hn⟩ | ⟨g, cap, cur, rfl, hg, hc, hcap, rest⟩
  · omega
  · refine ⟨g, cap, rfl, fun j u hj => ?_⟩
    have hj2 : j < 13 := (List.getElem?_eq_some_iff.1 hj).1
    exact (World.ownsRow.cellAt h (i * 13 + j) (by omega)).trans (flatH_get D i hi j u hj)
theorem chAll {W : World} {b o : Nat} {c : Ch} {dv : Value} (h : ∀ j u, (chCells c dv)[j]? = some u → W.cell? ⟨b, o + j, none⟩ = some u) : W.cell? ⟨b, o, none⟩ = some (.int .i64 c.ac) ∧ W.cell? ⟨b, o + 1, none⟩ = some (.int .i64 c.ar) ∧ W.cell? ⟨b, o + 2, none⟩ = some (.int .i64 c.seq) ∧ W.cell? ⟨b, o + 3, none⟩ = some dv ∧ W.cell? ⟨b, o + 4, none⟩ = some (.int .i64 c.kind) ∧ W.cell? ⟨b, o + 5, none⟩ = some (.int .i64 c.nc) ∧ W.cell? ⟨b, o + 6, none⟩ = some (.int .i64 c.nr) ∧ W.cell? ⟨b, o + 7, none⟩ = some (.int .i64 c.pc) ∧ W.cell? ⟨b, o + 8, none⟩ = some (.int .i64 c.pr) ∧ W.cell? ⟨b, o + 9, none⟩ = some (.int .i64 c.fc) ∧ W.cell? ⟨b, o + 10, none⟩ = some (.int .i64 c.fr) ∧ W.cell? ⟨b, o + 11, none⟩ = some (.string c.name) ∧ W.cell? ⟨b, o + 12, none⟩ = some (.string c.value) :=
  ⟨h 0 _ rfl, h 1 _ rfl, h 2 _ rfl, h 3 _ rfl, h 4 _ rfl, h 5 _ rfl, h 6 _ rfl, h 7 _ rfl, h 8 _ rfl, h 9 _ rfl, h 10 _ rfl, h 11 _ rfl, h 12 _ rfl⟩
theorem runL_len : ∀ (n : Nat) (kn : List Int) (L : List Ch), (runL n kn L).1.length ≤ n
  | 0, kn, L => Nat.le_refl _
  | n + 1, kn, L => by
    cases h : L.find? (readyB kn) with
    | none => rw [runL_none h]; exact Nat.zero_le _
    | some x =>
      rw [runL_some h]
      have := runL_len n (tickR kn x.ar) (L.filter (notAt x))
      simp only [List.length_cons]
      omega
/-- .. while it looks for the next one. -/
structure RelI (F : Nat → Prop) (w : World) (bb : Nat) (room : Int) (mb : Nat) (W4 : World) (M : Nat) (kv : Value) (kn : List Int) (ov : Value) (E D' : List (Ch × Value)) (wr : World) : Prop where
  ik : OwnI w.heap.size wr kv kn
  acc : AccH w.heap.size ov E wr
  buf : BufIs F wr bb room mb D'
  keep : KeepsS (fun k => M ≤ k ∧ k < W4.heap.size) W4 wr
  touch : Touch F w wr
theorem RelI.below {F : Nat → Prop} {w : World} {bb : Nat} {room : Int} {mb : Nat} {W4 : World} {M : Nat} {kv : Value} {kn : List Int} {ov : Value} {E D' : List (Ch × Value)} {wr W : World} (h : RelI F w bb room mb W4 M kv kn ov E D' wr) (hb : Below wr.heap.size wr W) : RelI F w bb room mb W4 M kv kn ov E D' W :=
  ⟨h.ik.below hb, h.acc.below hb, h.buf.below hb, h.keep.trans (KeepsS.of_below hb fun k hk => Nat.lt_of_lt_of_le hk.2 h.keep.1), h.touch.trans (Touch.of_below (F := F) hb) fun j hj => .inl hj⟩
theorem RelM.cell1 {F : Nat → Prop} {w : World} {bb : Nat} {room : Int} {mb : Nat} {D : List (Ch × Value)} {c : Ch} {W4 : World} {M : Nat} {H : List Ch} {kn1 : List Int} {kv ov : Value} {wr : World} (h : RelM F w bb room mb D c W4 M H kn1 kv ov wr) : wr.cell? ⟨bb, 1, none⟩ = some (.map (some mb)) := by
  obtain ⟨_, _, _, _, _, _, _, _, _, _, hb, _⟩ := h.ex
  exact hb.cell1
theorem RelI.is {F : Nat → Prop} {w : World} {bb : Nat} {room : Int} {mb : Nat} {W4 : World} {M : Nat} {kv : Value} {kn : List Int} {ov : Value} {E D' : List (Ch × Value)} {wr : World} (h : RelI F w bb room mb W4 M kv kn ov E D' wr) (hk : OkC kn) : IsI wr kv kn := OwnI.isI h.ik (Nat.le_trans hk.1 (by decide))
/-- A change is appended. -/
theorem RelI.push {F : Nat → Prop} {w : World} {bb : Nat} {room : Int} {mb : Nat} {W4 : World} {M : Nat} {kv : Value} {kn : List Int} {ov : Value} {E D' : List (Ch × Value)} {wr W : World} (h : RelI F w bb room mb W4 M kv kn ov E D' wr) (hfar : ∀ k, ov.ownBlock = some k → k < M ∨ W4.heap.size ≤ k) (hF : ∀ k, F k → k < w.heap.size) {v dv : Value} {c : Ch} (hown : OwnH w.heap.size W v (E ++ [(c, dv)])) (hg : wr.grownBy W ov.ownBlock) (hd : OwnI w.heap.size wr dv c.deps) (hs : Sized c ∧ c.deps.length ≤ 17592186044416) :
    RelI F w bb room mb W4 M kv kn v (E ++ [(c, dv)]) D' W := by
  have hrow : ∀ k, ov.ownBlock = some k → w.heap.size ≤ k := fun k e => (World.ownsRow.lt h.acc.own k e).1
  refine ⟨OwnI.keepF h.ik fun k e => hg.block k (World.ownsRow.lt h.ik k e).2 (fun e2 => ownsRow_apart h.ik h.acc.own (by decide) k e e2.symm), h.acc.push hown hg hd hs, h.buf.keep ⟨hg.size, fun k hk => hg.block k (h.buf.lt k hk) fun e => by have := hrow k e.symm; have := hF k hk; omega⟩, h.keep.trans ⟨hg.size, fun k hk => hg.block k (Nat.lt_of_lt_of_le hk.2 h.keep.1) fun e => by have := hfar k e.symm; omega⟩, h.touch.trans (Touch.of_grown (F := fun k => ov.ownBlock = some k) hg fun k e _ => e) fun j hj => .inr (hrow j hj)⟩
/-- Another clock. -/
theorem RelI.clock {F : Nat → Prop} {w : World} {bb : Nat} {room : Int} {mb : Nat} {W4 : World} {M : Nat} {kv : Value} {kn : List Int} {ov : Value} {E D' : List (Ch × Value)} {wr : World} (h : RelI F w bb room mb W4 M kv kn ov E D' wr) {kv2 : Value} {kn2 : List Int} (h2 : OwnI w.heap.size wr kv2 kn2) : RelI F w bb room mb W4 M kv2 kn2 ov E D' wr := ⟨h2, h.acc, h.buf, h.keep, h.touch⟩
/-- An entry is struck. -/
theorem RelI.drop {F : Nat → Prop} {w : World} {bb : Nat} {room : Int} {mb : Nat} {W4 : World} {M : Nat} {kv : Value} {kn : List Int} {ov : Value} {E D' D3 : List (Ch × Value)} {wr W : World} (h : RelI F w bb room mb W4 M kv kn ov E D' wr) (hM : w.heap.size ≤ M) (hF : ∀ k, F k → k < w.heap.size) (hm : MapIs W mb D3) (hg : wr.grownBy W (some mb)) (hsub : D3.Sublist D') : RelI F w bb room mb W4 M kv kn ov E D3 W := by
  have hmb : mb < w.heap.size := hF mb h.buf.fm
  have hne : ∀ k, w.heap.size ≤ k → k < wr.heap.size → W.heap[k]? = wr.heap[k]? := fun k h1 h2 => hg.block k h2 fun e => by cases e; omega
  refine ⟨OwnI.keepF h.ik fun k e => hne k (World.ownsRow.lt h.ik k e).1 (World.ownsRow.lt h.ik k e).2, h.acc.keep hg.size hne, h.buf.turn hm hg (fun x hx => ⟨h.buf.hdep x (hsub.subset hx), h.buf.fd x (hsub.subset hx)⟩) ⟨h.buf.ok.apart.sublist hsub, fun x hx => h.buf.ok.right x (hsub.subset hx)⟩ (fun k hk => hk) (fun k hk => Nat.lt_of_lt_of_le (h.buf.lt k hk) hg.size), h.keep.trans ⟨hg.size, fun k hk => hne k (Nat.le_trans hM hk.1) (Nat.lt_of_lt_of_le hk.2 h.keep.1)⟩, h.touch.trans (Touch.of_grown (F := F) hg fun k e _ => by cases e; exact h.buf.fm) fun j hj => .inl hj⟩
theorem erase_perm {α : Type} : ∀ (l : List α) (j : Nat) (h : j < l.length), (l[j] :: l.eraseIdx j).Perm l
  | [], j, h => absurd h (Nat.not_lt_zero _)
  | x :: l, 0, h => List.Perm.refl _
  | x :: l, j + 1, h => by
    have ih := erase_perm l j (by simpa using h)
    simp only [List.getElem_cons_succ, List.eraseIdx_cons_succ]
    exact (List.Perm.swap x _ _).trans (ih.cons x)
theorem drop_perm {D : List (Ch × Value)} {L L2 : List Ch} {c : Ch} (hok : HoldOk D) (hp : (D.map Prod.fst).Perm L) (hp2 : L.Perm (c :: L2)) {x : Ch × Value} {j : Nat} (hg : getP D c.ar c.seq = some x) (hj : D[j]? = some x) : ((D.eraseIdx j).map Prod.fst).Perm L2 ∧ (D.eraseIdx j).length + 1 = D.length := by
  have hpl : Plc (D.map Prod.fst) := List.pairwise_map.2 hok.apart
  obtain ⟨hj1, hj2⟩ := List.getElem?_eq_some_iff.1 hj
  have hx := getP_some hg
  have hc : c ∈ D.map Prod.fst := (hp.trans hp2).mem_iff.2 (List.mem_cons_self ..)
  have e1 : x.1 = c := hpl.inj (List.mem_map_of_mem hx.1) hc hx.2
  have h1 : (D[j] :: D.eraseIdx j).Perm D := erase_perm D j hj1
  rw [hj2] at h1
  refine ⟨?_, by have := h1.length_eq; simpa using this⟩
  have h2 := h1.map Prod.fst
  rw [List.map_cons, e1] at h2
  exact ((h2.trans hp).trans hp2).cons_inv
theorem far_next {ov : Value} {g n c M : Nat} {W4 W : World} (hat : ov.ownBlock = some g ∨ g = W.heap.size) (hf : ∀ k, ov.ownBlock = some k → k < M ∨ W4.heap.size ≤ k) (hs : W4.heap.size ≤ W.heap.size) : ∀ k, (Value.slice (some ⟨g, 0, none⟩) n c).ownBlock = some k → k < M ∨ W4.heap.size ≤ k := fun k e => by
  have e1 : g = k := by simpa [Value.ownBlock] using e
  subst e1
  rcases hat with h | h
  · exact hf g h
  · exact .inr (by omega)
theorem find_at {H : List Ch} {q : Ch → Bool} {i : Nat} (hi : i < H.length) (h : ∀ j (hj : j < H.length), j < i → q H[j] = false) (hq : q H[i] = true) : H.find? q = some H[i] := by
  induction H generalizing i with
  | nil => simp at hi
  | cons x t ih =>
    cases i with
    | zero => simp at hq ⊢; simp [hq]
    | succ i =>
      have h0 := h 0 (by simp) (by omega)
      simp only [List.getElem_cons_zero] at h0
      rw [List.find?_cons, h0]
      simp only [List.getElem_cons_succ] at hq ⊢
      exact ih (by simpa using hi) (fun j hj hlt => by have := h (j + 1) (by simpa using hj) (by omega); simpa using this) hq
def mapN (w : World) (b : Nat) : Nat := match w.heap[b]? with
  | some (.map es _) => es.size
  | _ => 0
theorem MapIs.n {w : World} {b : Nat} {D : List (Ch × Value)} (h : MapIs w b D) : mapN w b = D.length := by
  obtain ⟨es, cl, h1, h2⟩ := h.size
  unfold mapN
  rw [h1]
  exact h2

/-- The one that has come is struck. -/
theorem rel_drop {F : Nat → Prop} {w : World} {bb : Nat} {room : Int} {mb : Nat} {W4 : World} {M : Nat} {kv : Value} {kn1 kn2 : List Int} {ov : Value} {E D D2 : List (Ch × Value)} {W W' : World} {H O : List Ch} {p : Ch → Bool} {n : Nat} {c c2 : Ch} (h : RelI F w bb room mb W4 M kv (tickR kn2 c2.ar) ov E D2 W) (hM : w.heap.size ≤ M) (hF : ∀ k, F k → k < w.heap.size)
    (hm : (getP D2 c2.ar c2.seq = none ∧ MapIs W' mb D2) ∨ ∃ x j, getP D2 c2.ar c2.seq = some x ∧ D2[j]? = some x ∧ MapIs W' mb (D2.eraseIdx j)) (hg : W.grownBy W' (some mb)) (hrun : RunS kn1 H kn2 O p n) (hpl : Plc H) (hck : ∀ x ∈ H, checkCh x = 0) (hfd : H.find? (readyB kn2) = some c2) (hpm : (D2.map Prod.fst).Perm (H.filter p)) (hE : E.map Prod.fst = c :: (O ++ [c2])) (hfar : ∀ k, ov.ownBlock = some k → k < M ∨ W4.heap.size ≤ k) :
    RelM F w bb room mb D c W4 M H kn1 kv ov W' ∧ mapN W' mb < D2.length := by
  obtain ⟨hxL, n', hrun', hperm⟩ := hrun.step hpl hck hfd
  rcases hm with ⟨h1, _⟩ | ⟨x, j, h1, h2, h3⟩
  · obtain ⟨y, hy, e⟩ := List.mem_map.1 (hpm.mem_iff.2 hxL)
    exact absurd ⟨by rw [e], by rw [e]⟩ (getP_none h1 y hy)
  · obtain ⟨q1, q2⟩ := drop_perm h.buf.ok hpm hperm h1 h2
    have hd := h.drop hM hF h3 hg (List.eraseIdx_sublist _ _)
    exact ⟨⟨⟨_, _, _, n', E, _, hrun', hd.ik, hd.acc, hE, hd.buf, q1⟩, hd.keep, hfar, hd.touch⟩, by rw [h3.n]; omega⟩

set_option maxRecDepth 100000 in
set_option maxHeartbeats 8000000 in
theorem release_any (F : Nat → Prop) (bb : Nat) (room : Int) (mb : Nat) (D : List (Ch × Value)) (ac ar sq : Int) (dv : Value) (kd nc nr pc pr fc fr : Int) (nm vl : ByteArray) (ds : List Int) (kv : Value) (kn : List Int) (H : List Ch) (w : World) (h : BufIs F w bb room mb D) (hl : D.length ≤ 4095) (hk : IsI w kv kn) (hko : OkC kn) (hd : IsI w dv ds) (hc : checkCh (⟨ac, ar, sq, ds, kd, nc, nr, pc, pr, fc, fr, nm, vl⟩ : Ch) = 0 ∧ Sized (⟨ac, ar, sq, ds, kd, nc, nr, pc, pr, fc, fr, nm, vl⟩ : Ch)) (hr : readyB kn (⟨ac, ar, sq, ds, kd, nc, nr, pc, pr, fc, fr, nm, vl⟩ : Ch) = true) (hp : (D.map Prod.fst).Perm H) (hs : SrtC H) :
    Calls Try.prog 37 #[.pointer (some ⟨bb, 0, none⟩), kv, .agg #[.int .i64 ac, .int .i64 ar, .int .i64 sq, dv, .int .i64 kd, .int .i64 nc, .int .i64 nr, .int .i64 pc, .int .i64 pr, .int .i64 fc, .int .i64 fr, .string nm, .string vl]] w fun e w' => ∃ v', e = .returned v' ∧ RelP F w bb room mb (⟨ac, ar, sq, ds, kd, nc, nr, pc, pr, fc, fr, nm, vl⟩ : Ch) H (tickR kn ar) v' w' := by
  obtain ⟨a0, c0, e0⟩ := hk.form
  subst e0
  obtain ⟨a1, c1, e1⟩ := hd.form
  subst e1
  obtain ⟨W0, eW⟩ : ∃ X, X = w.alloc (.cells #[.int .i64 ac, .int .i64 ar, .int .i64 sq, .slice a1 ds.length c1, .int .i64 kd, .int .i64 nc, .int .i64 nr, .int .i64 pc, .int .i64 pr, .int .i64 fc, .int .i64 fr, .string nm, .string vl] 35) := ⟨_, rfl⟩
  have HK0 : Hid (KeptC w w.heap.size [.int .i64 ac, .int .i64 ar, .int .i64 sq, .slice a1 ds.length c1, .int .i64 kd, .int .i64 nc, .int .i64 nr, .int .i64 pc, .int .i64 pr, .int .i64 fc, .int .i64 fr, .string nm, .string vl] W0) := by rw [eW]; exact KeptC.start w [.int .i64 ac, .int .i64 ar, .int .i64 sq, .slice a1 ds.length c1, .int .i64 kd, .int .i64 nc, .int .i64 nr, .int .i64 pc, .int .i64 pr, .int .i64 fc, .int .i64 fr, .string nm, .string vl] 35
  have HFl : Hid (∀ k, F k → k < w.heap.size) := h.lt
  have HL : Hid (BufIs F w bb room mb D) := h
  have HIk : Hid (IsI w (.slice a0 kn.length c0) kn) := hk
  have HCk : Hid (checkCh (⟨ac, ar, sq, ds, kd, nc, nr, pc, pr, fc, fr, nm, vl⟩ : Ch) = 0 ∧ Sized (⟨ac, ar, sq, ds, kd, nc, nr, pc, pr, fc, fr, nm, vl⟩ : Ch)) := hc
  have HTk : Hid (OkC (tickR kn ar)) := (tick_ready hko hc.1 hr).2.1
  have HP : Hid ((D.map Prod.fst).Perm H ∧ SrtC H) := ⟨hp, hs⟩
  have hd64 : ds.length ≤ 64 := (deps_len hc.1).1
  have HPl : Hid (Plc H ∧ ∀ x ∈ H, checkCh x = 0) := ⟨(show Plc (D.map Prod.fst) from List.pairwise_map.2 h.ok.apart).perm hp, fun x hx => by
    obtain ⟨y, hy, rfl⟩ := List.mem_map.1 (hp.mem_iff.2 hx)
    exact (h.ok.right y hy).1⟩
  have hHl : H.length ≤ 4095 := by have := hp.length_eq; simp at this; omega
  have HId : Hid (IsI w (.slice a1 ds.length c1) ds) := hd
  clear h hk hd hc hr hp hs hko
  go_enter Try.func37, Try.ntmps37
  go_wp2
  go_step3
  rw [← eW]
  clear eW
  obtain ⟨k_0, k_1, k_2, k_3, k_4, k_5, k_6, k_7, k_8, k_9, k_10, k_11, k_12⟩ := HK0.out.all
  go_wp2_with fail
  refine (copyCh_any ac ar sq (.slice a1 ds.length c1) kd nc nr pc pr fc fr nm vl ds _ (HId.out.below HK0.out.2.2)).mono ?_
  rintro e w1 ⟨v2, rfl, ho, hb1⟩
  obtain ⟨a2, c2, e2⟩ := ho.form
  subst e2
  have hz0 : w.heap.size < W0.heap.size := HK0.out.2.1
  have HK1 : Hid (KeptC w w.heap.size [.int .i64 ac, .int .i64 ar, .int .i64 sq, .slice a1 ds.length c1, .int .i64 kd, .int .i64 nc, .int .i64 nr, .int .i64 pc, .int .i64 pr, .int .i64 fc, .int .i64 fr, .string nm, .string vl] w1) := HK0.out.step hb1
  have HO1 : Hid (OwnI w.heap.size w1 (.slice a2 ds.length c2) ds) := ho.low (by omega)
  clear k_0 k_1 k_2 k_3 k_4 k_5 k_6 k_7 k_8 k_9 k_10 k_11 k_12 ho hb1 HK0
  obtain ⟨W2, eW2⟩ : ∃ X, X = w1.alloc (.cells #[.int .i64 ac, .int .i64 ar, .int .i64 sq, .slice a2 ds.length c2, .int .i64 kd, .int .i64 nc, .int .i64 nr, .int .i64 pc, .int .i64 pr, .int .i64 fc, .int .i64 fr, .string nm, .string vl] 35) := ⟨_, rfl⟩
  have hb2 : Below w1.heap.size w1 W2 := by rw [eW2]; exact (Below.refl _ _).alloc (Nat.le_refl _) _
  have HK2 : Hid (KeptC w w.heap.size [.int .i64 ac, .int .i64 ar, .int .i64 sq, .slice a1 ds.length c1, .int .i64 kd, .int .i64 nc, .int .i64 nr, .int .i64 pc, .int .i64 pr, .int .i64 fc, .int .i64 fr, .string nm, .string vl] W2) := HK1.out.step hb2
  have hw1 : w.heap.size ≤ w1.heap.size := HK1.out.2.2.size
  have hA2 : AccH w.heap.size (.slice (some ⟨w1.heap.size, 0, none⟩) 1 1) [((⟨ac, ar, sq, ds, kd, nc, nr, pc, pr, fc, fr, nm, vl⟩ : Ch), .slice a2 ds.length c2)] W2 := by
    refine ⟨by rw [eW2]; exact OwnH.one w1 _ hw1 (⟨ac, ar, sq, ds, kd, nc, nr, pc, pr, fc, fr, nm, vl⟩ : Ch) _, fun x hx => ?_, HK2.out.2.2.size⟩
    rw [List.mem_singleton] at hx
    subst hx
    exact ⟨HO1.out.below hb2, HCk.out.2, by show ds.length ≤ _; omega⟩
  have HA2 : Hid (AccH w.heap.size (.slice (some ⟨w1.heap.size, 0, none⟩) 1 1) [((⟨ac, ar, sq, ds, kd, nc, nr, pc, pr, fc, fr, nm, vl⟩ : Ch), .slice a2 ds.length c2)] W2) := hA2
  have hz2 : w1.heap.size < W2.heap.size := by rw [eW2]; simp
  have hK2 : KeptC w w.heap.size [.int .i64 ac, .int .i64 ar, .int .i64 sq, .slice a1 ds.length c1, .int .i64 kd, .int .i64 nc, .int .i64 nr, .int .i64 pc, .int .i64 pr, .int .i64 fc, .int .i64 fr, .string nm, .string vl] (w1.alloc (.cells #[.int .i64 ac, .int .i64 ar, .int .i64 sq, .slice a2 ds.length c2, .int .i64 kd, .int .i64 nc, .int .i64 nr, .int .i64 pc, .int .i64 pr, .int .i64 fc, .int .i64 fr, .string nm, .string vl] 35)) := by rw [← eW2]; exact HK2.out
  obtain ⟨k_0, k_1, k_2, k_3, k_4, k_5, k_6, k_7, k_8, k_9, k_10, k_11, k_12⟩ := hK2.all
  clear hb2 hA2 HO1 hK2
  go_wp2_with fail
  rw [← eW2]
  clear eW2 k_0 k_1 k_2 k_3 k_4 k_5 k_6 k_7 k_8 k_9 k_10 k_11 k_12
  refine (with_any ac ar sq (.slice a1 ds.length c1) kd nc nr pc pr fc fr nm vl _ kn _ (HIk.out.below HK2.out.2.2)).mono ?_
  rintro e w3 ⟨v3, rfl, ho3, hb3⟩
  obtain ⟨a3, c3, e3⟩ := ho3.form
  subst e3
  have HK3 : Hid (KeptC w w.heap.size [.int .i64 ac, .int .i64 ar, .int .i64 sq, .slice a1 ds.length c1, .int .i64 kd, .int .i64 nc, .int .i64 nr, .int .i64 pc, .int .i64 pr, .int .i64 fc, .int .i64 fr, .string nm, .string vl] w3) := HK2.out.step hb3
  have HA3 : Hid (AccH w.heap.size (.slice (some ⟨w1.heap.size, 0, none⟩) 1 1) [((⟨ac, ar, sq, ds, kd, nc, nr, pc, pr, fc, fr, nm, vl⟩ : Ch), .slice a2 ds.length c2)] w3) := HA2.out.below hb3
  have HI3 : Hid (OwnI w.heap.size w3 (.slice a3 (tickR kn ar).length c3) (tickR kn ar)) := ho3.low (by omega)
  have hz3 : w1.heap.size < w3.heap.size := Nat.lt_of_lt_of_le hz2 hb3.size
  clear ho3 hb3 HA2 HK2 HK1
  go_wp2_with fail
  refine (held_any _ room D F _ (HL.out.below HK3.out.2.2).v (by omega)).mono ?_
  rintro e W4 ⟨vw, EW, rfl, hAw, hpw, hsw, hb4⟩
  have HEW : Hid (EW.map Prod.fst = H) := srtC_ext hsw HP.out.2 (hpw.trans HP.out.1)
  obtain ⟨aw, cw, ew⟩ := hAw.own.form
  subst ew
  have HAw : Hid (AccH w3.heap.size (.slice aw EW.length cw) EW W4) := hAw
  have hb04 : Below w.heap.size w W4 := HK3.out.2.2.trans (hb4.mono HK3.out.2.2.size)
  have HR0 : Hid (RelM F w bb room mb D (⟨ac, ar, sq, ds, kd, nc, nr, pc, pr, fc, fr, nm, vl⟩ : Ch) W4 w3.heap.size H (tickR kn ar) (.slice a3 (tickR kn ar).length c3) (.slice (some ⟨w1.heap.size, 0, none⟩) 1 1) W4) :=
    ⟨⟨tickR kn ar, [], (fun _ => true), H.length, _, D, RunS.start HTk.out, HI3.out.below hb4, HA3.out.below hb4, rfl, HL.out.below hb04, by rw [filter_all]; exact HP.out.1⟩, KeepsS.refl _ _, fun k e => .inl (by cases e; exact hz3), Touch.of_below hb04⟩
  have hEl : EW.length ≤ 4095 := by have := congrArg List.length HEW.out; simp at this; omega
  have hz34 : w3.heap.size ≤ W4.heap.size := hb4.size
  have hw3 : w.heap.size ≤ w3.heap.size := HK3.out.2.2.size
  clear hAw hpw hsw hb4 hb04 HI3 HA3 HK3 hz3
  go_wp2
  go_step3
  go_wp2
  go_loopw [1, 7] (fun kv2 ov wr => Hid (RelM F w bb room mb D (⟨ac, ar, sq, ds, kd, nc, nr, pc, pr, fc, fr, nm, vl⟩ : Ch) W4 w3.heap.size H (tickR kn ar) kv2 ov wr)) (fun _ _ wr => mapN wr mb)
  case atStart => exact HR0
  case round =>
    obtain ⟨⟨kn2, O, p, n, E, D2, hrun, hik, hacc, hE, hbuf, hpm⟩, hkeep, hfar, htouch⟩ := hrel.out
    have HRun : Hid (RunS (tickR kn ar) H kn2 O p n) := hrun
    have HE : Hid (E.map Prod.fst = (⟨ac, ar, sq, ds, kd, nc, nr, pc, pr, fc, fr, nm, vl⟩ : Ch) :: O) := hE
    have HPm : Hid ((D2.map Prod.fst).Perm (H.filter p)) := hpm
    obtain ⟨ak, ck, ek⟩ := hik.form
    subst ek
    obtain ⟨ao, co, eo⟩ := hacc.own.form
    subst eo
    have HFar : Hid (∀ k, (Value.slice ao E.length co).ownBlock = some k → k < w3.heap.size ∨ W4.heap.size ≤ k) := hfar
    have HI0 : Hid (RelI F w bb room mb W4 w3.heap.size (.slice ak kn2.length ck) kn2 (.slice ao E.length co) E D2 wr) := ⟨hik, hacc, hbuf, hkeep, htouch⟩
    have hmN : mapN wr mb = D2.length := hbuf.hmap.n
    have hEl2 : E.length + D2.length ≤ 4096 + D2.length := by
      have h1 := congrArg List.length hE
      have h2 := hrun.eq
      simp at h1
      have h3 := runL_len H.length (tickR kn ar) H
      rw [h2] at h3
      simp at h3
      omega
    clear hrun hE hpm hik hacc hfar hbuf hkeep htouch hrel
    go_wp2
    go_loopw [1, 7, 10, 21] (fun kv2 ov2 _ iv wr => ∃ i : Nat, i ≤ EW.length ∧ kv2 = .slice ak kn2.length ck ∧ ov2 = .slice ao E.length co ∧ iv = .int .i64 (i : Int) ∧ Hid (∀ j (hj : j < H.length), j < i → readyB kn2 H[j] = false) ∧ Hid (RelI F w bb room mb W4 w3.heap.size (.slice ak kn2.length ck) kn2 (.slice ao E.length co) E D2 wr)) (fun _ _ _ iv _ => EW.length - (intOf iv).toNat)
    case atStart => exact ⟨0, Nat.zero_le _, rfl, rfl, rfl, fun j _ h => absurd h (Nat.not_lt_zero _), HI0⟩
    case round =>
      obtain ⟨i, hi, rfl, rfl, rfl, HN, HI⟩ := hrel
      by_cases hlt : i < EW.length
      · have HAr : Hid (AccH w3.heap.size (.slice aw EW.length cw) EW wr) := HAw.out.keep HI.out.keep.1 (fun k h1 h2 => HI.out.keep.2 k ⟨h1, h2⟩)
        obtain ⟨g, cap, ev, hcl⟩ := OwnH.at HAr.out.own hlt
        cases ev
        have hxi : H[i]'(by have := congrArg List.length HEW.out; simp at this; omega) = EW[i].1 := by simp [← HEW.out]
        obtain ⟨a5, c5, e5⟩ := (HAr.out.dep EW[i] (List.getElem_mem hlt)).1.form
        have HXi : Hid (∃ hh : i < H.length, H[i] = EW[i].1) := ⟨by have := congrArg List.length HEW.out; simp at this; omega, hxi⟩
        have HXd : Hid (OwnI w3.heap.size wr EW[i].2 EW[i].1.deps ∧ Sized EW[i].1 ∧ EW[i].1.deps.length ≤ 17592186044416) := HAr.out.dep EW[i] (List.getElem_mem hlt)
        clear hxi
        generalize EW[i] = x at *
        obtain ⟨⟨ac2, ar2, sq2, ds2, kd2, nc2, nr2, pc2, pr2, fc2, fr2, nm2, vl2⟩, dv2⟩ := x
        simp only at e5
        subst e5
        obtain ⟨k_0, k_1, k_2, k_3, k_4, k_5, k_6, k_7, k_8, k_9, k_10, k_11, k_12⟩ := chAll hcl
        simp only at k_0 k_1 k_2 k_3 k_4 k_5 k_6 k_7 k_8 k_9 k_10 k_11 k_12
        have i1 : (i : Int) < (EW.length : Int) := by omega
        have i0 : (0 : Int) ≤ (i : Int) := by omega
        clear hcl
        go_wp2_with fail
        obtain ⟨nb, enb⟩ : ∃ b, b = wr.heap.size := ⟨_, rfl⟩
        obtain ⟨W5, eW5⟩ : ∃ X, X = wr.alloc (.cells #[.int .i64 ac2, .int .i64 ar2, .int .i64 sq2, .slice a5 ds2.length c5, .int .i64 kd2, .int .i64 nc2, .int .i64 nr2, .int .i64 pc2, .int .i64 pr2, .int .i64 fc2, .int .i64 fr2, .string nm2, .string vl2] 35) := ⟨_, rfl⟩
        have hb5 : Below wr.heap.size wr W5 := by rw [eW5]; exact (Below.refl _ _).alloc (Nat.le_refl _) _
        have HI5 : Hid (RelI F w bb room mb W4 w3.heap.size (.slice ak kn2.length ck) kn2 (.slice ao E.length co) E D2 W5) := HI.out.below hb5
        have HBx5 : Hid (HasB W5 nb #[.int .i64 ac2, .int .i64 ar2, .int .i64 sq2, .slice a5 ds2.length c5, .int .i64 kd2, .int .i64 nc2, .int .i64 nr2, .int .i64 pc2, .int .i64 pr2, .int .i64 fc2, .int .i64 fr2, .string nm2, .string vl2]) := by rw [eW5, enb]; exact heap_alloc_new _ _
        have HRw : Hid (∀ k, (Value.slice ao E.length co).ownBlock = some k → k < nb) := fun k e => by rw [enb]; exact (World.ownsRow.lt HI.out.acc.own k e).2
        have HNb : Hid (w.heap.size ≤ nb) := by rw [enb]; exact HI.out.acc.le
        have HX5 : Hid (OwnI w.heap.size W5 (.slice a5 ds2.length c5) ds2) := (HXd.out.1.below hb5).low hw3
        have HSx : Hid (Sized (⟨ac2, ar2, sq2, ds2, kd2, nc2, nr2, pc2, pr2, fc2, fr2, nm2, vl2⟩ : Ch) ∧ ds2.length ≤ 17592186044416) := HXd.out.2
        rw [← eW5, ← enb]
        clear eW5 hb5 enb k_0 k_1 k_2 k_3 k_4 k_5 k_6 k_7 k_8 k_9 k_10 k_11 k_12 HAr HXd HI
        refine (isReady_any ac2 ar2 sq2 (.slice a5 ds2.length c5) kd2 nc2 nr2 pc2 pr2 fc2 fr2 nm2 vl2 ds2 _ kn2 _ (HI5.out.is HRun.out.ok) (OwnI.isI HX5.out HSx.out.2) HRun.out.ok).mono ?_
        rintro e w6 ⟨rfl, hb6⟩
        have HI6 : Hid (RelI F w bb room mb W4 w3.heap.size (.slice ak kn2.length ck) kn2 (.slice ao E.length co) E D2 w6) := HI5.out.below hb6
        have HBx6 : Hid (HasB w6 nb #[.int .i64 ac2, .int .i64 ar2, .int .i64 sq2, .slice a5 ds2.length c5, .int .i64 kd2, .int .i64 nc2, .int .i64 nr2, .int .i64 pc2, .int .i64 pr2, .int .i64 fc2, .int .i64 fr2, .string nm2, .string vl2]) := HBx5.out.below hb6
        have HX6 : Hid (OwnI w.heap.size w6 (.slice a5 ds2.length c5) ds2) := HX5.out.below hb6
        obtain ⟨rb, erb⟩ : ∃ b, b = readyB kn2 (⟨ac2, ar2, sq2, ds2, kd2, nc2, nr2, pc2, pr2, fc2, fr2, nm2, vl2⟩ : Ch) := ⟨_, rfl⟩
        rw [← erb]
        have HRb : Hid (rb = readyB kn2 (⟨ac2, ar2, sq2, ds2, kd2, nc2, nr2, pc2, pr2, fc2, fr2, nm2, vl2⟩ : Ch)) := erb
        clear erb hb6 HI5 HBx5 HX5
        cases rb
        · have HN2 : Hid (∀ j (hj : j < H.length), j < i + 1 → readyB kn2 H[j] = false) := fun j hj hlt2 => by
            by_cases hji : j < i
            · exact HN.out j hj hji
            · obtain ⟨hh, ex⟩ := HXi.out
              obtain rfl : j = i := by omega
              rw [ex]
              exact HRb.out.symm
          go_wp2
          go_roundw
          case rel => exact ⟨i + 1, by omega, rfl, rfl, by go_num, HN2, HI6⟩
          case measure => simp [intOf]; omega
        · have HFd : Hid (H.find? (readyB kn2) = some (⟨ac2, ar2, sq2, ds2, kd2, nc2, nr2, pc2, pr2, fc2, fr2, nm2, vl2⟩ : Ch)) := by
            obtain ⟨hh, ex⟩ := HXi.out
            have := find_at hh HN.out (by rw [ex]; exact HRb.out.symm)
            rw [ex] at this
            exact this
          clear HN HXi
          obtain ⟨k_0, k_1, k_2, k_3, k_4, k_5, k_6, k_7, k_8, k_9, k_10, k_11, k_12⟩ := row_cells HBx6.out
          obtain ⟨W7, eW7⟩ : ∃ X, X = w6.alloc (.cells #[.int .i64 ac2, .int .i64 ar2, .int .i64 sq2, .slice a5 ds2.length c5, .int .i64 kd2, .int .i64 nc2, .int .i64 nr2, .int .i64 pc2, .int .i64 pr2, .int .i64 fc2, .int .i64 fr2, .string nm2, .string vl2] 35) := ⟨_, rfl⟩
          have hb7 : Below w6.heap.size w6 W7 := by rw [eW7]; exact (Below.refl _ _).alloc (Nat.le_refl _) _
          have HC7 : Hid (HasB W7 w6.heap.size #[.int .i64 ac2, .int .i64 ar2, .int .i64 sq2, .slice a5 ds2.length c5, .int .i64 kd2, .int .i64 nc2, .int .i64 nr2, .int .i64 pc2, .int .i64 pr2, .int .i64 fc2, .int .i64 fr2, .string nm2, .string vl2]) := by rw [eW7]; exact heap_alloc_new _ _
          have HI7 : Hid (RelI F w bb room mb W4 w3.heap.size (.slice ak kn2.length ck) kn2 (.slice ao E.length co) E D2 W7) := HI6.out.below hb7
          have HBx7 : Hid (HasB W7 nb #[.int .i64 ac2, .int .i64 ar2, .int .i64 sq2, .slice a5 ds2.length c5, .int .i64 kd2, .int .i64 nc2, .int .i64 nr2, .int .i64 pc2, .int .i64 pr2, .int .i64 fc2, .int .i64 fr2, .string nm2, .string vl2]) := HBx6.out.below hb7
          have HX7 : Hid (OwnI w.heap.size W7 (.slice a5 ds2.length c5) ds2) := HX6.out.below hb7
          have hE4 : E.length ≤ 4096 := by omega
          clear hb7 HI6 HX6
          go_wp2_with (at_builtin; rw [← eW7]; refine wpList_appH rfl _ _ rfl w.heap.size (.slice ao E.length co) E rfl HI7.out.acc.own w6.heap.size (⟨ac2, ar2, sq2, ds2, kd2, nc2, nr2, pc2, pr2, fc2, fr2, nm2, vl2⟩ : Ch) a5 ds2.length c5 rfl HC7.out hE4 HI7.out.acc.le ?_; clear eW7; intro g8 c8 W8 hown hgrow hat hlt8; have HI8 : Hid (RelI F w bb room mb W4 w3.heap.size (.slice ak kn2.length ck) kn2 (.slice (some ⟨g8, 0, none⟩) (E.length + 1) c8) (E ++ [((⟨ac2, ar2, sq2, ds2, kd2, nc2, nr2, pc2, pr2, fc2, fr2, nm2, vl2⟩ : Ch), .slice a5 ds2.length c5)]) D2 W8) := HI7.out.push HFar.out HFl.out hown hgrow HX7.out HSx.out; have HFar8 : Hid (∀ k, (Value.slice (some ⟨g8, 0, none⟩) (E.length + 1) c8).ownBlock = some k → k < w3.heap.size ∨ W4.heap.size ≤ k) := far_next hat HFar.out HI7.out.keep.1; have HBx8 : Hid (HasB W8 nb #[.int .i64 ac2, .int .i64 ar2, .int .i64 sq2, .slice a5 ds2.length c5, .int .i64 kd2, .int .i64 nc2, .int .i64 nr2, .int .i64 pc2, .int .i64 pr2, .int .i64 fc2, .int .i64 fr2, .string nm2, .string vl2]) := (hgrow.block nb (Array.getElem?_eq_some_iff.1 HBx7.out).1 (fun e => by have := HRw.out nb e.symm; omega)).trans HBx7.out; clear hown hgrow hat hlt8 k_0 k_1 k_2 k_3 k_4 k_5 k_6 k_7 k_8 k_9 k_10 k_11 k_12 HI7 HC7 HBx7 HX7; obtain ⟨k_0, k_1, k_2, k_3, k_4, k_5, k_6, k_7, k_8, k_9, k_10, k_11, k_12⟩ := row_cells HBx8.out)
          refine (with_any ac2 ar2 sq2 (.slice a5 ds2.length c5) kd2 nc2 nr2 pc2 pr2 fc2 fr2 nm2 vl2 _ kn2 _ (HI8.out.is HRun.out.ok)).mono ?_
          rintro e w9 ⟨v9, rfl, ho9, hb9⟩
          obtain ⟨a9, c9, e9⟩ := ho9.form
          subst e9
          have HI9 : Hid (RelI F w bb room mb W4 w3.heap.size (.slice a9 (tickR kn2 ar2).length c9) (tickR kn2 ar2) (.slice (some ⟨g8, 0, none⟩) (E.length + 1) c8) (E ++ [((⟨ac2, ar2, sq2, ds2, kd2, nc2, nr2, pc2, pr2, fc2, fr2, nm2, vl2⟩ : Ch), .slice a5 ds2.length c5)]) D2 w9) := (HI8.out.below hb9).clock (ho9.low HI8.out.acc.le)
          have HBx9 : Hid (HasB w9 nb #[.int .i64 ac2, .int .i64 ar2, .int .i64 sq2, .slice a5 ds2.length c5, .int .i64 kd2, .int .i64 nc2, .int .i64 nr2, .int .i64 pc2, .int .i64 pr2, .int .i64 fc2, .int .i64 fr2, .string nm2, .string vl2]) := HBx8.out.below hb9
          have HE2 : Hid ((E ++ [((⟨ac2, ar2, sq2, ds2, kd2, nc2, nr2, pc2, pr2, fc2, fr2, nm2, vl2⟩ : Ch), Value.slice a5 ds2.length c5)]).map Prod.fst = (⟨ac, ar, sq, ds, kd, nc, nr, pc, pr, fc, fr, nm, vl⟩ : Ch) :: (O ++ [(⟨ac2, ar2, sq2, ds2, kd2, nc2, nr2, pc2, pr2, fc2, fr2, nm2, vl2⟩ : Ch)])) := by
            show _ = _
            rw [List.map_append, HE.out]
            rfl
          clear k_0 k_1 k_2 k_3 k_4 k_5 k_6 k_7 k_8 k_9 k_10 k_11 k_12 ho9 hb9 HI8 HBx8
          obtain ⟨k_0, k_1, k_2, k_3, k_4, k_5, k_6, k_7, k_8, k_9, k_10, k_11, k_12⟩ := row_cells HBx9.out
          have lc1 := HI9.out.buf.cell1
          go_wp2_with fail
          clear k_0 k_1 k_2 k_3 k_4 k_5 k_6 k_7 k_8 k_9 k_10 k_11 k_12 lc1
          refine wp_region_held_drew (S := fun W' => HasB W' nb #[.int .i64 ac2, .int .i64 ar2, .int .i64 sq2, .slice a5 ds2.length c5, .int .i64 kd2, .int .i64 nc2, .int .i64 nr2, .int .i64 pc2, .int .i64 pr2, .int .i64 fc2, .int .i64 fr2, .string nm2, .string vl2] ∧ W'.cell? ⟨bb, 1, none⟩ = some (.map (some mb))) (by kernel_rfl) ⟨HBx9.out, HI9.out.buf.cell1⟩ (fun hHeld => ?_)
          obtain ⟨Ud3u0, eW⟩ : ∃ X, X = w9.drew := ⟨_, rfl⟩
          have hb : Below w9.heap.size w9 Ud3u0 := by rw [eW]; exact (Below.refl _ _).drew
          replace HI9 : Hid (RelI F w bb room mb W4 w3.heap.size (.slice a9 (tickR kn2 ar2).length c9) (tickR kn2 ar2) (.slice (some ⟨g8, 0, none⟩) (E.length + 1) c8) (E ++ [((⟨ac2, ar2, sq2, ds2, kd2, nc2, nr2, pc2, pr2, fc2, fr2, nm2, vl2⟩ : Ch), .slice a5 ds2.length c5)]) D2 Ud3u0) := HI9.out.below hb
          rw [← eW] at hHeld ⊢
          clear eW hb
          refine wpAnyH_take (i := 0) (oi := ⟨some 35, _, _, _, _, _⟩) (v := ?vd3ux0) rfl (by kernel_rfl) (by kernel_rfl) (by kernel_rfl) (fun _ _ _ h => h) (Or.inl ⟨by rfl, ?hyd3ux0⟩) hHeld ?restd3ux0
          case hyd3ux0 => (intro w _; go_simp; try with_reducible rfl)
          simp only [Act.put, List.setIfInBounds_toArray, List.set_cons_zero, List.set_cons_succ]
          refine wpAnyH_take (i := 1) (oi := ⟨some 36, _, _, _, _, _⟩) (v := ?vd3ux1) rfl (by kernel_rfl) (by kernel_rfl) (by kernel_rfl) (fun _ _ _ h => h) (Or.inl ⟨by rfl, ?hyd3ux1⟩) hHeld ?restd3ux1
          case hyd3ux1 => (intro w hSw; (try dsimp only at hSw); obtain ⟨hk, hc1⟩ := hSw; obtain ⟨k_0, k_1, k_2, k_3, k_4, k_5, k_6, k_7, k_8, k_9, k_10, k_11, k_12⟩ := row_cells hk; go_simp; try with_reducible rfl)
          simp only [Act.put, List.setIfInBounds_toArray, List.set_cons_zero, List.set_cons_succ]
          refine wpAnyH_take (i := 2) (oi := ⟨some 37, _, _, _, _, _⟩) (v := ?vd3ux2) rfl (by kernel_rfl) (by kernel_rfl) (by kernel_rfl) (fun _ _ _ h => h) (Or.inl ⟨by rfl, ?hyd3ux2⟩) hHeld ?restd3ux2
          case hyd3ux2 => (intro w _; go_simp; try with_reducible rfl)
          simp only [Act.put, List.setIfInBounds_toArray, List.set_cons_zero, List.set_cons_succ]
          refine wpAnyH_take (i := 3) (oi := ⟨some 38, _, _, _, _, _⟩) (v := ?vd3ux3) rfl (by kernel_rfl) (by kernel_rfl) (by kernel_rfl) (fun _ _ _ h => h) (Or.inl ⟨by rfl, ?hyd3ux3⟩) hHeld ?restd3ux3
          case hyd3ux3 => (intro w hSw; (try dsimp only at hSw); obtain ⟨hk, hc1⟩ := hSw; obtain ⟨k_0, k_1, k_2, k_3, k_4, k_5, k_6, k_7, k_8, k_9, k_10, k_11, k_12⟩ := row_cells hk; go_simp; try with_reducible rfl)
          simp only [Act.put, List.setIfInBounds_toArray, List.set_cons_zero, List.set_cons_succ]
          refine wpAnyH_take (i := 4) (oi := ⟨some 39, _, _, _, _, _⟩) (v := ?vd3ux4) rfl (by kernel_rfl) (by kernel_rfl) (by kernel_rfl) (fun _ _ _ h => h) (Or.inl ⟨by rfl, ?hyd3ux4⟩) hHeld ?restd3ux4
          case hyd3ux4 => (intro w hSw; (try dsimp only at hSw); obtain ⟨hk, hc1⟩ := hSw; obtain ⟨k_0, k_1, k_2, k_3, k_4, k_5, k_6, k_7, k_8, k_9, k_10, k_11, k_12⟩ := row_cells hk; go_simp; try with_reducible rfl)
          simp only [Act.put, List.setIfInBounds_toArray, List.set_cons_zero, List.set_cons_succ]
          refine wpAnyH_ready (rs := [5]) (by kernel_rfl) (by simp) ?_
          refine AllReadyH.cons (o := ⟨some 40, _, _, _, _, _⟩) rfl (fun K hK => ?_) AllReadyH.nil
          go_simp
          refine (placeOf_any ac2 ar2 sq2 (.slice a5 ds2.length c5) kd2 nc2 nr2 pc2 pr2 fc2 fr2 nm2 vl2 _).mono ?_
          rintro e Ud3u1 ⟨rfl, hb⟩
          (try go_wp2_with fail)
          refine hK.out _ _ (⟨(hb.block _ (Array.getElem?_eq_some_iff.1 hHeld.1).1).trans hHeld.1, (hb.cell (p := ⟨bb, 1, none⟩) (cell_lt hHeld.2)).trans hHeld.2⟩) (fun hHeld2 => ?_)
          clear hK K hHeld
          have hHeld := hHeld2
          clear hHeld2
          (try simp only [Act.put, List.setIfInBounds_toArray, List.set_cons_zero, List.set_cons_succ])
          replace HI9 : Hid (RelI F w bb room mb W4 w3.heap.size (.slice a9 (tickR kn2 ar2).length c9) (tickR kn2 ar2) (.slice (some ⟨g8, 0, none⟩) (E.length + 1) c8) (E ++ [((⟨ac2, ar2, sq2, ds2, kd2, nc2, nr2, pc2, pr2, fc2, fr2, nm2, vl2⟩ : Ch), .slice a5 ds2.length c5)]) D2 Ud3u1) := HI9.out.below hb
          clear hb
          refine wpAnyH_ready (rs := [6]) (by kernel_rfl) (by simp) ?_
          refine AllReadyH.cons (o := ⟨none, _, _, _, _, _⟩) rfl (fun K hK => ?_) AllReadyH.nil
          obtain ⟨Ud3u2, hdl, hg2, hz2, hor⟩ := drop_pl HI9.out.buf.hmap ar2 sq2 0
          have HM : Hid (RelM F w bb room mb D (⟨ac, ar, sq, ds, kd, nc, nr, pc, pr, fc, fr, nm, vl⟩ : Ch) W4 w3.heap.size H (tickR kn ar) (.slice a9 (tickR kn2 ar2).length c9) (.slice (some ⟨g8, 0, none⟩) (E.length + 1) c8) Ud3u2 ∧ mapN Ud3u2 mb < D2.length) := rel_drop (c2 := (⟨ac2, ar2, sq2, ds2, kd2, nc2, nr2, pc2, pr2, fc2, fr2, nm2, vl2⟩ : Ch)) HI9.out hw3 HFl.out hor hg2 HRun.out HPl.out.1 HPl.out.2 HFd.out HPm.out HE2.out HFar8.out
          have hk1 : HasB Ud3u2 nb #[.int .i64 ac2, .int .i64 ar2, .int .i64 sq2, .slice a5 ds2.length c5, .int .i64 kd2, .int .i64 nc2, .int .i64 nr2, .int .i64 pc2, .int .i64 pr2, .int .i64 fc2, .int .i64 fr2, .string nm2, .string vl2] := (hg2.block _ (Array.getElem?_eq_some_iff.1 hHeld.1).1 (fun e => by have h1 := HFl.out mb HI9.out.buf.fm; have h2 := HNb.out; cases e; omega)).trans hHeld.1
          have hc1 : Ud3u2.cell? ⟨bb, 1, none⟩ = some (.map (some mb)) := HM.out.1.cell1
          clear hor hg2 hz2
          go_simp
          refine hK.out _ _ (⟨hk1, hc1⟩) (fun hHeld2 => ?_)
          clear hK K hHeld
          have hHeld := hHeld2
          clear hHeld2
          (try simp only [Act.put, List.setIfInBounds_toArray, List.set_cons_zero, List.set_cons_succ])
          clear hdl hk1 hc1 HI9
          refine wpAnyH_done (by kernel_rfl) ?_ _
          clear hHeld
          go_wp2
          go_roundw
          case rel => exact HM.out.1
          case measure => rw [hmN]; exact HM.out.2
      · have HNo : Hid (H.find? (readyB kn2) = none) := by
          show _ = _
          rw [List.find?_eq_none]
          intro x hx
          obtain ⟨j, hj, rfl⟩ := List.getElem_of_mem hx
          have := HN.out j hj (by have := congrArg List.length HEW.out; simp at this; omega)
          simp [this]
        have HRl : Hid (RelP F w bb room mb (⟨ac, ar, sq, ds, kd, nc, nr, pc, pr, fc, fr, nm, vl⟩ : Ch) H (tickR kn ar) (.slice ao E.length co) wr) := by
          have hdn := HRun.out.done HNo.out
          refine ⟨E, D2, HI.out.acc, by rw [HE.out, hdn], HI.out.buf, by rw [hdn]; exact HPm.out, HI.out.touch⟩
        go_wp2
        rw [Exit.noGoto_ret]
        go_ret
        exact ⟨_, rfl, HRl.out⟩

end Go.Proofs.Ythndgmnckpimmaa
