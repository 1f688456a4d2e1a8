/- What put does with a log. -/
import Derived.Test.YtngldpabfpcaiaaGreatTk
import Derived.Test.YtngldpabfpcaiaaGreatOlT
import Derived.Deep.AppendLies
namespace Go.Proofs.YtngldpabfpcaiaaGreat
open Go.RowKit
set_option linter.unusedVariables false
set_option linter.unusedSimpArgs false

def TouchW (F : Nat → Prop) (w W : World) : Prop := Touch F w W
theorem TouchW.below {F : Nat → Prop} {w W W' : World} (h : TouchW F w W) (hb : Below W.heap.size W W') : TouchW F w W' := Touch.trans h (Touch.of_below (F := F) hb) (fun j h => .inl h)
theorem TouchW.grown {F : Nat → Prop} {w W W' : World} {row : Option Nat} (h : TouchW F w W) (hg : W.grownBy W' row) (hr : ∀ k, row = some k → F k) : TouchW F w W' := Touch.trans h (Touch.of_grown (F := F) hg (fun k e _ => hr k e)) (fun j h => .inl h)
theorem TouchW.size {F : Nat → Prop} {w W : World} (h : TouchW F w W) : w.heap.size ≤ W.heap.size := Touch.size h

/-- What put leaves. -/
def PutP (F : Nat → Prop) (lb : Nat) (room : Int) (L : List Ch) (c : Ch) (w : World) (e : Ending) (w' : World) : Prop := (∃ v, e = .returned v) ∧ ∃ F', LogOk F' w' lb room (putC L c) ∧ (∀ k, F k → F' k) ∧ (∀ k, F' k → F k ∨ w.heap.size ≤ k) ∧ Touch F w w'
/-- The same, and the map stays where it was, what it held stays, and nothing else but blocks of Tw changes. -/
def PutM (F : Nat → Prop) (lb : Nat) (room : Int) (L : List Ch) (c : Ch) (mb : Nat) (D : List (Ch × Value)) (Tw : Nat → Prop) (w : World) (e : Ending) (w' : World) : Prop := (∃ v, e = .returned v) ∧ ∃ F', (∃ ord own dv, LogIs F' w' lb room (putC L c) mb ord own (D ++ [(c, dv)])) ∧ (∀ k, F k → F' k) ∧ (∀ k, F' k → F k ∨ w.heap.size ≤ k) ∧ Touch Tw w w'

theorem LogR.put_is {F : Nat → Prop} {W : World} {lb : Nat} {room : Int} {mb : Nat} {ord dv : Value} {own : List Value} {D : List (Ch × Value)} {L : List Ch} {c : Ch} {i r : Nat} (h : LogR F W lb room mb ord own (D ++ [(c, dv)]) ((stL L).take i ++ (c.ac, c.ar) :: (stL L).drop i) (fun j => if r = j then stL (ofR L (r : Int)) ++ [(c.ac, c.ar)] else stL (ofR L (j : Int))))
    (hm : ∀ c, c ∈ L ↔ ∃ dv, (c, dv) ∈ D) (hi : i ≤ (stL L).length) (h1 : ∀ j (h : j < (stL L).length), j < i → lessS (stL L)[j].1 (stL L)[j].2 c.ac c.ar = true) (h2 : ∀ j (h : j < (stL L).length), i ≤ j → lessS (stL L)[j].1 (stL L)[j].2 c.ac c.ar = false)
    (hs : Srt L) (hn : ∀ d ∈ L, ¬ (d.ac = c.ac ∧ d.ar = c.ar)) (hr : c.ar = (r : Int)) (hl : ofR (putC L c) (r : Int) = ofR L (r : Int) ++ [c]) : ∃ ord own dv, LogIs F W lb room (putC L c) mb ord own (D ++ [(c, dv)]) := by
  have hi' : i ≤ L.length := by rw [stL_length] at hi; exact hi
  have g : ∀ j (hj : j < L.length), (stL L)[j]'(by rw [stL_length]; exact hj) = (L[j].ac, L[j].ar) := fun j hj => by simp [stL]
  have e1 : putC L c = L.take i ++ c :: L.drop i := by
    refine putC_split i hi' (fun j hj hji => ?_) (fun j hj hji => ?_)
    · have := h1 j (by rw [stL_length]; exact hj) hji
      rw [g j hj] at this
      exact ltB_no this
    · have := h2 j (by rw [stL_length]; exact hj) hji
      rw [g j hj] at this
      exact (ltB_or (a := L[j]) (b := c) (hn _ (List.getElem_mem hj))).resolve_left (fun h => by
        have h' : lessS L[j].ac L[j].ar c.ac c.ar = true := h
        rw [this] at h'; cases h')
  have eO : (stL L).take i ++ (c.ac, c.ar) :: (stL L).drop i = stL (putC L c) := by
    rw [e1, stL_append]
    unfold stL
    rw [List.map_cons, List.map_take, List.map_drop]
  have eP : (fun j : Nat => if r = j then stL (ofR L (r : Int)) ++ [(c.ac, c.ar)] else stL (ofR L (j : Int))) = fun j : Nat => stL (ofR (putC L c) (j : Int)) := by
    funext j
    by_cases hj : r = j
    · subst hj
      rw [if_pos rfl, hl, stL_append]
      rfl
    · rw [if_neg hj, ofR_put hs, if_neg (by rw [hr]; omega)]
  rw [eO, eP] at h
  refine ⟨ord, own, dv, h.is fun x => ?_⟩
  rw [putC_mem]
  constructor
  · rintro (rfl | hx)
    · exact ⟨dv, by simp⟩
    · obtain ⟨d, hd⟩ := (hm x).1 hx
      exact ⟨d, by simp [hd]⟩
  · rintro ⟨d, hd⟩
    rcases List.mem_append.1 hd with hd | hd
    · exact .inr ((hm x).2 ⟨d, hd⟩)
    · simp at hd
      exact .inl hd.1

set_option maxRecDepth 100000 in
set_option maxHeartbeats 8000000 in
theorem put_mb (F : Nat → Prop) (lb : Nat) (room : Int) (L : List Ch) (mb : Nat) (ord : Value) (own : List Value) (D : List (Ch × Value)) (ac : Int) (r : Nat) (sq : Int) (dv : Value) (kd nc nr pc pr fc fr : Int) (nm vl : ByteArray) (ds : List Int) (w : World)
    (h : LogIs F w lb room L mb ord own D) (hdv : IsI w dv ds) (hsz : Sized (⟨ac, (r : Int), sq, ds, kd, nc, nr, pc, pr, fc, fr, nm, vl⟩ : Ch)) (hl : L.length < 4096) (hn : ∀ d ∈ L, ¬ (d.ac = ac ∧ d.ar = (r : Int))) (hs : Srt L) (hr64 : r < 64) (hlast : ofR (putC L (⟨ac, (r : Int), sq, ds, kd, nc, nr, pc, pr, fc, fr, nm, vl⟩ : Ch)) (r : Int) = ofR L (r : Int) ++ [(⟨ac, (r : Int), sq, ds, kd, nc, nr, pc, pr, fc, fr, nm, vl⟩ : Ch)]) (Tw : Nat → Prop) (htl : Tw lb) (htm : Tw mb) (hto : ∀ j (h : j < own.length) k, own[j].ownBlock = some k → Tw k) (htd : ∀ k, ord.ownBlock = some k → Tw k) :
    Calls Tryz.prog 22 #[.pointer (some ⟨lb, 0, none⟩), .agg #[.int .i64 ac, .int .i64 (r : Int), .int .i64 sq, dv, .int .i64 kd, .int .i64 nc, .int .i64 nr, .int .i64 pc, .int .i64 pr, .int .i64 fc, .int .i64 fr, .string nm, .string vl]] w fun e w' => PutM F lb room L (⟨ac, (r : Int), sq, ds, kd, nc, nr, pc, pr, fc, fr, nm, vl⟩ : Ch) mb D Tw w e w' := by
  obtain ⟨i0, hi, hz0, hz1, hz2⟩ := info_parts S.infoStamp
  obtain ⟨a0, c0, e0⟩ := hdv.form
  subst e0
  have hr : r < own.length := by rw [h.len]; exact hr64
  obtain ⟨W0, eW⟩ : ∃ X, X = w.alloc (.cells #[.int .i64 ac, .int .i64 (r : Int), .int .i64 sq, .slice a0 ds.length c0, .int .i64 kd, .int .i64 nc, .int .i64 nr, .int .i64 pc, .int .i64 pr, .int .i64 fc, .int .i64 fr, .string nm, .string vl] 38) := ⟨_, rfl⟩
  have hb : Below w.heap.size w W0 := by rw [eW]; exact (Below.refl _ _).alloc (Nat.le_refl _) _
  have HK : Hid (W0.heap[w.heap.size]? = some (.cells #[.int .i64 ac, .int .i64 (r : Int), .int .i64 sq, .slice a0 ds.length c0, .int .i64 kd, .int .i64 nc, .int .i64 nr, .int .i64 pc, .int .i64 pr, .int .i64 fc, .int .i64 fr, .string nm, .string vl] 38)) := by rw [eW]; exact heap_alloc_new w _
  have HS0 : Hid (w.heap.size < W0.heap.size) := by rw [eW]; show _ < _; simp
  have HF : Hid (∀ k, F k → k < w.heap.size) := h.lt
  have HFL : Hid (F lb) := h.fl
  have HFo : Hid (∀ k, own[r].ownBlock = some k → F k) := h.fr r hr
  have HFord : Hid (∀ k, ord.ownBlock = some k → F k) := h.fo
  have HM : Hid (∀ c, c ∈ L ↔ ∃ dv, (c, dv) ∈ D) := h.hmem
  have HTl : Hid (Tw lb) := htl
  have HTm : Hid (Tw mb) := htm
  have HTo : Hid (∀ k, own[r].ownBlock = some k → Tw k) := hto r hr
  have HTd : Hid (∀ k, ord.ownBlock = some k → Tw k) := htd
  have HR : Hid (LogR F W0 lb room mb ord own D (stL L) (fun j => stL (ofR L (j : Int)))) := h.raw.below hb
  have HT : Hid (TouchW Tw w W0) := Touch.of_below hb
  have HI : Hid (IsI W0 (.slice a0 ds.length c0) ds) := hdv.below hb
  have HSZ : Hid (Sized (⟨ac, (r : Int), sq, ds, kd, nc, nr, pc, pr, fc, fr, nm, vl⟩ : Ch) ∧ ds.length ≤ 17592186044416) := ⟨hsz, by obtain ⟨_, _, _, _, hl, _⟩ := hdv; exact hl⟩
  have HN : Hid (getD D ac (r : Int) = none) := by
    show List.find? _ _ = _
    rw [List.find?_eq_none]
    intro x hx
    have := hn x.1 ((h.hmem x.1).2 ⟨x.2, hx⟩)
    simpa [isAt] using this
  have HSr : Hid ((stL L).Pairwise fun x y => lessS x.1 x.2 y.1 y.2 = true) := by
    show List.Pairwise _ (List.map _ _)
    rw [List.pairwise_map]
    exact hs
  have HLo : Hid ((stL (ofR L (r : Int))).length ≤ 4096) := by
    show _ ≤ _
    rw [stL_length]
    have := cntR_le L (r : Int)
    unfold cntR at this
    omega
  have HLl : Hid ((stL L).length ≤ 4096) := by show _ ≤ _; rw [stL_length]; omega
  have HLast : Hid (ofR (putC L (⟨ac, (r : Int), sq, ds, kd, nc, nr, pc, pr, fc, fr, nm, vl⟩ : Ch)) (r : Int) = ofR L (r : Int) ++ [(⟨ac, (r : Int), sq, ds, kd, nc, nr, pc, pr, fc, fr, nm, vl⟩ : Ch)]) := hlast
  have HSrt : Hid (Srt L) := hs
  have HNn : Hid (∀ d ∈ L, ¬ (d.ac = ac ∧ d.ar = (r : Int))) := hn
  have q0 : (0 : Int) ≤ (r : Int) := by omega
  have q1 : (r : Int) < 64 := by omega
  clear h hdv hsz hn hs hlast htl htm hto htd
  go_enter Tryz.func22, Tryz.ntmps22
  go_wp2
  rw [← eW]
  clear eW hb
  refine wp_region_held_drew (S := fun W' => W'.heap[w.heap.size]? = some (.cells #[.int .i64 ac, .int .i64 (r : Int), .int .i64 sq, .slice a0 ds.length c0, .int .i64 kd, .int .i64 nc, .int .i64 nr, .int .i64 pc, .int .i64 pr, .int .i64 fc, .int .i64 fr, .string nm, .string vl] 38) ∧ W'.cell? ⟨lb, 1, none⟩ = some (.map (some mb))) (by kernel_rfl) ⟨HK.out, HR.out.cell1⟩ (fun hHeld => ?_)
  obtain ⟨Ua1u0, eW⟩ : ∃ X, X = W0.drew := ⟨_, rfl⟩
  have hb : Below W0.heap.size W0 Ua1u0 := by rw [eW]; exact (Below.refl _ _).drew
  replace HR : Hid (LogR F Ua1u0 lb room mb ord own D (stL L) (fun j => stL (ofR L (j : Int)))) := HR.out.below hb
  replace HT : Hid (TouchW Tw w Ua1u0) := HT.out.below hb
  replace HI : Hid (IsI Ua1u0 (.slice a0 ds.length c0) ds) := HI.out.below hb
  rw [← eW] at hHeld ⊢
  clear eW hb
  refine tkW 0 (some 6) (v := ?_) ?_ hHeld ?_
  rotate_left
  · (intro w _; go_simp; try with_reducible rfl)
  refine tkW 1 (some 7) (v := ?_) ?_ hHeld ?_
  rotate_left
  · (intro w hSw; (try dsimp only at hSw); obtain ⟨hk, hc1⟩ := hSw; obtain ⟨k_0, k_1, k_2, k_3, k_4, k_5, k_6, k_7, k_8, k_9, k_10, k_11, k_12⟩ := row_cells hk; go_simp; try with_reducible rfl)
  refine tkW 2 (some 8) (v := ?_) ?_ hHeld ?_
  rotate_left
  · (intro w _; go_simp; try with_reducible rfl)
  refine tkW 3 (some 9) (v := ?_) ?_ hHeld ?_
  rotate_left
  · (intro w hSw; (try dsimp only at hSw); obtain ⟨hk, hc1⟩ := hSw; obtain ⟨k_0, k_1, k_2, k_3, k_4, k_5, k_6, k_7, k_8, k_9, k_10, k_11, k_12⟩ := row_cells hk; go_simp; try with_reducible rfl)
  refine tkW 4 (some 10) (v := ?_) ?_ hHeld ?_
  rotate_left
  · (intro w _; go_simp; try with_reducible rfl)
  refine tkW 5 (some 11) (v := ?_) ?_ hHeld ?_
  rotate_left
  · (intro w hSw; (try dsimp only at hSw); obtain ⟨hk, hc1⟩ := hSw; obtain ⟨k_0, k_1, k_2, k_3, k_4, k_5, k_6, k_7, k_8, k_9, k_10, k_11, k_12⟩ := row_cells hk; go_simp; try with_reducible rfl)
  refine tkW 6 (some 12) (v := ?_) ?_ hHeld ?_
  rotate_left
  · (intro w hSw; (try dsimp only at hSw); obtain ⟨hk, hc1⟩ := hSw; obtain ⟨k_0, k_1, k_2, k_3, k_4, k_5, k_6, k_7, k_8, k_9, k_10, k_11, k_12⟩ := row_cells hk; go_simp; try with_reducible rfl)
  refine wpAnyH_ready (rs := [7]) (by kernel_rfl) (by simp) ?_
  refine AllReadyH.cons (o := ⟨some 13, _, _, _, _, _⟩) rfl (fun K hK => ?_) AllReadyH.nil
  have hW := (Array.getElem?_eq_some_iff.1 hHeld.1).1
  go_simp
  refine (copyCh_any ac (r : Int) sq (.slice a0 ds.length c0) kd nc nr pc pr fc fr nm vl ds _ HI.out).mono ?_
  rintro e Ua1u1 ⟨v2, rfl, ho, hb⟩
  (try go_wp2_with fail)
  refine hK.out _ _ (⟨(hb.block _ (Array.getElem?_eq_some_iff.1 hHeld.1).1).trans hHeld.1, (hb.cell (p := ⟨lb, 1, none⟩) (cell_lt hHeld.2)).trans hHeld.2⟩) (fun hHeld2 => ?_)
  clear hK K hHeld
  have hHeld := hHeld2
  clear hHeld2
  (try simp only [Act.put, List.setIfInBounds_toArray, List.set_cons_zero, List.set_cons_succ])
  replace HR : Hid (LogR F Ua1u1 lb room mb ord own D (stL L) (fun j => stL (ofR L (j : Int)))) := HR.out.below hb
  replace HT : Hid (TouchW Tw w Ua1u1) := HT.out.below hb
  replace HI : Hid (IsI Ua1u1 (.slice a0 ds.length c0) ds) := HI.out.below hb
  obtain ⟨a2, c2, e2⟩ := ho.form
  subst e2
  have HO : Hid (OwnI 0 Ua1u1 (.slice a2 ds.length c2) ds) := ho.low (Nat.zero_le _)
  have HB2 : Hid (∀ k, (Value.slice a2 ds.length c2).ownBlock = some k → w.heap.size ≤ k) := fun k e => by have h1 := ho.block k e; omega
  clear ho hW
  clear hb
  refine wpAnyH_ready (rs := [8]) (by kernel_rfl) (by simp) ?_
  refine AllReadyH.cons (o := ⟨none, _, _, _, _, _⟩) rfl (fun K hK => ?_) AllReadyH.nil
  obtain ⟨Ua1u2, hst, hm2, hg2⟩ := store_st HR.out.hmap (⟨ac, (r : Int), sq, ds, kd, nc, nr, pc, pr, fc, fr, nm, vl⟩ : Ch) (.slice a2 ds.length c2) HN.out
  have hst2 : (Instr.mapUpdate 73 (.map (some mb)) (.agg #[.int .i64 ac, .int .i64 (r : Int)]) (.agg #[.int .i64 ac, .int .i64 (r : Int), .int .i64 sq, .slice a2 ds.length c2, .int .i64 kd, .int .i64 nc, .int .i64 nr, .int .i64 pc, .int .i64 pr, .int .i64 fc, .int .i64 fr, .string nm, .string vl])).run Tryz.prog Ua1u1 = .ok () Ua1u2 := hst
  clear hst
  have HR1 : Hid (LogR (fun k => F k ∨ (Value.slice a2 ds.length c2).ownBlock = some k) Ua1u2 lb room mb ord own (D ++ [((⟨ac, (r : Int), sq, ds, kd, nc, nr, pc, pr, fc, fr, nm, vl⟩ : Ch), .slice a2 ds.length c2)]) (stL L) (fun j => stL (ofR L (j : Int)))) := HR.out.store hm2 hg2 HO.out HSZ.out
  have HT1 : Hid (TouchW Tw w Ua1u2) := HT.out.grown hg2 (fun k e => by cases e; exact HTm.out)
  have hk1 : Ua1u2.heap[w.heap.size]? = some (.cells #[.int .i64 ac, .int .i64 (r : Int), .int .i64 sq, .slice a0 ds.length c0, .int .i64 kd, .int .i64 nc, .int .i64 nr, .int .i64 pc, .int .i64 pr, .int .i64 fc, .int .i64 fr, .string nm, .string vl] 38) := (hg2.block _ (Array.getElem?_eq_some_iff.1 hHeld.1).1 (fun e => by have h1 := HF.out mb HR.out.fm; cases e; omega)).trans hHeld.1
  have hc1 : Ua1u2.cell? ⟨lb, 1, none⟩ = some (.map (some mb)) := HR1.out.cell1
  go_simp
  refine hK.out _ _ (⟨hk1, hc1⟩) (fun hHeld2 => ?_)
  clear hK K hHeld
  have hHeld := hHeld2
  clear hHeld2
  (try simp only [Act.put, List.setIfInBounds_toArray, List.set_cons_zero, List.set_cons_succ])
  clear HR HT HI HO hst2 hm2 hg2 hk1 hc1
  refine wpAnyH_done (by kernel_rfl) ?_ _
  have HK1 : Hid (Ua1u2.heap[w.heap.size]? = some (.cells #[.int .i64 ac, .int .i64 (r : Int), .int .i64 sq, .slice a0 ds.length c0, .int .i64 kd, .int .i64 nc, .int .i64 nr, .int .i64 pc, .int .i64 pr, .int .i64 fc, .int .i64 fr, .string nm, .string vl] 38)) := hHeld.1
  clear hHeld
  go_wp2
  obtain ⟨ov, eo⟩ : ∃ ov, own[r] = ov := ⟨_, rfl⟩
  have HOV : Hid (S.OwnS 0 Ua1u2 ov (stL (ofR L (r : Int)))) := by rw [← eo]; exact HR1.out.hown r hr
  refine wp_region_held_drew (S := fun W' => W'.heap[w.heap.size]? = some (.cells #[.int .i64 ac, .int .i64 (r : Int), .int .i64 sq, .slice a0 ds.length c0, .int .i64 kd, .int .i64 nc, .int .i64 nr, .int .i64 pc, .int .i64 pr, .int .i64 fc, .int .i64 fr, .string nm, .string vl] 38)) (by kernel_rfl) HK1.out (fun hHeld => ?_)
  obtain ⟨Ub2u0, eW⟩ : ∃ X, X = Ua1u2.drew := ⟨_, rfl⟩
  have hb : Below Ua1u2.heap.size Ua1u2 Ub2u0 := by rw [eW]; exact (Below.refl _ _).drew
  replace HR1 : Hid (LogR (fun k => F k ∨ (Value.slice a2 ds.length c2).ownBlock = some k) Ub2u0 lb room mb ord own (D ++ [((⟨ac, (r : Int), sq, ds, kd, nc, nr, pc, pr, fc, fr, nm, vl⟩ : Ch), .slice a2 ds.length c2)]) (stL L) (fun j => stL (ofR L (j : Int)))) := HR1.out.below hb
  replace HT1 : Hid (TouchW Tw w Ub2u0) := HT1.out.below hb
  replace HOV : Hid (S.OwnS 0 Ub2u0 ov (stL (ofR L (r : Int)))) := HOV.out.below hb
  rw [← eW] at hHeld ⊢
  clear eW hb
  refine tkW 0 (some 14) (v := ?_) ?_ hHeld ?_
  rotate_left
  · (intro w _; go_simp; try with_reducible rfl)
  refine tkW 1 (some 15) (v := ?_) ?_ hHeld ?_
  rotate_left
  · (intro w _; go_simp; try with_reducible rfl)
  refine tkW 2 (some 16) (v := ?_) ?_ hHeld ?_
  rotate_left
  · (intro w _; go_simp; try with_reducible rfl)
  refine tkW 3 (some 17) (v := ?_) ?_ hHeld ?_
  rotate_left
  · (intro w hSw; (try dsimp only at hSw); have hk := hSw; obtain ⟨k_0, k_1, k_2, k_3, k_4, k_5, k_6, k_7, k_8, k_9, k_10, k_11, k_12⟩ := row_cells hk; go_simp; try with_reducible rfl)
  refine tkW 4 (some 18) (v := ?_) ?_ hHeld ?_
  rotate_left
  · (intro w _; go_simp; try with_reducible rfl)
  refine tkW 5 (some 19) (v := ?_) ?_ hHeld ?_
  rotate_left
  · (intro w _; go_simp; try with_reducible rfl)
  refine tkW 6 (some 20) (v := ?_) ?_ hHeld ?_
  rotate_left
  · (intro w _; go_simp; try with_reducible rfl)
  refine tkW 7 (some 21) (v := ?_) ?_ hHeld ?_
  rotate_left
  · (intro w hSw; (try dsimp only at hSw); have hk := hSw; obtain ⟨k_0, k_1, k_2, k_3, k_4, k_5, k_6, k_7, k_8, k_9, k_10, k_11, k_12⟩ := row_cells hk; go_simp; try with_reducible rfl)
  refine tkW 8 (some 22) (v := ?_) ?_ hHeld ?_
  rotate_left
  · (intro w hSw; (try dsimp only at hSw); have hk := hSw; obtain ⟨k_0, k_1, k_2, k_3, k_4, k_5, k_6, k_7, k_8, k_9, k_10, k_11, k_12⟩ := row_cells hk; go_simp; try with_reducible rfl)
  refine tkW 9 (some 23) (v := ?_) ?_ hHeld ?_
  rotate_left
  · (intro w _; go_simp; try with_reducible rfl)
  refine tkW 10 (some 24) (v := ?_) ?_ hHeld ?_
  rotate_left
  · (intro w hSw; (try dsimp only at hSw); have hk := hSw; obtain ⟨k_0, k_1, k_2, k_3, k_4, k_5, k_6, k_7, k_8, k_9, k_10, k_11, k_12⟩ := row_cells hk; go_simp; try with_reducible rfl)
  refine tkW 12 (some 26) (v := ?_) ?_ hHeld ?_
  rotate_left
  · (intro w _; go_simp; try with_reducible rfl)
  refine tkW 13 (some 27) (v := ?_) ?_ hHeld ?_
  rotate_left
  · (intro w hSw; (try dsimp only at hSw); have hk := hSw; obtain ⟨k_0, k_1, k_2, k_3, k_4, k_5, k_6, k_7, k_8, k_9, k_10, k_11, k_12⟩ := row_cells hk; go_simp; try with_reducible rfl)
  refine tkW 16 (some 30) (v := ?_) ?_ hHeld ?_
  rotate_left
  · (intro w hSw; (try dsimp only at hSw); have hk := hSw; obtain ⟨k_0, k_1, k_2, k_3, k_4, k_5, k_6, k_7, k_8, k_9, k_10, k_11, k_12⟩ := row_cells hk; go_simp; try with_reducible rfl)
  refine tkW 17 (some 31) (v := ?_) ?_ hHeld ?_
  rotate_left
  · (intro w _; go_simp; try with_reducible rfl)
  refine wpAnyH_ready (rs := [11, 14]) (by kernel_rfl) (by simp) ?_
  refine AllReadyH.cons (o := ⟨some 25, _, _, _, _, _⟩) rfl (fun K hK => ?_) (AllReadyH.cons (o := ⟨some 28, _, _, _, _, _⟩) rfl (fun K hK => ?_) AllReadyH.nil)
  · have xo := HR1.out.cellr hr
    rw [eo] at xo
    go_simp
    refine hK.out _ _ (hHeld) (fun hHeld2 => ?_)
    clear hK K hHeld
    have hHeld := hHeld2
    clear hHeld2
    (try simp only [Act.put, List.setIfInBounds_toArray, List.set_cons_zero, List.set_cons_succ])
    clear xo
    refine wpAnyH_ready (rs := [14]) (by kernel_rfl) (by simp) ?_
    refine AllReadyH.cons (o := ⟨some 28, _, _, _, _, _⟩) rfl (fun K hK => ?_) AllReadyH.nil
    have hW : w.heap.size < Ub2u0.heap.size := (Array.getElem?_eq_some_iff.1 hHeld).1
    go_simp
    refine hK.out _ _ ((Below.block ((Below.refl _ Ub2u0).alloc (Nat.le_refl _) _) _ (Array.getElem?_eq_some_iff.1 hHeld).1).trans hHeld) (fun hHeld2 => ?_)
    clear hK K hHeld
    have hHeld := hHeld2
    clear hHeld2
    (try simp only [Act.put, List.setIfInBounds_toArray, List.set_cons_zero, List.set_cons_succ])
    obtain ⟨Ub2u2, eW⟩ : ∃ X, X = Ub2u0.alloc (.cells #[.int .i64 ac, .int .i64 (r : Int)] 36) := ⟨_, rfl⟩
    have hb : Below Ub2u0.heap.size Ub2u0 Ub2u2 := by rw [eW]; exact (Below.refl _ _).alloc (Nat.le_refl _) _
    replace HR1 : Hid (LogR (fun k => F k ∨ (Value.slice a2 ds.length c2).ownBlock = some k) Ub2u2 lb room mb ord own (D ++ [((⟨ac, (r : Int), sq, ds, kd, nc, nr, pc, pr, fc, fr, nm, vl⟩ : Ch), .slice a2 ds.length c2)]) (stL L) (fun j => stL (ofR L (j : Int)))) := HR1.out.below hb
    replace HT1 : Hid (TouchW Tw w Ub2u2) := HT1.out.below hb
    replace HOV : Hid (S.OwnS 0 Ub2u2 ov (stL (ofR L (r : Int)))) := HOV.out.below hb
    have HV : Hid (Ub2u2.heap[Ub2u0.heap.size]? = some (.cells #[.int .i64 ac, .int .i64 (r : Int)] 36)) := by rw [eW]; exact heap_alloc_new _ _
    rw [← eW] at hHeld ⊢
    clear eW
    obtain ⟨vb, evb⟩ : ∃ vb, vb = Ub2u0.heap.size := ⟨_, rfl⟩
    rw [← evb] at HV hW ⊢
    clear evb
    clear hb
    refine wpAnyH_ready (rs := [15]) (by kernel_rfl) (by simp) ?_
    refine AllReadyH.cons (o := ⟨some 29, _, _, _, _, _⟩) rfl (fun K hK => ?_) AllReadyH.nil
    refine step_append_lies _ (by rfl) _ _ 74 (by rfl) 0 36 i0 (.agg #[.int .i64 0, .int .i64 0]) 2 16 Tryz.underlying74 hi hz0 hz1 hz2 rfl (by decide) ov (stL (ofR L (r : Int))).length (S.flat (stL (ofR L (r : Int)))) (by rfl) HOV.out ⟨vb, 0, none⟩ 1 1 [.int .i64 ac, .int .i64 (r : Int)] (by rfl) rfl (fun j u hj => by rw [Addr.add_lit, cell_of_row _ vb _ _ _ _ HV.out]; simpa using hj) (fun x hx => by simp at hx; rcases hx with rfl | rfl <;> rfl) (by decide) (by have := HLo.out; unfold maxLen; omega) (by have := HLo.out; omega) (Nat.zero_le _) Ub2u2.heap.size rfl ?_
    intro g3 c3 Ub2u3 hown3 hgrow3 hat3 hlt3
    have HV3 : Hid (S.OwnS 0 Ub2u3 (Value.slice (some ⟨g3, 0, none⟩) ((stL (ofR L (r : Int))).length + 1) c3) ((stL (ofR L (r : Int))) ++ [(ac, (r : Int))])) := S.OwnS.snoc hown3
    have HG3 : Hid (Ub2u2.grownBy Ub2u3 own[r].ownBlock) := by rw [eo]; exact hgrow3
    have HA3 : Hid ((Value.slice (some ⟨g3, 0, none⟩) ((stL (ofR L (r : Int))).length + 1) c3).ownBlock = own[r].ownBlock ∨ ∃ k, (Value.slice (some ⟨g3, 0, none⟩) ((stL (ofR L (r : Int))).length + 1) c3).ownBlock = some k ∧ Ub2u2.heap.size ≤ k) := by rw [eo]; exact hat3.imp (fun e => e.symm) (fun e => ⟨g3, rfl, Nat.le_of_eq e.symm⟩)
    have HZ3 : Hid (w.heap.size ≤ Ub2u2.heap.size) := HT1.out.size
    have HT2 : Hid (TouchW Tw w Ub2u3) := HT1.out.grown HG3.out HTo.out
    clear hown3 hgrow3 hat3 hlt3
    refine hK.out _ _ ((HG3.out.block _ (Array.getElem?_eq_some_iff.1 hHeld).1 (fun e => by have h1 := HF.out _ (HFo.out _ e.symm); omega)).trans hHeld) (fun hHeld2 => ?_)
    clear hK K hHeld
    have hHeld := hHeld2
    clear hHeld2
    (try simp only [Act.put, List.setIfInBounds_toArray, List.set_cons_zero, List.set_cons_succ])
    clear HV HT1 HOV
    refine tkW 18 (some 32) (v := ?_) ?_ hHeld ?_
    rotate_left
    · (intro w hSw; (try dsimp only at hSw); have hk := hSw; obtain ⟨k_0, k_1, k_2, k_3, k_4, k_5, k_6, k_7, k_8, k_9, k_10, k_11, k_12⟩ := row_cells hk; go_simp; try with_reducible rfl)
    refine wpAnyH_ready (rs := [19]) (by kernel_rfl) (by simp) ?_
    refine AllReadyH.cons (o := ⟨none, _, _, _, _, _⟩) rfl (fun K hK => ?_) AllReadyH.nil
    have hcl : Ub2u3.cell? ⟨lb, 3 + r, none⟩ = some ov := by rw [← eo]; exact (HG3.out.cell_far ⟨lb, 3 + r, none⟩ (HR1.out.lt _ HR1.out.fl) (fun e => HR1.out.rowNe.2.1 r hr e.symm)).trans (HR1.out.cellr hr)
    have hfz : Ub2u3.frozen? ⟨lb, 3 + r, none⟩ = false := by rw [World.frozen?_of_block (HG3.out.block lb (HR1.out.lt _ HR1.out.fl) (fun e => HR1.out.rowNe.2.1 r hr e.symm))]; exact HR1.out.free _
    go_simp
    refine hK.out _ _ ((RowKit.Below.heap_setCell _ _ _ _ (fun e => by have h1 := HF.out lb HFL.out; have e2 : w.heap.size = lb := e; omega)).trans hHeld) (fun hHeld2 => ?_)
    clear hK K hHeld
    have hHeld := hHeld2
    clear hHeld2
    (try simp only [Act.put, List.setIfInBounds_toArray, List.set_cons_zero, List.set_cons_succ])
    obtain ⟨Ub2u4, eW⟩ : ∃ X, X = Ub2u3.setCell ⟨lb, 3 + r, none⟩ (Value.slice (some ⟨g3, 0, none⟩) ((stL (ofR L (r : Int))).length + 1) c3) := ⟨_, rfl⟩
    have HR2 : Hid (LogR (fun k => (fun k => F k ∨ (Value.slice a2 ds.length c2).ownBlock = some k) k ∨ (Value.slice (some ⟨g3, 0, none⟩) ((stL (ofR L (r : Int))).length + 1) c3).ownBlock = some k) Ub2u4 lb room mb ord (own.set r (Value.slice (some ⟨g3, 0, none⟩) ((stL (ofR L (r : Int))).length + 1) c3)) (D ++ [((⟨ac, (r : Int), sq, ds, kd, nc, nr, pc, pr, fc, fr, nm, vl⟩ : Ch), .slice a2 ds.length c2)]) (stL L) (fun j => if r = j then (stL (ofR L (r : Int))) ++ [(ac, (r : Int))] else (fun j => stL (ofR L (j : Int))) j)) := by rw [eW]; exact HR1.out.ownSet hr HV3.out HG3.out HA3.out
    have HT3 : Hid (TouchW Tw w Ub2u4) := by rw [eW]; exact HT2.out.grown (grownBy_setCell _ _ _ _) (fun k e => by cases e; exact HTl.out)
    have HB3 : Hid (∀ k, (Value.slice (some ⟨g3, 0, none⟩) ((stL (ofR L (r : Int))).length + 1) c3).ownBlock = some k → F k ∨ w.heap.size ≤ k) := fun k e => by rcases HA3.out with h3 | ⟨k2, h3, h4⟩; exact .inl (HFo.out k (by rw [← h3]; exact e)); exact .inr (by rw [e] at h3; cases h3; have := HZ3.out; omega)
    rw [← eW] at hHeld ⊢
    clear eW hcl hfz HV3 HG3 HA3 HZ3 HR1 HT2
    refine wpAnyH_done (by kernel_rfl) ?_ _
    have HK2 : Hid (Ub2u4.heap[w.heap.size]? = some (.cells #[.int .i64 ac, .int .i64 (r : Int), .int .i64 sq, .slice a0 ds.length c0, .int .i64 kd, .int .i64 nc, .int .i64 nr, .int .i64 pc, .int .i64 pr, .int .i64 fc, .int .i64 fr, .string nm, .string vl] 38)) := hHeld
    clear hHeld
    go_wp2
    refine wp_region_held_drew (S := fun W' => W'.heap[w.heap.size]? = some (.cells #[.int .i64 ac, .int .i64 (r : Int), .int .i64 sq, .slice a0 ds.length c0, .int .i64 kd, .int .i64 nc, .int .i64 nr, .int .i64 pc, .int .i64 pr, .int .i64 fc, .int .i64 fr, .string nm, .string vl] 38) ∧ W'.cell? ⟨lb, 2, none⟩ = some ord) (by kernel_rfl) ⟨HK2.out, HR2.out.cell2⟩ (fun hHeld => ?_)
    obtain ⟨Uc3u0, eW⟩ : ∃ X, X = Ub2u4.drew := ⟨_, rfl⟩
    have hb : Below Ub2u4.heap.size Ub2u4 Uc3u0 := by rw [eW]; exact (Below.refl _ _).drew
    replace HR2 : Hid (LogR (fun k => (fun k => F k ∨ (Value.slice a2 ds.length c2).ownBlock = some k) k ∨ (Value.slice (some ⟨g3, 0, none⟩) ((stL (ofR L (r : Int))).length + 1) c3).ownBlock = some k) Uc3u0 lb room mb ord (own.set r (Value.slice (some ⟨g3, 0, none⟩) ((stL (ofR L (r : Int))).length + 1) c3)) (D ++ [((⟨ac, (r : Int), sq, ds, kd, nc, nr, pc, pr, fc, fr, nm, vl⟩ : Ch), .slice a2 ds.length c2)]) (stL L) (fun j => if r = j then (stL (ofR L (r : Int))) ++ [(ac, (r : Int))] else (fun j => stL (ofR L (j : Int))) j)) := HR2.out.below hb
    replace HT3 : Hid (TouchW Tw w Uc3u0) := HT3.out.below hb
    rw [← eW] at hHeld ⊢
    clear eW hb
    refine tkW 0 (some 34) (v := ?_) ?_ hHeld ?_
    rotate_left
    · (intro w _; go_simp; try with_reducible rfl)
    refine tkW 1 (some 35) (v := ?_) ?_ hHeld ?_
    rotate_left
    · (intro w hSw; (try dsimp only at hSw); obtain ⟨hk, hc2⟩ := hSw; obtain ⟨k_0, k_1, k_2, k_3, k_4, k_5, k_6, k_7, k_8, k_9, k_10, k_11, k_12⟩ := row_cells hk; go_simp; try with_reducible rfl)
    refine tkW 2 (some 36) (v := ?_) ?_ hHeld ?_
    rotate_left
    · (intro w _; go_simp; try with_reducible rfl)
    refine tkW 3 (some 37) (v := ?_) ?_ hHeld ?_
    rotate_left
    · (intro w hSw; (try dsimp only at hSw); obtain ⟨hk, hc2⟩ := hSw; obtain ⟨k_0, k_1, k_2, k_3, k_4, k_5, k_6, k_7, k_8, k_9, k_10, k_11, k_12⟩ := row_cells hk; go_simp; try with_reducible rfl)
    refine tkW 4 (some 38) (v := ?_) ?_ hHeld ?_
    rotate_left
    · (intro w _; go_simp; try with_reducible rfl)
    refine tkW 5 (some 39) (v := ?_) ?_ hHeld ?_
    rotate_left
    · (intro w hSw; (try dsimp only at hSw); obtain ⟨hk, hc2⟩ := hSw; obtain ⟨k_0, k_1, k_2, k_3, k_4, k_5, k_6, k_7, k_8, k_9, k_10, k_11, k_12⟩ := row_cells hk; go_simp; try with_reducible rfl)
    refine wpAnyH_ready (rs := [6]) (by kernel_rfl) (by simp) ?_
    refine AllReadyH.cons (o := ⟨some 40, _, _, _, _, _⟩) rfl (fun K hK => ?_) AllReadyH.nil
    go_simp
    refine (search_any ord (stL L) ac (r : Int) _ HR2.out.hord HLl.out HSr.out).mono ?_
    rintro e Uc3u1 ⟨⟨i, sb, rfl, hi1, hi2, hi3⟩, hb⟩
    (try go_wp2_with fail)
    refine hK.out _ _ (⟨(hb.block _ (Array.getElem?_eq_some_iff.1 hHeld.1).1).trans hHeld.1, (hb.cell (p := ⟨lb, 2, none⟩) (cell_lt hHeld.2)).trans hHeld.2⟩) (fun hHeld2 => ?_)
    clear hK K hHeld
    have hHeld := hHeld2
    clear hHeld2
    (try simp only [Act.put, List.setIfInBounds_toArray, List.set_cons_zero, List.set_cons_succ])
    replace HR2 : Hid (LogR (fun k => (fun k => F k ∨ (Value.slice a2 ds.length c2).ownBlock = some k) k ∨ (Value.slice (some ⟨g3, 0, none⟩) ((stL (ofR L (r : Int))).length + 1) c3).ownBlock = some k) Uc3u1 lb room mb ord (own.set r (Value.slice (some ⟨g3, 0, none⟩) ((stL (ofR L (r : Int))).length + 1) c3)) (D ++ [((⟨ac, (r : Int), sq, ds, kd, nc, nr, pc, pr, fc, fr, nm, vl⟩ : Ch), .slice a2 ds.length c2)]) (stL L) (fun j => if r = j then (stL (ofR L (r : Int))) ++ [(ac, (r : Int))] else (fun j => stL (ofR L (j : Int))) j)) := HR2.out.below hb
    replace HT3 : Hid (TouchW Tw w Uc3u1) := HT3.out.below hb
    have HI2 : Hid (∀ j (h : j < (stL L).length), j < i → lessS (stL L)[j].1 (stL L)[j].2 ac (r : Int) = true) := hi2
    have HI3 : Hid (∀ j (h : j < (stL L).length), i ≤ j → lessS (stL L)[j].1 (stL L)[j].2 ac (r : Int) = false) := hi3
    clear hi2 hi3
    clear hb
    refine tkW 7 (some 33) (v := ?_) ?_ hHeld ?_
    rotate_left
    · (intro w _; go_simp; try with_reducible rfl)
    refine tkW 8 (some 41) (v := ?_) ?_ hHeld ?_
    rotate_left
    · (intro w _; go_simp; try with_reducible rfl)
    refine tkW 9 (some 42) (v := ?_) ?_ hHeld ?_
    rotate_left
    · (intro w _; go_simp; try with_reducible rfl)
    refine tkW 10 (some 4) (v := ?_) ?_ hHeld ?_
    rotate_left
    · (intro w _; go_simp; try with_reducible rfl)
    refine tkW 11 (some 5) (v := ?_) ?_ hHeld ?_
    rotate_left
    · (intro w _; go_simp; try with_reducible rfl)
    refine wpAnyH_done (by kernel_rfl) ?_ _
    have HK3 : Hid (Uc3u1.heap[w.heap.size]? = some (.cells #[.int .i64 ac, .int .i64 (r : Int), .int .i64 sq, .slice a0 ds.length c0, .int .i64 kd, .int .i64 nc, .int .i64 nr, .int .i64 pc, .int .i64 pr, .int .i64 fc, .int .i64 fr, .string nm, .string vl] 38)) := hHeld.1
    clear hHeld
    go_wp2
    refine wp_region_held_drew (S := fun W' => W'.heap[w.heap.size]? = some (.cells #[.int .i64 ac, .int .i64 (r : Int), .int .i64 sq, .slice a0 ds.length c0, .int .i64 kd, .int .i64 nc, .int .i64 nr, .int .i64 pc, .int .i64 pr, .int .i64 fc, .int .i64 fr, .string nm, .string vl] 38)) (by kernel_rfl) HK3.out (fun hHeld => ?_)
    obtain ⟨Ud4u0, eW⟩ : ∃ X, X = Uc3u1.drew := ⟨_, rfl⟩
    have hb : Below Uc3u1.heap.size Uc3u1 Ud4u0 := by rw [eW]; exact (Below.refl _ _).drew
    replace HR2 : Hid (LogR (fun k => (fun k => F k ∨ (Value.slice a2 ds.length c2).ownBlock = some k) k ∨ (Value.slice (some ⟨g3, 0, none⟩) ((stL (ofR L (r : Int))).length + 1) c3).ownBlock = some k) Ud4u0 lb room mb ord (own.set r (Value.slice (some ⟨g3, 0, none⟩) ((stL (ofR L (r : Int))).length + 1) c3)) (D ++ [((⟨ac, (r : Int), sq, ds, kd, nc, nr, pc, pr, fc, fr, nm, vl⟩ : Ch), .slice a2 ds.length c2)]) (stL L) (fun j => if r = j then (stL (ofR L (r : Int))) ++ [(ac, (r : Int))] else (fun j => stL (ofR L (j : Int))) j)) := HR2.out.below hb
    replace HT3 : Hid (TouchW Tw w Ud4u0) := HT3.out.below hb
    rw [← eW] at hHeld ⊢
    clear eW hb
    refine tkW 0 (some 43) (v := ?_) ?_ hHeld ?_
    rotate_left
    · (intro w _; go_simp; try with_reducible rfl)
    refine tkW 1 (some 44) (v := ?_) ?_ hHeld ?_
    rotate_left
    · (intro w _; go_simp; try with_reducible rfl)
    refine tkW 2 (some 45) (v := ?_) ?_ hHeld ?_
    rotate_left
    · (intro w hSw; (try dsimp only at hSw); have hk := hSw; obtain ⟨k_0, k_1, k_2, k_3, k_4, k_5, k_6, k_7, k_8, k_9, k_10, k_11, k_12⟩ := row_cells hk; go_simp; try with_reducible rfl)
    refine tkW 3 (some 46) (v := ?_) ?_ hHeld ?_
    rotate_left
    · (intro w _; go_simp; try with_reducible rfl)
    refine tkW 5 (some 48) (v := ?_) ?_ hHeld ?_
    rotate_left
    · (intro w _; go_simp; try with_reducible rfl)
    refine tkW 6 (some 49) (v := ?_) ?_ hHeld ?_
    rotate_left
    · (intro w _; go_simp; try with_reducible rfl)
    refine tkW 7 (some 50) (v := ?_) ?_ hHeld ?_
    rotate_left
    · (intro w hSw; (try dsimp only at hSw); have hk := hSw; obtain ⟨k_0, k_1, k_2, k_3, k_4, k_5, k_6, k_7, k_8, k_9, k_10, k_11, k_12⟩ := row_cells hk; go_simp; try with_reducible rfl)
    refine wpAnyH_ready (rs := [4, 8]) (by kernel_rfl) (by simp) ?_
    refine AllReadyH.cons (o := ⟨some 47, _, _, _, _, _⟩) rfl (fun K hK => ?_) (AllReadyH.cons (o := ⟨some 51, _, _, _, _, _⟩) rfl (fun K hK => ?_) AllReadyH.nil)
    · have xo := HR2.out.cell2
      go_simp
      refine hK.out _ _ (hHeld) (fun hHeld2 => ?_)
      clear hK K hHeld
      have hHeld := hHeld2
      clear hHeld2
      (try simp only [Act.put, List.setIfInBounds_toArray, List.set_cons_zero, List.set_cons_succ])
      clear xo
      refine wpAnyH_ready (rs := [8]) (by kernel_rfl) (by simp) ?_
      refine AllReadyH.cons (o := ⟨some 51, _, _, _, _, _⟩) rfl (fun K hK => ?_) AllReadyH.nil
      have hW : w.heap.size < Ud4u0.heap.size := (Array.getElem?_eq_some_iff.1 hHeld).1
      go_simp
      refine hK.out _ _ ((Below.block ((Below.refl _ Ud4u0).alloc (Nat.le_refl _) _) _ (Array.getElem?_eq_some_iff.1 hHeld).1).trans hHeld) (fun hHeld2 => ?_)
      clear hK K hHeld
      have hHeld := hHeld2
      clear hHeld2
      (try simp only [Act.put, List.setIfInBounds_toArray, List.set_cons_zero, List.set_cons_succ])
      obtain ⟨Ud4u2, eW⟩ : ∃ X, X = Ud4u0.alloc (.cells #[.int .i64 ac, .int .i64 (r : Int)] 36) := ⟨_, rfl⟩
      have hb : Below Ud4u0.heap.size Ud4u0 Ud4u2 := by rw [eW]; exact (Below.refl _ _).alloc (Nat.le_refl _) _
      replace HR2 : Hid (LogR (fun k => (fun k => F k ∨ (Value.slice a2 ds.length c2).ownBlock = some k) k ∨ (Value.slice (some ⟨g3, 0, none⟩) ((stL (ofR L (r : Int))).length + 1) c3).ownBlock = some k) Ud4u2 lb room mb ord (own.set r (Value.slice (some ⟨g3, 0, none⟩) ((stL (ofR L (r : Int))).length + 1) c3)) (D ++ [((⟨ac, (r : Int), sq, ds, kd, nc, nr, pc, pr, fc, fr, nm, vl⟩ : Ch), .slice a2 ds.length c2)]) (stL L) (fun j => if r = j then (stL (ofR L (r : Int))) ++ [(ac, (r : Int))] else (fun j => stL (ofR L (j : Int))) j)) := HR2.out.below hb
      replace HT3 : Hid (TouchW Tw w Ud4u2) := HT3.out.below hb
      have HV : Hid (Ud4u2.heap[Ud4u0.heap.size]? = some (.cells #[.int .i64 ac, .int .i64 (r : Int)] 36)) := by rw [eW]; exact heap_alloc_new _ _
      rw [← eW] at hHeld ⊢
      clear eW
      obtain ⟨vb, evb⟩ : ∃ vb, vb = Ud4u0.heap.size := ⟨_, rfl⟩
      rw [← evb] at HV hW ⊢
      clear evb
      clear hb
      refine wpAnyH_ready (rs := [9]) (by kernel_rfl) (by simp) ?_
      refine AllReadyH.cons (o := ⟨some 52, _, _, _, _, _⟩) rfl (fun K hK => ?_) AllReadyH.nil
      go_simp
      refine (insert_any ord (stL L) i ac (r : Int) vb _ HR2.out.hord HLl.out hi1 HV.out (fun e => by have := HF.out _ (HFord.out _ e); omega)).mono ?_
      rintro e Ud4u3 ⟨v4, rfl, ho4, hg4, ha4⟩
      (try go_wp2_with fail)
      obtain ⟨IL, hIL⟩ : ∃ x, x = ((stL L).take i ++ (ac, (r : Int)) :: (stL L).drop i) := ⟨_, rfl⟩
      rw [← hIL] at ho4
      have HIL : Hid (IL = ((stL L).take i ++ (ac, (r : Int)) :: (stL L).drop i)) := hIL
      clear hIL
      have HV4 : Hid (S.OwnS 0 Ud4u3 v4 IL) := ho4
      have HG4 : Hid (Ud4u2.grownBy Ud4u3 ord.ownBlock) := hg4
      have HA4 : Hid (v4.ownBlock = ord.ownBlock ∨ ∃ k, v4.ownBlock = some k ∧ Ud4u2.heap.size ≤ k) := ha4
      have HZ4 : Hid (w.heap.size ≤ Ud4u2.heap.size) := HT3.out.size
      have HT4 : Hid (TouchW Tw w Ud4u3) := HT3.out.grown HG4.out HTd.out
      clear ho4 hg4 ha4
      obtain ⟨a4, c4, e4⟩ := HV4.out.form
      subst e4
      refine hK.out _ _ ((HG4.out.block _ (Array.getElem?_eq_some_iff.1 hHeld).1 (fun e => by have h1 := HF.out _ (HFord.out _ e.symm); omega)).trans hHeld) (fun hHeld2 => ?_)
      clear hK K hHeld
      have hHeld := hHeld2
      clear hHeld2
      (try simp only [Act.put, List.setIfInBounds_toArray, List.set_cons_zero, List.set_cons_succ])
      clear HV HT3
      refine tkW 10 (some 53) (v := ?_) ?_ hHeld ?_
      rotate_left
      · (intro w hSw; (try dsimp only at hSw); have hk := hSw; obtain ⟨k_0, k_1, k_2, k_3, k_4, k_5, k_6, k_7, k_8, k_9, k_10, k_11, k_12⟩ := row_cells hk; go_simp; try with_reducible rfl)
      refine tkW 11 (some 54) (v := ?_) ?_ hHeld ?_
      rotate_left
      · (intro w _; go_simp; try with_reducible rfl)
      refine wpAnyH_ready (rs := [12]) (by kernel_rfl) (by simp) ?_
      refine AllReadyH.cons (o := ⟨none, _, _, _, _, _⟩) rfl (fun K hK => ?_) AllReadyH.nil
      have hcl : Ud4u3.cell? ⟨lb, 2, none⟩ = some ord := (HG4.out.cell_far ⟨lb, 2, none⟩ (HR2.out.lt _ HR2.out.fl) (fun e => HR2.out.rowNe.1 e.symm)).trans HR2.out.cell2
      have hfz : Ud4u3.frozen? ⟨lb, 2, none⟩ = false := by rw [World.frozen?_of_block (HG4.out.block lb (HR2.out.lt _ HR2.out.fl) (fun e => HR2.out.rowNe.1 e.symm))]; exact HR2.out.free _
      go_simp
      refine hK.out _ _ ((RowKit.Below.heap_setCell _ _ _ _ (fun e => by have h1 := HF.out lb HFL.out; have e2 : w.heap.size = lb := e; omega)).trans hHeld) (fun hHeld2 => ?_)
      clear hK K hHeld
      have hHeld := hHeld2
      clear hHeld2
      (try simp only [Act.put, List.setIfInBounds_toArray, List.set_cons_zero, List.set_cons_succ])
      obtain ⟨Ud4u4, eW⟩ : ∃ X, X = Ud4u3.setCell ⟨lb, 2, none⟩ (Value.slice a4 IL.length c4) := ⟨_, rfl⟩
      have HR3 : Hid (LogR (fun k => (fun k => (fun k => F k ∨ (Value.slice a2 ds.length c2).ownBlock = some k) k ∨ (Value.slice (some ⟨g3, 0, none⟩) ((stL (ofR L (r : Int))).length + 1) c3).ownBlock = some k) k ∨ (Value.slice a4 IL.length c4).ownBlock = some k) Ud4u4 lb room mb (Value.slice a4 IL.length c4) (own.set r (Value.slice (some ⟨g3, 0, none⟩) ((stL (ofR L (r : Int))).length + 1) c3)) (D ++ [((⟨ac, (r : Int), sq, ds, kd, nc, nr, pc, pr, fc, fr, nm, vl⟩ : Ch), .slice a2 ds.length c2)]) IL (fun j => if r = j then (stL (ofR L (r : Int))) ++ [(ac, (r : Int))] else (fun j => stL (ofR L (j : Int))) j)) := by rw [eW]; exact HR2.out.ordSet HV4.out HG4.out HA4.out
      have HT5 : Hid (TouchW Tw w Ud4u4) := by rw [eW]; exact HT4.out.grown (grownBy_setCell _ _ _ _) (fun k e => by cases e; exact HTl.out)
      have HB4 : Hid (∀ k, (Value.slice a4 IL.length c4).ownBlock = some k → F k ∨ w.heap.size ≤ k) := fun k e => by rcases HA4.out with h3 | ⟨k2, h3, h4⟩; exact .inl (HFord.out k (by rw [← h3]; exact e)); exact .inr (by rw [e] at h3; cases h3; have := HZ4.out; omega)
      rw [← eW] at hHeld ⊢
      clear eW hcl hfz HV4 HG4 HA4 HZ4 HR2 HT4
      refine wpAnyH_done (by kernel_rfl) ?_ _
      clear hHeld
      go_wp2
      go_end0
      have eIL := HIL.out
      subst eIL
      exact ⟨⟨_, rfl⟩, (fun k => (fun k => (fun k => F k ∨ (Value.slice a2 ds.length c2).ownBlock = some k) k ∨ (Value.slice (some ⟨g3, 0, none⟩) ((stL (ofR L (r : Int))).length + 1) c3).ownBlock = some k) k ∨ (Value.slice a4 ((stL L).take i ++ (ac, (r : Int)) :: (stL L).drop i).length c4).ownBlock = some k), HR3.out.put_is HM.out hi1 HI2.out HI3.out HSrt.out HNn.out rfl HLast.out, fun k h => .inl (.inl (.inl h)), fun k h => by rcases h with ((h | h) | h) | h; exact .inl h; exact .inr (HB2.out k h); exact HB3.out k h; exact HB4.out k h, HT5.out⟩
    · have hW : w.heap.size < Ud4u0.heap.size := (Array.getElem?_eq_some_iff.1 hHeld).1
      go_simp
      refine hK.out _ _ ((Below.block ((Below.refl _ Ud4u0).alloc (Nat.le_refl _) _) _ (Array.getElem?_eq_some_iff.1 hHeld).1).trans hHeld) (fun hHeld2 => ?_)
      clear hK K hHeld
      have hHeld := hHeld2
      clear hHeld2
      (try simp only [Act.put, List.setIfInBounds_toArray, List.set_cons_zero, List.set_cons_succ])
      obtain ⟨Ud4u5, eW⟩ : ∃ X, X = Ud4u0.alloc (.cells #[.int .i64 ac, .int .i64 (r : Int)] 36) := ⟨_, rfl⟩
      have hb : Below Ud4u0.heap.size Ud4u0 Ud4u5 := by rw [eW]; exact (Below.refl _ _).alloc (Nat.le_refl _) _
      replace HR2 : Hid (LogR (fun k => (fun k => F k ∨ (Value.slice a2 ds.length c2).ownBlock = some k) k ∨ (Value.slice (some ⟨g3, 0, none⟩) ((stL (ofR L (r : Int))).length + 1) c3).ownBlock = some k) Ud4u5 lb room mb ord (own.set r (Value.slice (some ⟨g3, 0, none⟩) ((stL (ofR L (r : Int))).length + 1) c3)) (D ++ [((⟨ac, (r : Int), sq, ds, kd, nc, nr, pc, pr, fc, fr, nm, vl⟩ : Ch), .slice a2 ds.length c2)]) (stL L) (fun j => if r = j then (stL (ofR L (r : Int))) ++ [(ac, (r : Int))] else (fun j => stL (ofR L (j : Int))) j)) := HR2.out.below hb
      replace HT3 : Hid (TouchW Tw w Ud4u5) := HT3.out.below hb
      have HV : Hid (Ud4u5.heap[Ud4u0.heap.size]? = some (.cells #[.int .i64 ac, .int .i64 (r : Int)] 36)) := by rw [eW]; exact heap_alloc_new _ _
      rw [← eW] at hHeld ⊢
      clear eW
      obtain ⟨vb, evb⟩ : ∃ vb, vb = Ud4u0.heap.size := ⟨_, rfl⟩
      rw [← evb] at HV hW ⊢
      clear evb
      clear hb
      refine wpAnyH_ready (rs := [4]) (by kernel_rfl) (by simp) ?_
      refine AllReadyH.cons (o := ⟨some 47, _, _, _, _, _⟩) rfl (fun K hK => ?_) AllReadyH.nil
      have xo := HR2.out.cell2
      go_simp
      refine hK.out _ _ (hHeld) (fun hHeld2 => ?_)
      clear hK K hHeld
      have hHeld := hHeld2
      clear hHeld2
      (try simp only [Act.put, List.setIfInBounds_toArray, List.set_cons_zero, List.set_cons_succ])
      clear xo
      refine wpAnyH_ready (rs := [9]) (by kernel_rfl) (by simp) ?_
      refine AllReadyH.cons (o := ⟨some 52, _, _, _, _, _⟩) rfl (fun K hK => ?_) AllReadyH.nil
      go_simp
      refine (insert_any ord (stL L) i ac (r : Int) vb _ HR2.out.hord HLl.out hi1 HV.out (fun e => by have := HF.out _ (HFord.out _ e); omega)).mono ?_
      rintro e Ud4u7 ⟨v4, rfl, ho4, hg4, ha4⟩
      (try go_wp2_with fail)
      obtain ⟨IL, hIL⟩ : ∃ x, x = ((stL L).take i ++ (ac, (r : Int)) :: (stL L).drop i) := ⟨_, rfl⟩
      rw [← hIL] at ho4
      have HIL : Hid (IL = ((stL L).take i ++ (ac, (r : Int)) :: (stL L).drop i)) := hIL
      clear hIL
      have HV4 : Hid (S.OwnS 0 Ud4u7 v4 IL) := ho4
      have HG4 : Hid (Ud4u5.grownBy Ud4u7 ord.ownBlock) := hg4
      have HA4 : Hid (v4.ownBlock = ord.ownBlock ∨ ∃ k, v4.ownBlock = some k ∧ Ud4u5.heap.size ≤ k) := ha4
      have HZ4 : Hid (w.heap.size ≤ Ud4u5.heap.size) := HT3.out.size
      have HT4 : Hid (TouchW Tw w Ud4u7) := HT3.out.grown HG4.out HTd.out
      clear ho4 hg4 ha4
      obtain ⟨a4, c4, e4⟩ := HV4.out.form
      subst e4
      refine hK.out _ _ ((HG4.out.block _ (Array.getElem?_eq_some_iff.1 hHeld).1 (fun e => by have h1 := HF.out _ (HFord.out _ e.symm); omega)).trans hHeld) (fun hHeld2 => ?_)
      clear hK K hHeld
      have hHeld := hHeld2
      clear hHeld2
      (try simp only [Act.put, List.setIfInBounds_toArray, List.set_cons_zero, List.set_cons_succ])
      clear HV HT3
      refine tkW 10 (some 53) (v := ?_) ?_ hHeld ?_
      rotate_left
      · (intro w hSw; (try dsimp only at hSw); have hk := hSw; obtain ⟨k_0, k_1, k_2, k_3, k_4, k_5, k_6, k_7, k_8, k_9, k_10, k_11, k_12⟩ := row_cells hk; go_simp; try with_reducible rfl)
      refine tkW 11 (some 54) (v := ?_) ?_ hHeld ?_
      rotate_left
      · (intro w _; go_simp; try with_reducible rfl)
      refine wpAnyH_ready (rs := [12]) (by kernel_rfl) (by simp) ?_
      refine AllReadyH.cons (o := ⟨none, _, _, _, _, _⟩) rfl (fun K hK => ?_) AllReadyH.nil
      have hcl : Ud4u7.cell? ⟨lb, 2, none⟩ = some ord := (HG4.out.cell_far ⟨lb, 2, none⟩ (HR2.out.lt _ HR2.out.fl) (fun e => HR2.out.rowNe.1 e.symm)).trans HR2.out.cell2
      have hfz : Ud4u7.frozen? ⟨lb, 2, none⟩ = false := by rw [World.frozen?_of_block (HG4.out.block lb (HR2.out.lt _ HR2.out.fl) (fun e => HR2.out.rowNe.1 e.symm))]; exact HR2.out.free _
      go_simp
      refine hK.out _ _ ((RowKit.Below.heap_setCell _ _ _ _ (fun e => by have h1 := HF.out lb HFL.out; have e2 : w.heap.size = lb := e; omega)).trans hHeld) (fun hHeld2 => ?_)
      clear hK K hHeld
      have hHeld := hHeld2
      clear hHeld2
      (try simp only [Act.put, List.setIfInBounds_toArray, List.set_cons_zero, List.set_cons_succ])
      obtain ⟨Ud4u8, eW⟩ : ∃ X, X = Ud4u7.setCell ⟨lb, 2, none⟩ (Value.slice a4 IL.length c4) := ⟨_, rfl⟩
      have HR3 : Hid (LogR (fun k => (fun k => (fun k => F k ∨ (Value.slice a2 ds.length c2).ownBlock = some k) k ∨ (Value.slice (some ⟨g3, 0, none⟩) ((stL (ofR L (r : Int))).length + 1) c3).ownBlock = some k) k ∨ (Value.slice a4 IL.length c4).ownBlock = some k) Ud4u8 lb room mb (Value.slice a4 IL.length c4) (own.set r (Value.slice (some ⟨g3, 0, none⟩) ((stL (ofR L (r : Int))).length + 1) c3)) (D ++ [((⟨ac, (r : Int), sq, ds, kd, nc, nr, pc, pr, fc, fr, nm, vl⟩ : Ch), .slice a2 ds.length c2)]) IL (fun j => if r = j then (stL (ofR L (r : Int))) ++ [(ac, (r : Int))] else (fun j => stL (ofR L (j : Int))) j)) := by rw [eW]; exact HR2.out.ordSet HV4.out HG4.out HA4.out
      have HT5 : Hid (TouchW Tw w Ud4u8) := by rw [eW]; exact HT4.out.grown (grownBy_setCell _ _ _ _) (fun k e => by cases e; exact HTl.out)
      have HB4 : Hid (∀ k, (Value.slice a4 IL.length c4).ownBlock = some k → F k ∨ w.heap.size ≤ k) := fun k e => by rcases HA4.out with h3 | ⟨k2, h3, h4⟩; exact .inl (HFord.out k (by rw [← h3]; exact e)); exact .inr (by rw [e] at h3; cases h3; have := HZ4.out; omega)
      rw [← eW] at hHeld ⊢
      clear eW hcl hfz HV4 HG4 HA4 HZ4 HR2 HT4
      refine wpAnyH_done (by kernel_rfl) ?_ _
      clear hHeld
      go_wp2
      go_end0
      have eIL := HIL.out
      subst eIL
      exact ⟨⟨_, rfl⟩, (fun k => (fun k => (fun k => F k ∨ (Value.slice a2 ds.length c2).ownBlock = some k) k ∨ (Value.slice (some ⟨g3, 0, none⟩) ((stL (ofR L (r : Int))).length + 1) c3).ownBlock = some k) k ∨ (Value.slice a4 ((stL L).take i ++ (ac, (r : Int)) :: (stL L).drop i).length c4).ownBlock = some k), HR3.out.put_is HM.out hi1 HI2.out HI3.out HSrt.out HNn.out rfl HLast.out, fun k h => .inl (.inl (.inl h)), fun k h => by rcases h with ((h | h) | h) | h; exact .inl h; exact .inr (HB2.out k h); exact HB3.out k h; exact HB4.out k h, HT5.out⟩
  · have hW : w.heap.size < Ub2u0.heap.size := (Array.getElem?_eq_some_iff.1 hHeld).1
    go_simp
    refine hK.out _ _ ((Below.block ((Below.refl _ Ub2u0).alloc (Nat.le_refl _) _) _ (Array.getElem?_eq_some_iff.1 hHeld).1).trans hHeld) (fun hHeld2 => ?_)
    clear hK K hHeld
    have hHeld := hHeld2
    clear hHeld2
    (try simp only [Act.put, List.setIfInBounds_toArray, List.set_cons_zero, List.set_cons_succ])
    obtain ⟨Ub2u5, eW⟩ : ∃ X, X = Ub2u0.alloc (.cells #[.int .i64 ac, .int .i64 (r : Int)] 36) := ⟨_, rfl⟩
    have hb : Below Ub2u0.heap.size Ub2u0 Ub2u5 := by rw [eW]; exact (Below.refl _ _).alloc (Nat.le_refl _) _
    replace HR1 : Hid (LogR (fun k => F k ∨ (Value.slice a2 ds.length c2).ownBlock = some k) Ub2u5 lb room mb ord own (D ++ [((⟨ac, (r : Int), sq, ds, kd, nc, nr, pc, pr, fc, fr, nm, vl⟩ : Ch), .slice a2 ds.length c2)]) (stL L) (fun j => stL (ofR L (j : Int)))) := HR1.out.below hb
    replace HT1 : Hid (TouchW Tw w Ub2u5) := HT1.out.below hb
    replace HOV : Hid (S.OwnS 0 Ub2u5 ov (stL (ofR L (r : Int)))) := HOV.out.below hb
    have HV : Hid (Ub2u5.heap[Ub2u0.heap.size]? = some (.cells #[.int .i64 ac, .int .i64 (r : Int)] 36)) := by rw [eW]; exact heap_alloc_new _ _
    rw [← eW] at hHeld ⊢
    clear eW
    obtain ⟨vb, evb⟩ : ∃ vb, vb = Ub2u0.heap.size := ⟨_, rfl⟩
    rw [← evb] at HV hW ⊢
    clear evb
    clear hb
    refine wpAnyH_ready (rs := [11]) (by kernel_rfl) (by simp) ?_
    refine AllReadyH.cons (o := ⟨some 25, _, _, _, _, _⟩) rfl (fun K hK => ?_) AllReadyH.nil
    have xo := HR1.out.cellr hr
    rw [eo] at xo
    go_simp
    refine hK.out _ _ (hHeld) (fun hHeld2 => ?_)
    clear hK K hHeld
    have hHeld := hHeld2
    clear hHeld2
    (try simp only [Act.put, List.setIfInBounds_toArray, List.set_cons_zero, List.set_cons_succ])
    clear xo
    refine wpAnyH_ready (rs := [15]) (by kernel_rfl) (by simp) ?_
    refine AllReadyH.cons (o := ⟨some 29, _, _, _, _, _⟩) rfl (fun K hK => ?_) AllReadyH.nil
    refine step_append_lies _ (by rfl) _ _ 74 (by rfl) 0 36 i0 (.agg #[.int .i64 0, .int .i64 0]) 2 16 Tryz.underlying74 hi hz0 hz1 hz2 rfl (by decide) ov (stL (ofR L (r : Int))).length (S.flat (stL (ofR L (r : Int)))) (by rfl) HOV.out ⟨vb, 0, none⟩ 1 1 [.int .i64 ac, .int .i64 (r : Int)] (by rfl) rfl (fun j u hj => by rw [Addr.add_lit, cell_of_row _ vb _ _ _ _ HV.out]; simpa using hj) (fun x hx => by simp at hx; rcases hx with rfl | rfl <;> rfl) (by decide) (by have := HLo.out; unfold maxLen; omega) (by have := HLo.out; omega) (Nat.zero_le _) Ub2u5.heap.size rfl ?_
    intro g3 c3 Ub2u7 hown3 hgrow3 hat3 hlt3
    have HV3 : Hid (S.OwnS 0 Ub2u7 (Value.slice (some ⟨g3, 0, none⟩) ((stL (ofR L (r : Int))).length + 1) c3) ((stL (ofR L (r : Int))) ++ [(ac, (r : Int))])) := S.OwnS.snoc hown3
    have HG3 : Hid (Ub2u5.grownBy Ub2u7 own[r].ownBlock) := by rw [eo]; exact hgrow3
    have HA3 : Hid ((Value.slice (some ⟨g3, 0, none⟩) ((stL (ofR L (r : Int))).length + 1) c3).ownBlock = own[r].ownBlock ∨ ∃ k, (Value.slice (some ⟨g3, 0, none⟩) ((stL (ofR L (r : Int))).length + 1) c3).ownBlock = some k ∧ Ub2u5.heap.size ≤ k) := by rw [eo]; exact hat3.imp (fun e => e.symm) (fun e => ⟨g3, rfl, Nat.le_of_eq e.symm⟩)
    have HZ3 : Hid (w.heap.size ≤ Ub2u5.heap.size) := HT1.out.size
    have HT2 : Hid (TouchW Tw w Ub2u7) := HT1.out.grown HG3.out HTo.out
    clear hown3 hgrow3 hat3 hlt3
    refine hK.out _ _ ((HG3.out.block _ (Array.getElem?_eq_some_iff.1 hHeld).1 (fun e => by have h1 := HF.out _ (HFo.out _ e.symm); omega)).trans hHeld) (fun hHeld2 => ?_)
    clear hK K hHeld
    have hHeld := hHeld2
    clear hHeld2
    (try simp only [Act.put, List.setIfInBounds_toArray, List.set_cons_zero, List.set_cons_succ])
    clear HV HT1 HOV
    refine tkW 18 (some 32) (v := ?_) ?_ hHeld ?_
    rotate_left
    · (intro w hSw; (try dsimp only at hSw); have hk := hSw; obtain ⟨k_0, k_1, k_2, k_3, k_4, k_5, k_6, k_7, k_8, k_9, k_10, k_11, k_12⟩ := row_cells hk; go_simp; try with_reducible rfl)
    refine wpAnyH_ready (rs := [19]) (by kernel_rfl) (by simp) ?_
    refine AllReadyH.cons (o := ⟨none, _, _, _, _, _⟩) rfl (fun K hK => ?_) AllReadyH.nil
    have hcl : Ub2u7.cell? ⟨lb, 3 + r, none⟩ = some ov := by rw [← eo]; exact (HG3.out.cell_far ⟨lb, 3 + r, none⟩ (HR1.out.lt _ HR1.out.fl) (fun e => HR1.out.rowNe.2.1 r hr e.symm)).trans (HR1.out.cellr hr)
    have hfz : Ub2u7.frozen? ⟨lb, 3 + r, none⟩ = false := by rw [World.frozen?_of_block (HG3.out.block lb (HR1.out.lt _ HR1.out.fl) (fun e => HR1.out.rowNe.2.1 r hr e.symm))]; exact HR1.out.free _
    go_simp
    refine hK.out _ _ ((RowKit.Below.heap_setCell _ _ _ _ (fun e => by have h1 := HF.out lb HFL.out; have e2 : w.heap.size = lb := e; omega)).trans hHeld) (fun hHeld2 => ?_)
    clear hK K hHeld
    have hHeld := hHeld2
    clear hHeld2
    (try simp only [Act.put, List.setIfInBounds_toArray, List.set_cons_zero, List.set_cons_succ])
    obtain ⟨Ub2u8, eW⟩ : ∃ X, X = Ub2u7.setCell ⟨lb, 3 + r, none⟩ (Value.slice (some ⟨g3, 0, none⟩) ((stL (ofR L (r : Int))).length + 1) c3) := ⟨_, rfl⟩
    have HR2 : Hid (LogR (fun k => (fun k => F k ∨ (Value.slice a2 ds.length c2).ownBlock = some k) k ∨ (Value.slice (some ⟨g3, 0, none⟩) ((stL (ofR L (r : Int))).length + 1) c3).ownBlock = some k) Ub2u8 lb room mb ord (own.set r (Value.slice (some ⟨g3, 0, none⟩) ((stL (ofR L (r : Int))).length + 1) c3)) (D ++ [((⟨ac, (r : Int), sq, ds, kd, nc, nr, pc, pr, fc, fr, nm, vl⟩ : Ch), .slice a2 ds.length c2)]) (stL L) (fun j => if r = j then (stL (ofR L (r : Int))) ++ [(ac, (r : Int))] else (fun j => stL (ofR L (j : Int))) j)) := by rw [eW]; exact HR1.out.ownSet hr HV3.out HG3.out HA3.out
    have HT3 : Hid (TouchW Tw w Ub2u8) := by rw [eW]; exact HT2.out.grown (grownBy_setCell _ _ _ _) (fun k e => by cases e; exact HTl.out)
    have HB3 : Hid (∀ k, (Value.slice (some ⟨g3, 0, none⟩) ((stL (ofR L (r : Int))).length + 1) c3).ownBlock = some k → F k ∨ w.heap.size ≤ k) := fun k e => by rcases HA3.out with h3 | ⟨k2, h3, h4⟩; exact .inl (HFo.out k (by rw [← h3]; exact e)); exact .inr (by rw [e] at h3; cases h3; have := HZ3.out; omega)
    rw [← eW] at hHeld ⊢
    clear eW hcl hfz HV3 HG3 HA3 HZ3 HR1 HT2
    refine wpAnyH_done (by kernel_rfl) ?_ _
    have HK2 : Hid (Ub2u8.heap[w.heap.size]? = some (.cells #[.int .i64 ac, .int .i64 (r : Int), .int .i64 sq, .slice a0 ds.length c0, .int .i64 kd, .int .i64 nc, .int .i64 nr, .int .i64 pc, .int .i64 pr, .int .i64 fc, .int .i64 fr, .string nm, .string vl] 38)) := hHeld
    clear hHeld
    go_wp2
    refine wp_region_held_drew (S := fun W' => W'.heap[w.heap.size]? = some (.cells #[.int .i64 ac, .int .i64 (r : Int), .int .i64 sq, .slice a0 ds.length c0, .int .i64 kd, .int .i64 nc, .int .i64 nr, .int .i64 pc, .int .i64 pr, .int .i64 fc, .int .i64 fr, .string nm, .string vl] 38) ∧ W'.cell? ⟨lb, 2, none⟩ = some ord) (by kernel_rfl) ⟨HK2.out, HR2.out.cell2⟩ (fun hHeld => ?_)
    obtain ⟨Uc5u0, eW⟩ : ∃ X, X = Ub2u8.drew := ⟨_, rfl⟩
    have hb : Below Ub2u8.heap.size Ub2u8 Uc5u0 := by rw [eW]; exact (Below.refl _ _).drew
    replace HR2 : Hid (LogR (fun k => (fun k => F k ∨ (Value.slice a2 ds.length c2).ownBlock = some k) k ∨ (Value.slice (some ⟨g3, 0, none⟩) ((stL (ofR L (r : Int))).length + 1) c3).ownBlock = some k) Uc5u0 lb room mb ord (own.set r (Value.slice (some ⟨g3, 0, none⟩) ((stL (ofR L (r : Int))).length + 1) c3)) (D ++ [((⟨ac, (r : Int), sq, ds, kd, nc, nr, pc, pr, fc, fr, nm, vl⟩ : Ch), .slice a2 ds.length c2)]) (stL L) (fun j => if r = j then (stL (ofR L (r : Int))) ++ [(ac, (r : Int))] else (fun j => stL (ofR L (j : Int))) j)) := HR2.out.below hb
    replace HT3 : Hid (TouchW Tw w Uc5u0) := HT3.out.below hb
    rw [← eW] at hHeld ⊢
    clear eW hb
    refine tkW 0 (some 34) (v := ?_) ?_ hHeld ?_
    rotate_left
    · (intro w _; go_simp; try with_reducible rfl)
    refine tkW 1 (some 35) (v := ?_) ?_ hHeld ?_
    rotate_left
    · (intro w hSw; (try dsimp only at hSw); obtain ⟨hk, hc2⟩ := hSw; obtain ⟨k_0, k_1, k_2, k_3, k_4, k_5, k_6, k_7, k_8, k_9, k_10, k_11, k_12⟩ := row_cells hk; go_simp; try with_reducible rfl)
    refine tkW 2 (some 36) (v := ?_) ?_ hHeld ?_
    rotate_left
    · (intro w _; go_simp; try with_reducible rfl)
    refine tkW 3 (some 37) (v := ?_) ?_ hHeld ?_
    rotate_left
    · (intro w hSw; (try dsimp only at hSw); obtain ⟨hk, hc2⟩ := hSw; obtain ⟨k_0, k_1, k_2, k_3, k_4, k_5, k_6, k_7, k_8, k_9, k_10, k_11, k_12⟩ := row_cells hk; go_simp; try with_reducible rfl)
    refine tkW 4 (some 38) (v := ?_) ?_ hHeld ?_
    rotate_left
    · (intro w _; go_simp; try with_reducible rfl)
    refine tkW 5 (some 39) (v := ?_) ?_ hHeld ?_
    rotate_left
    · (intro w hSw; (try dsimp only at hSw); obtain ⟨hk, hc2⟩ := hSw; obtain ⟨k_0, k_1, k_2, k_3, k_4, k_5, k_6, k_7, k_8, k_9, k_10, k_11, k_12⟩ := row_cells hk; go_simp; try with_reducible rfl)
    refine wpAnyH_ready (rs := [6]) (by kernel_rfl) (by simp) ?_
    refine AllReadyH.cons (o := ⟨some 40, _, _, _, _, _⟩) rfl (fun K hK => ?_) AllReadyH.nil
    go_simp
    refine (search_any ord (stL L) ac (r : Int) _ HR2.out.hord HLl.out HSr.out).mono ?_
    rintro e Uc5u1 ⟨⟨i, sb, rfl, hi1, hi2, hi3⟩, hb⟩
    (try go_wp2_with fail)
    refine hK.out _ _ (⟨(hb.block _ (Array.getElem?_eq_some_iff.1 hHeld.1).1).trans hHeld.1, (hb.cell (p := ⟨lb, 2, none⟩) (cell_lt hHeld.2)).trans hHeld.2⟩) (fun hHeld2 => ?_)
    clear hK K hHeld
    have hHeld := hHeld2
    clear hHeld2
    (try simp only [Act.put, List.setIfInBounds_toArray, List.set_cons_zero, List.set_cons_succ])
    replace HR2 : Hid (LogR (fun k => (fun k => F k ∨ (Value.slice a2 ds.length c2).ownBlock = some k) k ∨ (Value.slice (some ⟨g3, 0, none⟩) ((stL (ofR L (r : Int))).length + 1) c3).ownBlock = some k) Uc5u1 lb room mb ord (own.set r (Value.slice (some ⟨g3, 0, none⟩) ((stL (ofR L (r : Int))).length + 1) c3)) (D ++ [((⟨ac, (r : Int), sq, ds, kd, nc, nr, pc, pr, fc, fr, nm, vl⟩ : Ch), .slice a2 ds.length c2)]) (stL L) (fun j => if r = j then (stL (ofR L (r : Int))) ++ [(ac, (r : Int))] else (fun j => stL (ofR L (j : Int))) j)) := HR2.out.below hb
    replace HT3 : Hid (TouchW Tw w Uc5u1) := HT3.out.below hb
    have HI2 : Hid (∀ j (h : j < (stL L).length), j < i → lessS (stL L)[j].1 (stL L)[j].2 ac (r : Int) = true) := hi2
    have HI3 : Hid (∀ j (h : j < (stL L).length), i ≤ j → lessS (stL L)[j].1 (stL L)[j].2 ac (r : Int) = false) := hi3
    clear hi2 hi3
    clear hb
    refine tkW 7 (some 33) (v := ?_) ?_ hHeld ?_
    rotate_left
    · (intro w _; go_simp; try with_reducible rfl)
    refine tkW 8 (some 41) (v := ?_) ?_ hHeld ?_
    rotate_left
    · (intro w _; go_simp; try with_reducible rfl)
    refine tkW 9 (some 42) (v := ?_) ?_ hHeld ?_
    rotate_left
    · (intro w _; go_simp; try with_reducible rfl)
    refine tkW 10 (some 4) (v := ?_) ?_ hHeld ?_
    rotate_left
    · (intro w _; go_simp; try with_reducible rfl)
    refine tkW 11 (some 5) (v := ?_) ?_ hHeld ?_
    rotate_left
    · (intro w _; go_simp; try with_reducible rfl)
    refine wpAnyH_done (by kernel_rfl) ?_ _
    have HK3 : Hid (Uc5u1.heap[w.heap.size]? = some (.cells #[.int .i64 ac, .int .i64 (r : Int), .int .i64 sq, .slice a0 ds.length c0, .int .i64 kd, .int .i64 nc, .int .i64 nr, .int .i64 pc, .int .i64 pr, .int .i64 fc, .int .i64 fr, .string nm, .string vl] 38)) := hHeld.1
    clear hHeld
    go_wp2
    refine wp_region_held_drew (S := fun W' => W'.heap[w.heap.size]? = some (.cells #[.int .i64 ac, .int .i64 (r : Int), .int .i64 sq, .slice a0 ds.length c0, .int .i64 kd, .int .i64 nc, .int .i64 nr, .int .i64 pc, .int .i64 pr, .int .i64 fc, .int .i64 fr, .string nm, .string vl] 38)) (by kernel_rfl) HK3.out (fun hHeld => ?_)
    obtain ⟨Ud6u0, eW⟩ : ∃ X, X = Uc5u1.drew := ⟨_, rfl⟩
    have hb : Below Uc5u1.heap.size Uc5u1 Ud6u0 := by rw [eW]; exact (Below.refl _ _).drew
    replace HR2 : Hid (LogR (fun k => (fun k => F k ∨ (Value.slice a2 ds.length c2).ownBlock = some k) k ∨ (Value.slice (some ⟨g3, 0, none⟩) ((stL (ofR L (r : Int))).length + 1) c3).ownBlock = some k) Ud6u0 lb room mb ord (own.set r (Value.slice (some ⟨g3, 0, none⟩) ((stL (ofR L (r : Int))).length + 1) c3)) (D ++ [((⟨ac, (r : Int), sq, ds, kd, nc, nr, pc, pr, fc, fr, nm, vl⟩ : Ch), .slice a2 ds.length c2)]) (stL L) (fun j => if r = j then (stL (ofR L (r : Int))) ++ [(ac, (r : Int))] else (fun j => stL (ofR L (j : Int))) j)) := HR2.out.below hb
    replace HT3 : Hid (TouchW Tw w Ud6u0) := HT3.out.below hb
    rw [← eW] at hHeld ⊢
    clear eW hb
    refine tkW 0 (some 43) (v := ?_) ?_ hHeld ?_
    rotate_left
    · (intro w _; go_simp; try with_reducible rfl)
    refine tkW 1 (some 44) (v := ?_) ?_ hHeld ?_
    rotate_left
    · (intro w _; go_simp; try with_reducible rfl)
    refine tkW 2 (some 45) (v := ?_) ?_ hHeld ?_
    rotate_left
    · (intro w hSw; (try dsimp only at hSw); have hk := hSw; obtain ⟨k_0, k_1, k_2, k_3, k_4, k_5, k_6, k_7, k_8, k_9, k_10, k_11, k_12⟩ := row_cells hk; go_simp; try with_reducible rfl)
    refine tkW 3 (some 46) (v := ?_) ?_ hHeld ?_
    rotate_left
    · (intro w _; go_simp; try with_reducible rfl)
    refine tkW 5 (some 48) (v := ?_) ?_ hHeld ?_
    rotate_left
    · (intro w _; go_simp; try with_reducible rfl)
    refine tkW 6 (some 49) (v := ?_) ?_ hHeld ?_
    rotate_left
    · (intro w _; go_simp; try with_reducible rfl)
    refine tkW 7 (some 50) (v := ?_) ?_ hHeld ?_
    rotate_left
    · (intro w hSw; (try dsimp only at hSw); have hk := hSw; obtain ⟨k_0, k_1, k_2, k_3, k_4, k_5, k_6, k_7, k_8, k_9, k_10, k_11, k_12⟩ := row_cells hk; go_simp; try with_reducible rfl)
    refine wpAnyH_ready (rs := [4, 8]) (by kernel_rfl) (by simp) ?_
    refine AllReadyH.cons (o := ⟨some 47, _, _, _, _, _⟩) rfl (fun K hK => ?_) (AllReadyH.cons (o := ⟨some 51, _, _, _, _, _⟩) rfl (fun K hK => ?_) AllReadyH.nil)
    · have xo := HR2.out.cell2
      go_simp
      refine hK.out _ _ (hHeld) (fun hHeld2 => ?_)
      clear hK K hHeld
      have hHeld := hHeld2
      clear hHeld2
      (try simp only [Act.put, List.setIfInBounds_toArray, List.set_cons_zero, List.set_cons_succ])
      clear xo
      refine wpAnyH_ready (rs := [8]) (by kernel_rfl) (by simp) ?_
      refine AllReadyH.cons (o := ⟨some 51, _, _, _, _, _⟩) rfl (fun K hK => ?_) AllReadyH.nil
      have hW : w.heap.size < Ud6u0.heap.size := (Array.getElem?_eq_some_iff.1 hHeld).1
      go_simp
      refine hK.out _ _ ((Below.block ((Below.refl _ Ud6u0).alloc (Nat.le_refl _) _) _ (Array.getElem?_eq_some_iff.1 hHeld).1).trans hHeld) (fun hHeld2 => ?_)
      clear hK K hHeld
      have hHeld := hHeld2
      clear hHeld2
      (try simp only [Act.put, List.setIfInBounds_toArray, List.set_cons_zero, List.set_cons_succ])
      obtain ⟨Ud6u2, eW⟩ : ∃ X, X = Ud6u0.alloc (.cells #[.int .i64 ac, .int .i64 (r : Int)] 36) := ⟨_, rfl⟩
      have hb : Below Ud6u0.heap.size Ud6u0 Ud6u2 := by rw [eW]; exact (Below.refl _ _).alloc (Nat.le_refl _) _
      replace HR2 : Hid (LogR (fun k => (fun k => F k ∨ (Value.slice a2 ds.length c2).ownBlock = some k) k ∨ (Value.slice (some ⟨g3, 0, none⟩) ((stL (ofR L (r : Int))).length + 1) c3).ownBlock = some k) Ud6u2 lb room mb ord (own.set r (Value.slice (some ⟨g3, 0, none⟩) ((stL (ofR L (r : Int))).length + 1) c3)) (D ++ [((⟨ac, (r : Int), sq, ds, kd, nc, nr, pc, pr, fc, fr, nm, vl⟩ : Ch), .slice a2 ds.length c2)]) (stL L) (fun j => if r = j then (stL (ofR L (r : Int))) ++ [(ac, (r : Int))] else (fun j => stL (ofR L (j : Int))) j)) := HR2.out.below hb
      replace HT3 : Hid (TouchW Tw w Ud6u2) := HT3.out.below hb
      have HV : Hid (Ud6u2.heap[Ud6u0.heap.size]? = some (.cells #[.int .i64 ac, .int .i64 (r : Int)] 36)) := by rw [eW]; exact heap_alloc_new _ _
      rw [← eW] at hHeld ⊢
      clear eW
      obtain ⟨vb, evb⟩ : ∃ vb, vb = Ud6u0.heap.size := ⟨_, rfl⟩
      rw [← evb] at HV hW ⊢
      clear evb
      clear hb
      refine wpAnyH_ready (rs := [9]) (by kernel_rfl) (by simp) ?_
      refine AllReadyH.cons (o := ⟨some 52, _, _, _, _, _⟩) rfl (fun K hK => ?_) AllReadyH.nil
      go_simp
      refine (insert_any ord (stL L) i ac (r : Int) vb _ HR2.out.hord HLl.out hi1 HV.out (fun e => by have := HF.out _ (HFord.out _ e); omega)).mono ?_
      rintro e Ud6u3 ⟨v4, rfl, ho4, hg4, ha4⟩
      (try go_wp2_with fail)
      obtain ⟨IL, hIL⟩ : ∃ x, x = ((stL L).take i ++ (ac, (r : Int)) :: (stL L).drop i) := ⟨_, rfl⟩
      rw [← hIL] at ho4
      have HIL : Hid (IL = ((stL L).take i ++ (ac, (r : Int)) :: (stL L).drop i)) := hIL
      clear hIL
      have HV4 : Hid (S.OwnS 0 Ud6u3 v4 IL) := ho4
      have HG4 : Hid (Ud6u2.grownBy Ud6u3 ord.ownBlock) := hg4
      have HA4 : Hid (v4.ownBlock = ord.ownBlock ∨ ∃ k, v4.ownBlock = some k ∧ Ud6u2.heap.size ≤ k) := ha4
      have HZ4 : Hid (w.heap.size ≤ Ud6u2.heap.size) := HT3.out.size
      have HT4 : Hid (TouchW Tw w Ud6u3) := HT3.out.grown HG4.out HTd.out
      clear ho4 hg4 ha4
      obtain ⟨a4, c4, e4⟩ := HV4.out.form
      subst e4
      refine hK.out _ _ ((HG4.out.block _ (Array.getElem?_eq_some_iff.1 hHeld).1 (fun e => by have h1 := HF.out _ (HFord.out _ e.symm); omega)).trans hHeld) (fun hHeld2 => ?_)
      clear hK K hHeld
      have hHeld := hHeld2
      clear hHeld2
      (try simp only [Act.put, List.setIfInBounds_toArray, List.set_cons_zero, List.set_cons_succ])
      clear HV HT3
      refine tkW 10 (some 53) (v := ?_) ?_ hHeld ?_
      rotate_left
      · (intro w hSw; (try dsimp only at hSw); have hk := hSw; obtain ⟨k_0, k_1, k_2, k_3, k_4, k_5, k_6, k_7, k_8, k_9, k_10, k_11, k_12⟩ := row_cells hk; go_simp; try with_reducible rfl)
      refine tkW 11 (some 54) (v := ?_) ?_ hHeld ?_
      rotate_left
      · (intro w _; go_simp; try with_reducible rfl)
      refine wpAnyH_ready (rs := [12]) (by kernel_rfl) (by simp) ?_
      refine AllReadyH.cons (o := ⟨none, _, _, _, _, _⟩) rfl (fun K hK => ?_) AllReadyH.nil
      have hcl : Ud6u3.cell? ⟨lb, 2, none⟩ = some ord := (HG4.out.cell_far ⟨lb, 2, none⟩ (HR2.out.lt _ HR2.out.fl) (fun e => HR2.out.rowNe.1 e.symm)).trans HR2.out.cell2
      have hfz : Ud6u3.frozen? ⟨lb, 2, none⟩ = false := by rw [World.frozen?_of_block (HG4.out.block lb (HR2.out.lt _ HR2.out.fl) (fun e => HR2.out.rowNe.1 e.symm))]; exact HR2.out.free _
      go_simp
      refine hK.out _ _ ((RowKit.Below.heap_setCell _ _ _ _ (fun e => by have h1 := HF.out lb HFL.out; have e2 : w.heap.size = lb := e; omega)).trans hHeld) (fun hHeld2 => ?_)
      clear hK K hHeld
      have hHeld := hHeld2
      clear hHeld2
      (try simp only [Act.put, List.setIfInBounds_toArray, List.set_cons_zero, List.set_cons_succ])
      obtain ⟨Ud6u4, eW⟩ : ∃ X, X = Ud6u3.setCell ⟨lb, 2, none⟩ (Value.slice a4 IL.length c4) := ⟨_, rfl⟩
      have HR3 : Hid (LogR (fun k => (fun k => (fun k => F k ∨ (Value.slice a2 ds.length c2).ownBlock = some k) k ∨ (Value.slice (some ⟨g3, 0, none⟩) ((stL (ofR L (r : Int))).length + 1) c3).ownBlock = some k) k ∨ (Value.slice a4 IL.length c4).ownBlock = some k) Ud6u4 lb room mb (Value.slice a4 IL.length c4) (own.set r (Value.slice (some ⟨g3, 0, none⟩) ((stL (ofR L (r : Int))).length + 1) c3)) (D ++ [((⟨ac, (r : Int), sq, ds, kd, nc, nr, pc, pr, fc, fr, nm, vl⟩ : Ch), .slice a2 ds.length c2)]) IL (fun j => if r = j then (stL (ofR L (r : Int))) ++ [(ac, (r : Int))] else (fun j => stL (ofR L (j : Int))) j)) := by rw [eW]; exact HR2.out.ordSet HV4.out HG4.out HA4.out
      have HT5 : Hid (TouchW Tw w Ud6u4) := by rw [eW]; exact HT4.out.grown (grownBy_setCell _ _ _ _) (fun k e => by cases e; exact HTl.out)
      have HB4 : Hid (∀ k, (Value.slice a4 IL.length c4).ownBlock = some k → F k ∨ w.heap.size ≤ k) := fun k e => by rcases HA4.out with h3 | ⟨k2, h3, h4⟩; exact .inl (HFord.out k (by rw [← h3]; exact e)); exact .inr (by rw [e] at h3; cases h3; have := HZ4.out; omega)
      rw [← eW] at hHeld ⊢
      clear eW hcl hfz HV4 HG4 HA4 HZ4 HR2 HT4
      refine wpAnyH_done (by kernel_rfl) ?_ _
      clear hHeld
      go_wp2
      go_end0
      have eIL := HIL.out
      subst eIL
      exact ⟨⟨_, rfl⟩, (fun k => (fun k => (fun k => F k ∨ (Value.slice a2 ds.length c2).ownBlock = some k) k ∨ (Value.slice (some ⟨g3, 0, none⟩) ((stL (ofR L (r : Int))).length + 1) c3).ownBlock = some k) k ∨ (Value.slice a4 ((stL L).take i ++ (ac, (r : Int)) :: (stL L).drop i).length c4).ownBlock = some k), HR3.out.put_is HM.out hi1 HI2.out HI3.out HSrt.out HNn.out rfl HLast.out, fun k h => .inl (.inl (.inl h)), fun k h => by rcases h with ((h | h) | h) | h; exact .inl h; exact .inr (HB2.out k h); exact HB3.out k h; exact HB4.out k h, HT5.out⟩
    · have hW : w.heap.size < Ud6u0.heap.size := (Array.getElem?_eq_some_iff.1 hHeld).1
      go_simp
      refine hK.out _ _ ((Below.block ((Below.refl _ Ud6u0).alloc (Nat.le_refl _) _) _ (Array.getElem?_eq_some_iff.1 hHeld).1).trans hHeld) (fun hHeld2 => ?_)
      clear hK K hHeld
      have hHeld := hHeld2
      clear hHeld2
      (try simp only [Act.put, List.setIfInBounds_toArray, List.set_cons_zero, List.set_cons_succ])
      obtain ⟨Ud6u5, eW⟩ : ∃ X, X = Ud6u0.alloc (.cells #[.int .i64 ac, .int .i64 (r : Int)] 36) := ⟨_, rfl⟩
      have hb : Below Ud6u0.heap.size Ud6u0 Ud6u5 := by rw [eW]; exact (Below.refl _ _).alloc (Nat.le_refl _) _
      replace HR2 : Hid (LogR (fun k => (fun k => F k ∨ (Value.slice a2 ds.length c2).ownBlock = some k) k ∨ (Value.slice (some ⟨g3, 0, none⟩) ((stL (ofR L (r : Int))).length + 1) c3).ownBlock = some k) Ud6u5 lb room mb ord (own.set r (Value.slice (some ⟨g3, 0, none⟩) ((stL (ofR L (r : Int))).length + 1) c3)) (D ++ [((⟨ac, (r : Int), sq, ds, kd, nc, nr, pc, pr, fc, fr, nm, vl⟩ : Ch), .slice a2 ds.length c2)]) (stL L) (fun j => if r = j then (stL (ofR L (r : Int))) ++ [(ac, (r : Int))] else (fun j => stL (ofR L (j : Int))) j)) := HR2.out.below hb
      replace HT3 : Hid (TouchW Tw w Ud6u5) := HT3.out.below hb
      have HV : Hid (Ud6u5.heap[Ud6u0.heap.size]? = some (.cells #[.int .i64 ac, .int .i64 (r : Int)] 36)) := by rw [eW]; exact heap_alloc_new _ _
      rw [← eW] at hHeld ⊢
      clear eW
      obtain ⟨vb, evb⟩ : ∃ vb, vb = Ud6u0.heap.size := ⟨_, rfl⟩
      rw [← evb] at HV hW ⊢
      clear evb
      clear hb
      refine wpAnyH_ready (rs := [4]) (by kernel_rfl) (by simp) ?_
      refine AllReadyH.cons (o := ⟨some 47, _, _, _, _, _⟩) rfl (fun K hK => ?_) AllReadyH.nil
      have xo := HR2.out.cell2
      go_simp
      refine hK.out _ _ (hHeld) (fun hHeld2 => ?_)
      clear hK K hHeld
      have hHeld := hHeld2
      clear hHeld2
      (try simp only [Act.put, List.setIfInBounds_toArray, List.set_cons_zero, List.set_cons_succ])
      clear xo
      refine wpAnyH_ready (rs := [9]) (by kernel_rfl) (by simp) ?_
      refine AllReadyH.cons (o := ⟨some 52, _, _, _, _, _⟩) rfl (fun K hK => ?_) AllReadyH.nil
      go_simp
      refine (insert_any ord (stL L) i ac (r : Int) vb _ HR2.out.hord HLl.out hi1 HV.out (fun e => by have := HF.out _ (HFord.out _ e); omega)).mono ?_
      rintro e Ud6u7 ⟨v4, rfl, ho4, hg4, ha4⟩
      (try go_wp2_with fail)
      obtain ⟨IL, hIL⟩ : ∃ x, x = ((stL L).take i ++ (ac, (r : Int)) :: (stL L).drop i) := ⟨_, rfl⟩
      rw [← hIL] at ho4
      have HIL : Hid (IL = ((stL L).take i ++ (ac, (r : Int)) :: (stL L).drop i)) := hIL
      clear hIL
      have HV4 : Hid (S.OwnS 0 Ud6u7 v4 IL) := ho4
      have HG4 : Hid (Ud6u5.grownBy Ud6u7 ord.ownBlock) := hg4
      have HA4 : Hid (v4.ownBlock = ord.ownBlock ∨ ∃ k, v4.ownBlock = some k ∧ Ud6u5.heap.size ≤ k) := ha4
      have HZ4 : Hid (w.heap.size ≤ Ud6u5.heap.size) := HT3.out.size
      have HT4 : Hid (TouchW Tw w Ud6u7) := HT3.out.grown HG4.out HTd.out
      clear ho4 hg4 ha4
      obtain ⟨a4, c4, e4⟩ := HV4.out.form
      subst e4
      refine hK.out _ _ ((HG4.out.block _ (Array.getElem?_eq_some_iff.1 hHeld).1 (fun e => by have h1 := HF.out _ (HFord.out _ e.symm); omega)).trans hHeld) (fun hHeld2 => ?_)
      clear hK K hHeld
      have hHeld := hHeld2
      clear hHeld2
      (try simp only [Act.put, List.setIfInBounds_toArray, List.set_cons_zero, List.set_cons_succ])
      clear HV HT3
      refine tkW 10 (some 53) (v := ?_) ?_ hHeld ?_
      rotate_left
      · (intro w hSw; (try dsimp only at hSw); have hk := hSw; obtain ⟨k_0, k_1, k_2, k_3, k_4, k_5, k_6, k_7, k_8, k_9, k_10, k_11, k_12⟩ := row_cells hk; go_simp; try with_reducible rfl)
      refine tkW 11 (some 54) (v := ?_) ?_ hHeld ?_
      rotate_left
      · (intro w _; go_simp; try with_reducible rfl)
      refine wpAnyH_ready (rs := [12]) (by kernel_rfl) (by simp) ?_
      refine AllReadyH.cons (o := ⟨none, _, _, _, _, _⟩) rfl (fun K hK => ?_) AllReadyH.nil
      have hcl : Ud6u7.cell? ⟨lb, 2, none⟩ = some ord := (HG4.out.cell_far ⟨lb, 2, none⟩ (HR2.out.lt _ HR2.out.fl) (fun e => HR2.out.rowNe.1 e.symm)).trans HR2.out.cell2
      have hfz : Ud6u7.frozen? ⟨lb, 2, none⟩ = false := by rw [World.frozen?_of_block (HG4.out.block lb (HR2.out.lt _ HR2.out.fl) (fun e => HR2.out.rowNe.1 e.symm))]; exact HR2.out.free _
      go_simp
      refine hK.out _ _ ((RowKit.Below.heap_setCell _ _ _ _ (fun e => by have h1 := HF.out lb HFL.out; have e2 : w.heap.size = lb := e; omega)).trans hHeld) (fun hHeld2 => ?_)
      clear hK K hHeld
      have hHeld := hHeld2
      clear hHeld2
      (try simp only [Act.put, List.setIfInBounds_toArray, List.set_cons_zero, List.set_cons_succ])
      obtain ⟨Ud6u8, eW⟩ : ∃ X, X = Ud6u7.setCell ⟨lb, 2, none⟩ (Value.slice a4 IL.length c4) := ⟨_, rfl⟩
      have HR3 : Hid (LogR (fun k => (fun k => (fun k => F k ∨ (Value.slice a2 ds.length c2).ownBlock = some k) k ∨ (Value.slice (some ⟨g3, 0, none⟩) ((stL (ofR L (r : Int))).length + 1) c3).ownBlock = some k) k ∨ (Value.slice a4 IL.length c4).ownBlock = some k) Ud6u8 lb room mb (Value.slice a4 IL.length c4) (own.set r (Value.slice (some ⟨g3, 0, none⟩) ((stL (ofR L (r : Int))).length + 1) c3)) (D ++ [((⟨ac, (r : Int), sq, ds, kd, nc, nr, pc, pr, fc, fr, nm, vl⟩ : Ch), .slice a2 ds.length c2)]) IL (fun j => if r = j then (stL (ofR L (r : Int))) ++ [(ac, (r : Int))] else (fun j => stL (ofR L (j : Int))) j)) := by rw [eW]; exact HR2.out.ordSet HV4.out HG4.out HA4.out
      have HT5 : Hid (TouchW Tw w Ud6u8) := by rw [eW]; exact HT4.out.grown (grownBy_setCell _ _ _ _) (fun k e => by cases e; exact HTl.out)
      have HB4 : Hid (∀ k, (Value.slice a4 IL.length c4).ownBlock = some k → F k ∨ w.heap.size ≤ k) := fun k e => by rcases HA4.out with h3 | ⟨k2, h3, h4⟩; exact .inl (HFord.out k (by rw [← h3]; exact e)); exact .inr (by rw [e] at h3; cases h3; have := HZ4.out; omega)
      rw [← eW] at hHeld ⊢
      clear eW hcl hfz HV4 HG4 HA4 HZ4 HR2 HT4
      refine wpAnyH_done (by kernel_rfl) ?_ _
      clear hHeld
      go_wp2
      go_end0
      have eIL := HIL.out
      subst eIL
      exact ⟨⟨_, rfl⟩, (fun k => (fun k => (fun k => F k ∨ (Value.slice a2 ds.length c2).ownBlock = some k) k ∨ (Value.slice (some ⟨g3, 0, none⟩) ((stL (ofR L (r : Int))).length + 1) c3).ownBlock = some k) k ∨ (Value.slice a4 ((stL L).take i ++ (ac, (r : Int)) :: (stL L).drop i).length c4).ownBlock = some k), HR3.out.put_is HM.out hi1 HI2.out HI3.out HSrt.out HNn.out rfl HLast.out, fun k h => .inl (.inl (.inl h)), fun k h => by rcases h with ((h | h) | h) | h; exact .inl h; exact .inr (HB2.out k h); exact HB3.out k h; exact HB4.out k h, HT5.out⟩

theorem put_any (F : Nat → Prop) (lb : Nat) (room : Int) (L : List Ch) (mb : Nat) (ord : Value) (own : List Value) (D : List (Ch × Value)) (ac : Int) (r : Nat) (sq : Int) (dv : Value) (kd nc nr pc pr fc fr : Int) (nm vl : ByteArray) (ds : List Int) (w : World)
    (h : LogIs F w lb room L mb ord own D) (hdv : IsI w dv ds) (hsz : Sized (⟨ac, (r : Int), sq, ds, kd, nc, nr, pc, pr, fc, fr, nm, vl⟩ : Ch)) (hl : L.length < 4096) (hn : ∀ d ∈ L, ¬ (d.ac = ac ∧ d.ar = (r : Int))) (hs : Srt L) (hr64 : r < 64) (hlast : ofR (putC L (⟨ac, (r : Int), sq, ds, kd, nc, nr, pc, pr, fc, fr, nm, vl⟩ : Ch)) (r : Int) = ofR L (r : Int) ++ [(⟨ac, (r : Int), sq, ds, kd, nc, nr, pc, pr, fc, fr, nm, vl⟩ : Ch)]) :
    Calls Tryz.prog 22 #[.pointer (some ⟨lb, 0, none⟩), .agg #[.int .i64 ac, .int .i64 (r : Int), .int .i64 sq, dv, .int .i64 kd, .int .i64 nc, .int .i64 nr, .int .i64 pc, .int .i64 pr, .int .i64 fc, .int .i64 fr, .string nm, .string vl]] w fun e w' => PutP F lb room L (⟨ac, (r : Int), sq, ds, kd, nc, nr, pc, pr, fc, fr, nm, vl⟩ : Ch) w e w' :=
  (put_mb F lb room L mb ord own D ac r sq dv kd nc nr pc pr fc fr nm vl ds w h hdv hsz hl hn hs hr64 hlast F h.fl h.fm h.fr h.fo).mono fun e w' ⟨h1, F', ⟨ord', own', dv', h2⟩, h3⟩ => ⟨h1, F', ⟨mb, ord', own', _, h2⟩, h3⟩

end Go.Proofs.YtngldpabfpcaiaaGreat
