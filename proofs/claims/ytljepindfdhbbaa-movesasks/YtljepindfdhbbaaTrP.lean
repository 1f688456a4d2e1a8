/- Kids: those that stand beneath a node, rising. -/
import Derived.Test.YtljepindfdhbbaaTrN
namespace Go.Proofs.Ytljepindfdhbbaa
open Go.RowKit
set_option linter.unusedVariables false
set_option linter.unusedSimpArgs false

def kidsL (T : List Pl) (s : St) : List St := (T.filter fun p => decide (p.pr = s)).map (·.nd)
theorem ups_ext {D T : List St} (h : D.Pairwise fun x y => ltS x y = true) (h2 : T.Pairwise fun x y => ltS x y = true) (hm : ∀ x, x ∈ D ↔ x ∈ T) : D = T := by
  induction D generalizing T with
  | nil =>
    cases T with
    | nil => rfl
    | cons y u => exact absurd ((hm y).2 (List.mem_cons_self ..)) (by simp)
  | cons x t ih =>
    cases T with
    | nil => exact absurd ((hm x).1 (List.mem_cons_self ..)) (by simp)
    | cons y u =>
      have h3 := List.pairwise_cons.1 h
      have h4 := List.pairwise_cons.1 h2
      have exy : x = y := by
        rcases List.mem_cons.1 ((hm x).1 (List.mem_cons_self ..)) with e | e
        · exact e
        · rcases List.mem_cons.1 ((hm y).2 (List.mem_cons_self ..)) with e2 | e2
          · exact e2.symm
          · have := ltS_asym (h3.1 y e2); rw [h4.1 x e] at this; cases this
      subst exy
      rw [ih h3.2 h4.2 fun p => ⟨fun hp => ?_, fun hp => ?_⟩]
      · rcases List.mem_cons.1 ((hm p).1 (List.mem_cons_of_mem _ hp)) with e | e
        · exact absurd (ltS_ne (h3.1 p hp)) (by rw [e]; simp)
        · exact e
      · rcases List.mem_cons.1 ((hm p).2 (List.mem_cons_of_mem _ hp)) with e | e
        · exact absurd (ltS_ne (h4.1 p hp)) (by rw [e]; simp)
        · exact e
theorem kidsL_srt {T : List Pl} (h : SrtT T) (s : St) : (kidsL T s).Pairwise fun x y => ltS x y = true := by
  unfold kidsL
  rw [List.pairwise_map]
  exact List.Pairwise.sublist List.filter_sublist h
theorem sort_kids {T E : List Pl} (h : SrtT T) (hp : E.Perm T) (s : St) : S.sortL (kidsL E s) = kidsL T s := by
  obtain ⟨h1, h2⟩ := S.sortL_ups (kidsL E s) (kidsL E s).length (Nat.le_refl _)
  rw [List.take_length] at h1 h2
  refine ups_ext ?_ (kidsL_srt h s) fun x => ?_
  · exact List.Pairwise.imp (fun {x y} h => (S.lessS_ltP x y).2 h) h1
  · rw [h2]
    exact ((hp.filter _).map _).mem_iff
/-- What stands while one goes over the map. -/
structure KdS (W1 : World) (ov : Value) (E : List St) (sb rb : Nat) (D R : List Pl) (pb : Nat) (s : St) (W : World) : Prop where
  bel : Below W1.heap.size W1 W
  own : OwnE stCells 2 27 W1.heap.size W ov E
  it : IterIs Pl.nd plV W sb rb D R
  rbl : W1.heap.size ≤ rb
  box : W.heap[pb]? = some (.cells (stCells s).toArray 27)
  pbl : pb < W1.heap.size
section
variable {W1 : World} {ov : Value} {E : List St} {sb rb : Nat} {D R : List Pl} {pb : Nat} {s : St} {W W' : World}
theorem KdS.below (h : KdS W1 ov E sb rb D R pb s W) (hb : Below W.heap.size W W') : KdS W1 ov E sb rb D R pb s W' := ⟨h.bel.trans (hb.mono h.bel.size), h.own.below hb, h.it.below hb, h.rbl, (hb.block _ (row_lt h.box)).trans h.box, h.pbl⟩
theorem KdS.step (h : KdS W1 ov E sb rb D R pb s W) {R' : List Pl} (hI : IterIs Pl.nd plV W' sb rb D R') (hg : W.grownBy W' (some rb)) : KdS W1 ov E sb rb D R' pb s W' := by
  refine ⟨h.bel.grown hg h.bel.size (fun k e => by cases e; exact h.rbl), h.own.keep fun k e => hg.block k (h.own.lt k e).2 (fun e2 => ?_), hI, h.rbl, (hg.block _ (row_lt h.box) (fun e => by have := h.rbl; have := h.pbl; cases e; omega)).trans h.box, h.pbl⟩
  cases e2
  obtain ⟨cur, hc⟩ := ownsRow_type h.own _ e
  obtain ⟨es, clock, since, seen, c0, h1, _⟩ := h.it
  rw [h1] at hc
  cases hc
theorem KdS.push (h : KdS W1 ov E sb rb D R pb s W) {v : Value} {x : St} (ho : W'.ownsRow W1.heap.size 27 2 v (E.length + 1) (flatE stCells E ++ [.int .i64 x.1, .int .i64 x.2])) (hg : W.grownBy W' ov.ownBlock) : KdS W1 v (E ++ [x]) sb rb D R pb s W' := by
  have hne : ∀ k (o : Obj), W.heap[k]? = some o → o.isCells = false → ov.ownBlock ≠ some k := fun k o hk ho2 e => by
    obtain ⟨cur, hc⟩ := ownsRow_type h.own k e
    rw [hc] at hk
    cases hk
    cases ho2
  refine ⟨h.bel.grown hg h.bel.size (fun k e => (h.own.lt k e).1), OwnE.snoc (x := x) rfl ho, ?_, h.rbl, (hg.block _ (row_lt h.box) (fun e => by have := (h.own.lt _ e.symm).1; have := h.pbl; omega)).trans h.box, h.pbl⟩
  obtain ⟨es, clock, since, seen, c0, h1, h2, _⟩ := h.it
  exact h.it.keep (hg.block _ (row_lt h2) (fun e => hne _ _ h2 rfl e.symm)) (hg.block _ (row_lt h1) (fun e => hne _ _ h1 rfl e.symm))
end
theorem kidsL_snoc (E : List Pl) (x : Pl) (s : St) : kidsL (E ++ [x]) s = kidsL E s ++ (if x.pr = s then [x.nd] else []) := by
  unfold kidsL
  rw [List.filter_append, List.map_append]
  by_cases h : x.pr = s <;> simp [h]

set_option maxRecDepth 100000 in
set_option maxHeartbeats 4000000 in
theorem kids_any (F : Nat → Prop) (v : Value) (L : List Mv) (s : St) (w : World) (h : TreeV F w v L) (hF : ∀ j, F j → j < w.heap.size) :
    Calls Try.prog 22 #[v, .agg #[.int .i64 s.1, .int .i64 s.2]] w fun e w' => ∃ v', e = .returned v' ∧ OwnE stCells 2 27 w.heap.size w' v' (kidsL (doneT L) s) ∧ AskP F w v L w' := by
  obtain ⟨i0, hi, hz0, hz1, hz2⟩ := info_parts infoStamp
  obtain ⟨W0, eW⟩ : ∃ X, X = w.alloc (.cells (stCells s).toArray 27) := ⟨_, rfl⟩
  have hb0 : Below w.heap.size w W0 := by rw [eW]; exact (Below.refl _ _).alloc (Nat.le_refl _) _
  have hr0 : W0.heap[w.heap.size]? = some (.cells (stCells s).toArray 27) := by rw [eW]; exact heap_alloc_new _ _
  have HR0 : Hid (W0.heap[w.heap.size]? = some (.cells (stCells s).toArray 27)) := hr0
  have HV : Hid (TreeV F W0 v L) := h.below hb0
  have HTo : Hid (Touch F w W0) := Touch.of_below hb0
  have HFl : Hid (∀ j, F j → j < w.heap.size) := hF
  obtain ⟨p, rfl⟩ : ∃ p, v = .pointer p := by rcases h with ⟨tb, rfl, _⟩ | ⟨rfl, _⟩ <;> exact ⟨_, rfl⟩
  clear h hb0 hr0 hF
  obtain ⟨T, eT⟩ : ∃ T, T = doneT L := ⟨_, rfl⟩
  rw [← eT]
  have HeT : Hid (T = doneT L) := eT
  clear eT
  go_enter Try.func22, Try.ntmps22
  go_wp2_with fail
  have eW2 := eW
  simp only [stCells] at eW2
  rw [← eW2]
  clear eW2 eW
  refine (redone_v F (.pointer p) L _ HV.out).mono ?_
  rintro e W1 ⟨tb, F2, P, lv, sb, kb, rfl, h1, h2, h3, h4, h5⟩
  have eT := HeT.out
  have t2 := h1.t2
  have hM : SMap W1 sb T := by (have h9 := h1.st; rw [List.take_of_length_le (by simp), h2, ← eT] at h9; exact h9)
  obtain ⟨D, hD, hDp⟩ := hM
  have HDp : Hid (D.Perm T) := hDp
  have HSr : Hid (SrtT T) := by rw [eT]; exact (goodT L).srt
  have HTs : Hid (T.length ≤ 4096) := by (rw [eT]; have h8 := doneT_length L; have h9 := h1.small; rw [← h2] at h8 ⊢; simp only [List.length_map] at h8; exact Nat.le_trans h8 h9)
  have HV1 : Hid (TreeV F W1 (.pointer p) L) := h4
  have HTo1 : Hid (Touch F w W1) := HTo.out.trans h3 (fun j hj => .inl hj)
  have hr1 : W1.heap[w.heap.size]? = some (.cells (stCells s).toArray 27) := (h3.block _ (row_lt HR0.out) (fun hj => by have := HFl.out _ hj; omega)).trans HR0.out
  obtain ⟨o, hrg, hIt⟩ := range_st _ _ uStands hD
  obtain ⟨W2, eW2⟩ : ∃ X, X = W1.alloc o := ⟨_, rfl⟩
  have hb2 : Below W1.heap.size W1 W2 := by rw [eW2]; exact (Below.refl _ _).alloc (Nat.le_refl _) _
  rw [← eW2] at hrg hIt
  have HK2 : Hid (KdS W1 (.slice none 0 0) [] sb W1.heap.size D D w.heap.size s W2) := ⟨hb2, OwnE.nil0 _ _, hIt, Nat.le_refl _, (hb2.block _ (row_lt hr1)).trans hr1, row_lt hr1⟩
  clear h1 h2 h3 h4 h5 HV HTo HR0 hr1 eT hD hDp hb2 hIt eW2
  go_wp2
  go_loopg [5] D.length (fun gk av wq => ∃ (E R : List Pl), gk = R.length ∧ Hid ((E ++ R).Perm D) ∧ Hid (KdS W1 av (kidsL E s) sb W1.heap.size D R w.heap.size s wq))
  case atStart => exact ⟨[], D, rfl, List.Perm.refl _, HK2⟩
  case round =>
    rename World => wq
    clear HK2 hrg t2
    obtain ⟨E, R, hgk, HPr, HK⟩ := hrel
    obtain ⟨a0, c0, e0⟩ := HK.out.own.form
    subst e0
    have hEl : (kidsL E s).length ≤ 4096 := by
      have h1 := HPr.out.length_eq
      have h2 := HDp.out.length_eq
      have h3 := HTs.out
      have h4 : (kidsL E s).length ≤ E.length := by unfold kidsL; rw [List.length_map]; exact List.length_filter_le _ _
      simp at h1
      omega
    rcases next_st HK.out.it 0 with ⟨hR, hnx⟩ | ⟨R1, x, R2, w1, hR, hnx, hI1, hg1, hz1, hen⟩
    · have HE : Hid (E.Perm T) := by (have h9 := HPr.out; rw [hR, List.append_nil] at h9; exact h9.trans HDp.out)
      clear hR hgk
      go_wp2_with fail
      refine (S.sort_any _ (kidsL E s) _ (S.OwnS.isS (B := W1.heap.size) HK.out.own (by omega))).mono ?_
      rintro e w3 ⟨v3, rfl, ho, hb⟩
      have HO : Hid (OwnE stCells 2 27 w.heap.size w3 v3 (kidsL T s)) := by
        have h9 : OwnE stCells 2 27 wq.heap.size w3 v3 (S.sortL (kidsL E s)) := ho
        rw [sort_kids HSr.out HE.out] at h9
        exact h9.low (Nat.le_trans HTo1.out.size HK.out.bel.size)
      have HBe : Hid (Below W1.heap.size W1 w3) := HK.out.bel.trans (hb.mono HK.out.bel.size)
      obtain ⟨a3, n3, c3, e3⟩ : ∃ a n c, v3 = .slice a n c := by obtain ⟨a, c, e⟩ := HO.out.form; exact ⟨a, _, c, e⟩
      subst e3
      clear ho hb
      go_wp2
      go_ret
      exact ⟨_, rfl, HO.out, HV1.out.below HBe.out, HTo1.out.trans (Touch.of_below (F := fun _ => False) HBe.out) (fun j h => h.elim)⟩
    · have HPy : Hid (((E ++ [x]) ++ (R1 ++ R2)).Perm D) := by
        have h9 := HPr.out
        rw [hR] at h9
        rw [List.append_assoc]
        show (E ++ x :: (R1 ++ R2)).Perm D
        exact (List.Perm.append_left E (List.perm_middle.symm)).trans h9
      have HGk : Hid (gk = (R1 ++ R2).length + 1) := by (rw [hgk, hR]; show _ = _; simp; omega)
      have hnx2 : (Instr.next (.pointer (some ⟨W1.heap.size, 0, none⟩)) false 0).run Try.prog wq = .ok (.tuple #[.bool true, .agg #[.int .i64 x.nd.1, .int .i64 x.nd.2], .agg #[.int .i64 x.nd.1, .int .i64 x.nd.2, .int .i64 x.pr.1, .int .i64 x.pr.2, .int .i64 x.sl.1, .int .i64 x.sl.2]]) w1 := hnx
      have hen2 : (Instr.entry (.pointer (some ⟨W1.heap.size, 0, none⟩))).run Try.prog w1 = .ok (.tuple #[.agg #[.int .i64 x.nd.1, .int .i64 x.nd.2], .agg #[.int .i64 x.nd.1, .int .i64 x.nd.2, .int .i64 x.pr.1, .int .i64 x.pr.2, .int .i64 x.sl.1, .int .i64 x.sl.2]]) w1 := hen
      obtain ⟨W4, eW4⟩ : ∃ X, X = (w1.alloc (.cells #[.int .i64 x.nd.1, .int .i64 x.nd.2] 27)).alloc (.cells #[.int .i64 x.nd.1, .int .i64 x.nd.2, .int .i64 x.pr.1, .int .i64 x.pr.2, .int .i64 x.sl.1, .int .i64 x.sl.2] 43) := ⟨_, rfl⟩
      have hb4 : Below w1.heap.size w1 W4 := by rw [eW4]; exact ((Below.refl _ _).alloc (Nat.le_refl _) _).alloc (by simp) _
      have HK4 : Hid (KdS W1 (.slice a0 (kidsL E s).length c0) (kidsL E s) sb W1.heap.size D (R1 ++ R2) w.heap.size s W4) := (HK.out.step hI1 hg1).below hb4
      have hx1 : W4.heap[w1.heap.size]? = some (.cells #[.int .i64 x.nd.1, .int .i64 x.nd.2] 27) := by rw [eW4]; exact (Below.heap_alloc _ _ _ (by simp)).trans (heap_alloc_new w1 _)
      have hx2 : W4.heap[w1.heap.size + 1]? = some (.cells #[.int .i64 x.nd.1, .int .i64 x.nd.2, .int .i64 x.pr.1, .int .i64 x.pr.2, .int .i64 x.sl.1, .int .i64 x.sl.2] 43) := by rw [eW4]; have := heap_alloc_new (w1.alloc (.cells #[.int .i64 x.nd.1, .int .i64 x.nd.2] 27)) (.cells #[.int .i64 x.nd.1, .int .i64 x.nd.2, .int .i64 x.pr.1, .int .i64 x.pr.2, .int .i64 x.sl.1, .int .i64 x.sl.2] 43); simpa using this
      have n0 : W4.cell? ⟨w1.heap.size, 0, none⟩ = some (.int .i64 x.nd.1) := by rw [cell_of_row W4 _ 0 _ _ _ hx1]; rfl
      have n1 : W4.cell? ⟨w1.heap.size, 1, none⟩ = some (.int .i64 x.nd.2) := by rw [cell_of_row W4 _ 1 _ _ _ hx1]; rfl
      have q2 : W4.cell? ⟨w1.heap.size + 1, 2, none⟩ = some (.int .i64 x.pr.1) := by rw [cell_of_row W4 _ 2 _ _ _ hx2]; rfl
      have q3 : W4.cell? ⟨w1.heap.size + 1, 3, none⟩ = some (.int .i64 x.pr.2) := by rw [cell_of_row W4 _ 3 _ _ _ hx2]; rfl
      have s0 : W4.cell? ⟨w.heap.size, 0, none⟩ = some (.int .i64 s.1) := by rw [cell_of_row W4 _ 0 _ _ _ HK4.out.box]; rfl
      have s1 : W4.cell? ⟨w.heap.size, 1, none⟩ = some (.int .i64 s.2) := by rw [cell_of_row W4 _ 1 _ _ _ HK4.out.box]; rfl
      have hsz4 : W4.heap.size = w1.heap.size + 1 + 1 := by rw [eW4]; simp
      have Hsz4 : Hid (W4.heap.size = w1.heap.size + 1 + 1) := hsz4
      have HeW : Hid (W4 = (w1.alloc (.cells #[.int .i64 x.nd.1, .int .i64 x.nd.2] 27)).alloc (.cells #[.int .i64 x.nd.1, .int .i64 x.nd.2, .int .i64 x.pr.1, .int .i64 x.pr.2, .int .i64 x.sl.1, .int .i64 x.sl.2] 43)) := eW4
      rw [eW4] at n0 n1 q2 q3 s0 s1
      clear hsz4 hb4 hx1 hx2 hI1 hg1 hz1 hR hnx hen eW4 HK hgk
      by_cases hps : x.pr = s
      · have HKs : Hid (kidsL (E ++ [x]) s = kidsL E s ++ [x.nd]) := by (show _ = _; rw [kidsL_snoc, if_pos hps])
        have heq : ∀ w, (binOp .eql 27 (.agg #[.int .i64 x.pr.1, .int .i64 x.pr.2]) (.agg #[.int .i64 s.1, .int .i64 s.2])).run Try.prog w = .ok (.bool true) w := fun w => by (rw [eqlSt, decide_eq_true (show (x.pr.1, x.pr.2) = (s.1, s.2) from hps)])
        clear hps
        have hb5 : Below W4.heap.size W4 (W4.alloc (.cells #[.int .i64 x.nd.1, .int .i64 x.nd.2] 27)) := (Below.refl _ _).alloc (Nat.le_refl _) _
        have HK5 : Hid (KdS W1 (.slice a0 (kidsL E s).length c0) (kidsL E s) sb W1.heap.size D (R1 ++ R2) w.heap.size s (W4.alloc (.cells #[.int .i64 x.nd.1, .int .i64 x.nd.2] 27))) := HK4.out.below hb5
        have HN5 : Hid (∀ j u, [Value.int .i64 x.nd.1, .int .i64 x.nd.2][j]? = some u → (W4.alloc (.cells #[.int .i64 x.nd.1, .int .i64 x.nd.2] 27)).cell? ((⟨w1.heap.size + 1 + 1, 0, none⟩ : Addr).add j) = some u) := fun j u hj => by
          rw [← Hsz4.out, Addr.add_lit, cell_of_row _ _ _ _ _ _ (heap_alloc_new W4 _)]
          simpa using hj
        have hsz5 : W1.heap.size ≤ (W4.alloc (.cells #[.int .i64 x.nd.1, .int .i64 x.nd.2] 27)).heap.size := HK5.out.bel.size
        rw [HeW.out] at HK5 HN5 hsz5
        clear hb5 HK4 Hsz4
        go_wp2_with (at_builtin; refine wpList_append_own_at _ rfl _ _ 48 rfl W1.heap.size 27 i0 (.agg #[.int .i64 0, .int .i64 0]) 2 16 Try.underlying48 hi hz0 hz1 hz2 rfl (by decide) _ _ _ rfl HK5.out.own ⟨w1.heap.size + 1 + 1, 0, none⟩ 1 1 [.int .i64 x.nd.1, .int .i64 x.nd.2] rfl rfl HN5.out (fun x hx => by simp at hx; rcases hx with rfl | rfl <;> rfl) (by unfold maxLen; omega) (by omega) hsz5 ?_; intro v3 w3 hown3 hgrow3 hnil3 hat3; have HK6 : Hid (KdS W1 v3 (kidsL E s ++ [x.nd]) sb W1.heap.size D (R1 ++ R2) w.heap.size s w3) := HK5.out.push hown3 hgrow3; clear hown3 hgrow3 hnil3 hat3)
        go_roundg (R1 ++ R2).length
        case measure => rw [HGk.out]; exact Nat.lt_succ_self _
        case rel => exact ⟨E ++ [x], R1 ++ R2, rfl, HPy, by (rw [HKs.out]; exact HK6)⟩
      · have HKs : Hid (kidsL (E ++ [x]) s = kidsL E s) := by (show _ = _; rw [kidsL_snoc, if_neg hps, List.append_nil])
        have heq : ∀ w, (binOp .eql 27 (.agg #[.int .i64 x.pr.1, .int .i64 x.pr.2]) (.agg #[.int .i64 s.1, .int .i64 s.2])).run Try.prog w = .ok (.bool false) w := fun w => by (rw [eqlSt, decide_eq_false (show ¬ (x.pr.1, x.pr.2) = (s.1, s.2) from hps)])
        clear hps
        go_wp2
        rw [← HeW.out]
        go_roundg (R1 ++ R2).length
        case measure => rw [HGk.out]; exact Nat.lt_succ_self _
        case rel => exact ⟨E ++ [x], R1 ++ R2, rfl, HPy, by (rw [HKs.out]; exact HK4)⟩

end Go.Proofs.Ytljepindfdhbbaa
