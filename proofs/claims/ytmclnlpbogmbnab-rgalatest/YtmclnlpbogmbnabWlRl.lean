/- RgaLatest: a slot that is later than all others. -/
import Derived.Test.YtmclnlpbogmbnabRdL
namespace Go.Proofs.Ytmclnlpbogmbnab
open Go.RowKit
set_option linter.unusedVariables false
set_option linter.unusedSimpArgs false

theorem ahead_latest {L : List Sl} (h : GoodL L) {x : St} (hx : hasL L x = true) (hm : ∀ t ∈ L, t.ts ≠ x → ltS t.ts x = true) {i : Nat} (hi : (kidL L (upO L x))[i]? = some x) : aheadO L x i = upO L x := by
  unfold aheadO
  cases e : (kidL L (upO L x))[i + 1]? with
  | none => rfl
  | some y =>
    exfalso
    obtain ⟨h1, e1⟩ := List.getElem?_eq_some_iff.1 hi
    obtain ⟨h2, e2⟩ := List.getElem?_eq_some_iff.1 e
    have h3 := (kidL_srt L (upO L x)).lt h1 h2 (Nat.lt_succ_self i)
    rw [e1, e2] at h3
    have h4 : y ∈ kidL L (upO L x) := by rw [← e2]; exact List.getElem_mem h2
    obtain ⟨t, ht, rfl⟩ := hasL_iff.1 (kid_up h h4 (up_kid h hx).2).1
    have h5 := hm t ht (fun e => ltS_ne h3 e.symm)
    rw [ltS_asym h5] at h3
    cases h3
theorem latest_lt {t : Sl} (h : okS t = true) (hn : t.ts ≠ (1099511627776, 63)) : ltS t.ts (1099511627776, 63) = true := by
  unfold okS at h
  simp only [Bool.and_eq_true, decide_eq_true_eq] at h
  obtain ⟨⟨c, r⟩, a⟩ := t
  rw [ltS_iff]
  have h1 := h.1
  simp only at h1 hn ⊢
  by_cases e : c = 1099511627776
  · right
    refine ⟨e, ?_⟩
    have : r ≠ 63 := fun e2 => hn (by rw [e, e2])
    omega
  · left; omega
theorem latest_up {L : List Sl} (h : GoodL L) {a : St} (ho : okS ⟨(1099511627776, 63), a⟩ = true) (hn : hasL L (1099511627776, 63) = false) : upO (L ++ [⟨(1099511627776, 63), a⟩]) (1099511627776, 63) = if hasL L a = true then a else z0 := by
  have hg := h.snoc ho hn
  have h1 : afO (L ++ [⟨(1099511627776, 63), a⟩]) (1099511627776, 63) = a := afO_mem (s := ⟨(1099511627776, 63), a⟩) hg (by simp)
  have h2 : hasL (L ++ [⟨(1099511627776, 63), a⟩]) a = hasL L a := by
    rw [hasL_snoc]
    have := okS_ne ho
    simp only at this
    have h3 : decide (((1099511627776, 63) : St) = a) = false := by simpa using fun e : ((1099511627776, 63) : St) = a => this e.symm
    rw [h3, Bool.or_false]
  unfold upO
  rw [h1, h2]
theorem latest_ahead {L : List Sl} (h : GoodL L) {a r : St} {b : Bool} (ho : okS ⟨(1099511627776, 63), a⟩ = true) (hn : hasL L (1099511627776, 63) = false) (hr : AhR (L ++ [⟨(1099511627776, 63), a⟩]) (1099511627776, 63) r b) : b = true ∧ r = if hasL L a = true then a else z0 := by
  have hg := h.snoc ho hn
  have hx : hasL (L ++ [⟨(1099511627776, 63), a⟩]) (1099511627776, 63) = true := hasL_iff.2 ⟨⟨(1099511627776, 63), a⟩, by simp, rfl⟩
  rcases hr with ⟨h1, _⟩ | ⟨_, hb, i, hi, rfl⟩
  · rw [hx] at h1; cases h1
  · exact ⟨hb, by rw [ahead_latest hg hx (fun t ht e => latest_lt (hg.ok t ht) e) hi, latest_up h ho hn]⟩

set_option maxRecDepth 100000 in
set_option maxHeartbeats 8000000 in
theorem rgaLatest_walk (v : Value) (l : List Sl) (a : St) (w : World) (h : IsSl w v l) :
    Calls Try.prog 3 #[v, .agg #[.int .i64 a.1, .int .i64 a.2]] w fun e w' => e = .returned (.bool true) ∧ Below w.heap.size w w' := by
  obtain ⟨W0, eW⟩ : ∃ X, X = w.alloc (.cells (stCells a).toArray 24) := ⟨_, rfl⟩
  have hb01 : Below w.heap.size w W0 := by rw [eW]; exact (Below.refl _ _).alloc (Nat.le_refl _) _
  have HA0 : Hid (BxC w.heap.size (stCells a) 24 W0) := by rw [eW]; exact BxC.new w _ _
  have HLs : Hid (IsSl W0 v l) := h.below hb01
  obtain ⟨a1, c1, e1⟩ := h.form
  subst e1
  clear h
  go_enter Try.func3, Try.ntmps3
  go_wp2_with fail
  have eW2 := eW
  simp only [stCells] at eW2
  rw [← eW2]
  clear eW2
  refine (laid_any _ l _ HLs.out).mono ?_
  rintro e w1 ⟨rb, F, b, o, c, rfl, hM⟩
  have HG : Hid (GoodL (laidL l)) := hM.row.good
  have HLn : Hid ((laidL l).length ≤ 120) := laidL_len l
  obtain ⟨L, eL⟩ : ∃ L, L = laidL l := ⟨_, rfl⟩
  rw [← eL] at hM HG HLn
  rw [← eL]
  clear eL
  have HM1 : Hid (LdS W0 rb F (.slice (some ⟨b, o, none⟩) L.length c) L L w1) := hM
  have HA1 : Hid (BxC w.heap.size (stCells a) 24 w1) := HA0.out.below hM.bel
  obtain ⟨w2, ew2⟩ : ∃ X, X = w1.alloc (.cells [.int .i64 1099511627776, .int .i64 63].toArray 24) := ⟨_, rfl⟩
  have hb2 : Below w1.heap.size w1 w2 := by rw [ew2]; exact (Below.refl _ _).alloc (Nat.le_refl _) _
  have HM : Hid (LdS W0 rb F (.slice (some ⟨b, o, none⟩) L.length c) L L w2) := hM.below hb2
  have HA : Hid (BxC w.heap.size (stCells a) 24 w2) := HA1.out.below hb2
  have HT0 : Hid (BxC w1.heap.size [.int .i64 1099511627776, .int .i64 63] 24 w2) := by rw [ew2]; exact BxC.new _ _ _
  have HNf : Hid (¬ F w.heap.size ∧ ¬ F w1.heap.size) := ⟨fun h => by have h1 := hM.hi _ h; have h2 : W0.heap.size = w.heap.size + 1 := (by rw [eW]; simp); omega, fun h => Nat.lt_irrefl _ (hM.row.lt _ h)⟩
  clear HA0 HLs hM HM1 HA1 hb2 eW
  obtain ⟨tb, etb⟩ : ∃ t, t = w1.heap.size := ⟨_, rfl⟩
  have HT : Hid (BxC tb [.int .i64 1099511627776, .int .i64 63] 24 w2) := by (rw [etb]; exact HT0.out)
  have x0 : w2.cell? ⟨w.heap.size, 0, none⟩ = some (.int .i64 a.1) := HA.out.cell 0 _ rfl
  have x1 : w2.cell? ⟨w.heap.size, 1, none⟩ = some (.int .i64 a.2) := HA.out.cell 1 _ rfl
  have t0 : w2.cell? ⟨tb, 0, none⟩ = some (.int .i64 1099511627776) := HT.out.cell 0 _ rfl
  have t1 : w2.cell? ⟨tb, 1, none⟩ = some (.int .i64 63) := HT.out.cell 1 _ rfl
  rw [ew2, etb] at t0 t1
  rw [ew2] at x0 x1
  go_wp2_with fail
  have ew3 := ew2
  rw [← ew3, ← etb]
  rw [← etb] at HNf
  clear ew3 ew2 etb HT0 x0 x1 t0 t1
  refine (add_any F rb L ⟨(1099511627776, 63), a⟩ _ HM.out.row (by have := HLn.out; omega)).mono ?_
  rintro e w3 hd
  obtain ⟨he, hd1⟩ := id hd
  subst he
  obtain ⟨F2, hM2⟩ := HM.out.did hd
  replace HM : Hid (LdS W0 rb F2 (.slice (some ⟨b, o, none⟩) L.length c) (addL L ⟨(1099511627776, 63), a⟩) L w3) := hM2
  obtain ⟨_, _, _, _, hto⟩ := hd1
  replace HA : Hid (BxC w.heap.size (stCells a) 24 w3) := HA.out.touch hto HNf.out.1
  replace HT : Hid (BxC tb [.int .i64 1099511627776, .int .i64 63] 24 w3) := HT.out.touch hto HNf.out.2
  clear hd hM2 hto HNf
  have x0 : w3.cell? ⟨w.heap.size, 0, none⟩ = some (.int .i64 a.1) := HA.out.cell 0 _ rfl
  have x1 : w3.cell? ⟨w.heap.size, 1, none⟩ = some (.int .i64 a.2) := HA.out.cell 1 _ rfl
  have t0 : w3.cell? ⟨tb, 0, none⟩ = some (.int .i64 1099511627776) := HT.out.cell 0 _ rfl
  have t1 : w3.cell? ⟨tb, 1, none⟩ = some (.int .i64 63) := HT.out.cell 1 _ rfl
  cases hO : okS ⟨(1099511627776, 63), a⟩ with
  | false =>
    have hC : addC L ⟨(1099511627776, 63), a⟩ = 2 := by unfold addC; simp [hO]
    rw [hC]
    cases hH : hasL L (1099511627776, 63) with
    | true =>
      go_wp2_with fail
      clear x0 x1 t0 t1
      refine (refHas_any (fun _ => True) _ L (1099511627776, 63) _ (HM.out.doc.ls.mono fun _ _ => trivial)).mono ?_
      rintro e w4 ⟨rfl, hb⟩
      replace HM : Hid (LdS W0 rb F2 (.slice (some ⟨b, o, none⟩) L.length c) (addL L ⟨(1099511627776, 63), a⟩) L w4) := HM.out.below hb
      replace HA : Hid (BxC w.heap.size (stCells a) 24 w4) := HA.out.below hb
      replace HT : Hid (BxC tb [.int .i64 1099511627776, .int .i64 63] 24 w4) := HT.out.below hb
      clear hb
      have x0 : w4.cell? ⟨w.heap.size, 0, none⟩ = some (.int .i64 a.1) := HA.out.cell 0 _ rfl
      have x1 : w4.cell? ⟨w.heap.size, 1, none⟩ = some (.int .i64 a.2) := HA.out.cell 1 _ rfl
      have t0 : w4.cell? ⟨tb, 0, none⟩ = some (.int .i64 1099511627776) := HT.out.cell 0 _ rfl
      have t1 : w4.cell? ⟨tb, 1, none⟩ = some (.int .i64 63) := HT.out.cell 1 _ rfl
      rw [hH]
      go_wp2_with fail
      clear x0 x1 t0 t1
      refine (awake_any _).mono ?_
      rintro e w5 ⟨rfl, hb⟩
      replace HM : Hid (LdS W0 rb F2 (.slice (some ⟨b, o, none⟩) L.length c) (addL L ⟨(1099511627776, 63), a⟩) L w5) := HM.out.below hb
      replace HA : Hid (BxC w.heap.size (stCells a) 24 w5) := HA.out.below hb
      replace HT : Hid (BxC tb [.int .i64 1099511627776, .int .i64 63] 24 w5) := HT.out.below hb
      clear hb
      have x0 : w5.cell? ⟨w.heap.size, 0, none⟩ = some (.int .i64 a.1) := HA.out.cell 0 _ rfl
      have x1 : w5.cell? ⟨w.heap.size, 1, none⟩ = some (.int .i64 a.2) := HA.out.cell 1 _ rfl
      have t0 : w5.cell? ⟨tb, 0, none⟩ = some (.int .i64 1099511627776) := HT.out.cell 0 _ rfl
      have t1 : w5.cell? ⟨tb, 1, none⟩ = some (.int .i64 63) := HT.out.cell 1 _ rfl
      go_wp2
      go_ret
      exact ⟨rfl, hb01.trans (HM.out.bel.mono hb01.size)⟩
    | false =>
      go_wp2_with fail
      clear x0 x1 t0 t1
      refine (refHas_any (fun _ => True) _ L (1099511627776, 63) _ (HM.out.doc.ls.mono fun _ _ => trivial)).mono ?_
      rintro e w4 ⟨rfl, hb⟩
      replace HM : Hid (LdS W0 rb F2 (.slice (some ⟨b, o, none⟩) L.length c) (addL L ⟨(1099511627776, 63), a⟩) L w4) := HM.out.below hb
      replace HA : Hid (BxC w.heap.size (stCells a) 24 w4) := HA.out.below hb
      replace HT : Hid (BxC tb [.int .i64 1099511627776, .int .i64 63] 24 w4) := HT.out.below hb
      clear hb
      have x0 : w4.cell? ⟨w.heap.size, 0, none⟩ = some (.int .i64 a.1) := HA.out.cell 0 _ rfl
      have x1 : w4.cell? ⟨w.heap.size, 1, none⟩ = some (.int .i64 a.2) := HA.out.cell 1 _ rfl
      have t0 : w4.cell? ⟨tb, 0, none⟩ = some (.int .i64 1099511627776) := HT.out.cell 0 _ rfl
      have t1 : w4.cell? ⟨tb, 1, none⟩ = some (.int .i64 63) := HT.out.cell 1 _ rfl
      rw [hH]
      go_wp2_with fail
      clear x0 x1 t0 t1
      refine (refOk_any ⟨(1099511627776, 63), a⟩ _).mono ?_
      rintro e w5 ⟨rfl, hb⟩
      replace HM : Hid (LdS W0 rb F2 (.slice (some ⟨b, o, none⟩) L.length c) (addL L ⟨(1099511627776, 63), a⟩) L w5) := HM.out.below hb
      replace HA : Hid (BxC w.heap.size (stCells a) 24 w5) := HA.out.below hb
      replace HT : Hid (BxC tb [.int .i64 1099511627776, .int .i64 63] 24 w5) := HT.out.below hb
      clear hb
      have x0 : w5.cell? ⟨w.heap.size, 0, none⟩ = some (.int .i64 a.1) := HA.out.cell 0 _ rfl
      have x1 : w5.cell? ⟨w.heap.size, 1, none⟩ = some (.int .i64 a.2) := HA.out.cell 1 _ rfl
      have t0 : w5.cell? ⟨tb, 0, none⟩ = some (.int .i64 1099511627776) := HT.out.cell 0 _ rfl
      have t1 : w5.cell? ⟨tb, 1, none⟩ = some (.int .i64 63) := HT.out.cell 1 _ rfl
      rw [hO]
      go_wp2_with fail
      clear x0 x1 t0 t1
      refine (awake_any _).mono ?_
      rintro e w6 ⟨rfl, hb⟩
      replace HM : Hid (LdS W0 rb F2 (.slice (some ⟨b, o, none⟩) L.length c) (addL L ⟨(1099511627776, 63), a⟩) L w6) := HM.out.below hb
      replace HA : Hid (BxC w.heap.size (stCells a) 24 w6) := HA.out.below hb
      replace HT : Hid (BxC tb [.int .i64 1099511627776, .int .i64 63] 24 w6) := HT.out.below hb
      clear hb
      have x0 : w6.cell? ⟨w.heap.size, 0, none⟩ = some (.int .i64 a.1) := HA.out.cell 0 _ rfl
      have x1 : w6.cell? ⟨w.heap.size, 1, none⟩ = some (.int .i64 a.2) := HA.out.cell 1 _ rfl
      have t0 : w6.cell? ⟨tb, 0, none⟩ = some (.int .i64 1099511627776) := HT.out.cell 0 _ rfl
      have t1 : w6.cell? ⟨tb, 1, none⟩ = some (.int .i64 63) := HT.out.cell 1 _ rfl
      go_wp2
      go_ret
      exact ⟨rfl, hb01.trans (HM.out.bel.mono hb01.size)⟩
  | true =>
    cases hH : hasL L (1099511627776, 63) with
    | true =>
      have hC : addC L ⟨(1099511627776, 63), a⟩ = 5 := by unfold addC; simp [hO, hH]
      rw [hC]
      go_wp2_with fail
      clear x0 x1 t0 t1
      refine (refHas_any (fun _ => True) _ L (1099511627776, 63) _ (HM.out.doc.ls.mono fun _ _ => trivial)).mono ?_
      rintro e w4 ⟨rfl, hb⟩
      replace HM : Hid (LdS W0 rb F2 (.slice (some ⟨b, o, none⟩) L.length c) (addL L ⟨(1099511627776, 63), a⟩) L w4) := HM.out.below hb
      replace HA : Hid (BxC w.heap.size (stCells a) 24 w4) := HA.out.below hb
      replace HT : Hid (BxC tb [.int .i64 1099511627776, .int .i64 63] 24 w4) := HT.out.below hb
      clear hb
      have x0 : w4.cell? ⟨w.heap.size, 0, none⟩ = some (.int .i64 a.1) := HA.out.cell 0 _ rfl
      have x1 : w4.cell? ⟨w.heap.size, 1, none⟩ = some (.int .i64 a.2) := HA.out.cell 1 _ rfl
      have t0 : w4.cell? ⟨tb, 0, none⟩ = some (.int .i64 1099511627776) := HT.out.cell 0 _ rfl
      have t1 : w4.cell? ⟨tb, 1, none⟩ = some (.int .i64 63) := HT.out.cell 1 _ rfl
      rw [hH]
      go_wp2_with fail
      clear x0 x1 t0 t1
      refine (awake_any _).mono ?_
      rintro e w5 ⟨rfl, hb⟩
      replace HM : Hid (LdS W0 rb F2 (.slice (some ⟨b, o, none⟩) L.length c) (addL L ⟨(1099511627776, 63), a⟩) L w5) := HM.out.below hb
      replace HA : Hid (BxC w.heap.size (stCells a) 24 w5) := HA.out.below hb
      replace HT : Hid (BxC tb [.int .i64 1099511627776, .int .i64 63] 24 w5) := HT.out.below hb
      clear hb
      have x0 : w5.cell? ⟨w.heap.size, 0, none⟩ = some (.int .i64 a.1) := HA.out.cell 0 _ rfl
      have x1 : w5.cell? ⟨w.heap.size, 1, none⟩ = some (.int .i64 a.2) := HA.out.cell 1 _ rfl
      have t0 : w5.cell? ⟨tb, 0, none⟩ = some (.int .i64 1099511627776) := HT.out.cell 0 _ rfl
      have t1 : w5.cell? ⟨tb, 1, none⟩ = some (.int .i64 63) := HT.out.cell 1 _ rfl
      go_wp2
      go_ret
      exact ⟨rfl, hb01.trans (HM.out.bel.mono hb01.size)⟩
    | false =>
      have hC : addC L ⟨(1099511627776, 63), a⟩ = 0 := by unfold addC; simp [hO, hH]
      have hL : addL L ⟨(1099511627776, 63), a⟩ = L ++ [⟨(1099511627776, 63), a⟩] := by unfold addL; simp [hO, hH]
      rw [hC]
      rw [hL] at HM
      have HO : Hid (okS ⟨(1099511627776, 63), a⟩ = true) := hO
      have HH : Hid (hasL L (1099511627776, 63) = false) := hH
      clear hC hL hO hH
      go_wp2_with fail
      clear x0 x1 t0 t1
      refine (ahead_any F2 rb (L ++ [⟨(1099511627776, 63), a⟩]) (1099511627776, 63) _ HM.out.row).mono ?_
      rintro e w4 ⟨r, bo, rfl, hr, hb⟩
      obtain ⟨ebo, er⟩ := latest_ahead HG.out HO.out HH.out hr
      subst ebo
      have HR : Hid (r = if hasL L a = true then a else z0) := er
      clear er hr
      obtain ⟨w5, ew5⟩ : ∃ X, X = w4.alloc (.cells [.int .i64 r.1, .int .i64 r.2].toArray 24) := ⟨_, rfl⟩
      have hb5 : Below w4.heap.size w4 w5 := by rw [ew5]; exact (Below.refl _ _).alloc (Nat.le_refl _) _
      replace hb := hb.trans (hb5.mono hb.size)
      replace HM : Hid (LdS W0 rb F2 (.slice (some ⟨b, o, none⟩) L.length c) (L ++ [⟨(1099511627776, 63), a⟩]) L w5) := HM.out.below hb
      replace HA : Hid (BxC w.heap.size (stCells a) 24 w5) := HA.out.below hb
      replace HT : Hid (BxC tb [.int .i64 1099511627776, .int .i64 63] 24 w5) := HT.out.below hb
      have HS0 : Hid (BxC w4.heap.size [.int .i64 r.1, .int .i64 r.2] 24 w5) := by rw [ew5]; exact BxC.new _ _ _
      obtain ⟨sb, esb⟩ : ∃ t, t = w4.heap.size := ⟨_, rfl⟩
      have HS : Hid (BxC sb [.int .i64 r.1, .int .i64 r.2] 24 w5) := by (rw [esb]; exact HS0.out)
      clear hb hb5
      have x0 : w5.cell? ⟨w.heap.size, 0, none⟩ = some (.int .i64 a.1) := HA.out.cell 0 _ rfl
      have x1 : w5.cell? ⟨w.heap.size, 1, none⟩ = some (.int .i64 a.2) := HA.out.cell 1 _ rfl
      have t0 : w5.cell? ⟨tb, 0, none⟩ = some (.int .i64 1099511627776) := HT.out.cell 0 _ rfl
      have t1 : w5.cell? ⟨tb, 1, none⟩ = some (.int .i64 63) := HT.out.cell 1 _ rfl
      have y0 : w5.cell? ⟨sb, 0, none⟩ = some (.int .i64 r.1) := HS.out.cell 0 _ rfl
      have y1 : w5.cell? ⟨sb, 1, none⟩ = some (.int .i64 r.2) := HS.out.cell 1 _ rfl
      rw [ew5] at x0 x1 t0 t1
      rw [ew5, esb] at y0 y1
      go_wp2_with fail
      have ew6 := ew5
      rw [← ew6, ← esb]
      clear ew6 ew5 esb HS0
      clear x0 x1 t0 t1 y0 y1
      refine (refHas_any (fun _ => True) _ L a _ (HM.out.doc.ls.mono fun _ _ => trivial)).mono ?_
      rintro e w6 ⟨rfl, hb⟩
      replace HM : Hid (LdS W0 rb F2 (.slice (some ⟨b, o, none⟩) L.length c) (L ++ [⟨(1099511627776, 63), a⟩]) L w6) := HM.out.below hb
      replace HA : Hid (BxC w.heap.size (stCells a) 24 w6) := HA.out.below hb
      replace HT : Hid (BxC tb [.int .i64 1099511627776, .int .i64 63] 24 w6) := HT.out.below hb
      replace HS : Hid (BxC sb [.int .i64 r.1, .int .i64 r.2] 24 w6) := HS.out.below hb
      clear hb
      have x0 : w6.cell? ⟨w.heap.size, 0, none⟩ = some (.int .i64 a.1) := HA.out.cell 0 _ rfl
      have x1 : w6.cell? ⟨w.heap.size, 1, none⟩ = some (.int .i64 a.2) := HA.out.cell 1 _ rfl
      have t0 : w6.cell? ⟨tb, 0, none⟩ = some (.int .i64 1099511627776) := HT.out.cell 0 _ rfl
      have t1 : w6.cell? ⟨tb, 1, none⟩ = some (.int .i64 63) := HT.out.cell 1 _ rfl
      have y0 : w6.cell? ⟨sb, 0, none⟩ = some (.int .i64 r.1) := HS.out.cell 0 _ rfl
      have y1 : w6.cell? ⟨sb, 1, none⟩ = some (.int .i64 r.2) := HS.out.cell 1 _ rfl
      cases hHa : hasL L a with
      | true =>
        have hr : a = r := by (have h9 := HR.out; rw [hHa] at h9; exact h9.symm)
        subst hr
        go_wp2_with fail
        clear x0 x1 t0 t1 y0 y1
        refine (awake_any _).mono ?_
        rintro e w7 ⟨rfl, hb⟩
        replace HM : Hid (LdS W0 rb F2 (.slice (some ⟨b, o, none⟩) L.length c) (L ++ [⟨(1099511627776, 63), a⟩]) L w7) := HM.out.below hb
        replace HA : Hid (BxC w.heap.size (stCells a) 24 w7) := HA.out.below hb
        replace HT : Hid (BxC tb [.int .i64 1099511627776, .int .i64 63] 24 w7) := HT.out.below hb
        replace HS : Hid (BxC sb [.int .i64 a.1, .int .i64 a.2] 24 w7) := HS.out.below hb
        clear hb
        have x0 : w7.cell? ⟨w.heap.size, 0, none⟩ = some (.int .i64 a.1) := HA.out.cell 0 _ rfl
        have x1 : w7.cell? ⟨w.heap.size, 1, none⟩ = some (.int .i64 a.2) := HA.out.cell 1 _ rfl
        have t0 : w7.cell? ⟨tb, 0, none⟩ = some (.int .i64 1099511627776) := HT.out.cell 0 _ rfl
        have t1 : w7.cell? ⟨tb, 1, none⟩ = some (.int .i64 63) := HT.out.cell 1 _ rfl
        have y0 : w7.cell? ⟨sb, 0, none⟩ = some (.int .i64 a.1) := HS.out.cell 0 _ rfl
        have y1 : w7.cell? ⟨sb, 1, none⟩ = some (.int .i64 a.2) := HS.out.cell 1 _ rfl
        go_wp2
        go_ret
        exact ⟨rfl, hb01.trans (HM.out.bel.mono hb01.size)⟩
      | false =>
        have hr : r = z0 := by (have h9 := HR.out; rw [hHa] at h9; exact h9)
        subst hr
        simp only [z0] at y0 y1
        go_wp2_with fail
        clear x0 x1 t0 t1 y0 y1
        refine (awake_any _).mono ?_
        rintro e w7 ⟨rfl, hb⟩
        replace HM : Hid (LdS W0 rb F2 (.slice (some ⟨b, o, none⟩) L.length c) (L ++ [⟨(1099511627776, 63), a⟩]) L w7) := HM.out.below hb
        replace HA : Hid (BxC w.heap.size (stCells a) 24 w7) := HA.out.below hb
        replace HT : Hid (BxC tb [.int .i64 1099511627776, .int .i64 63] 24 w7) := HT.out.below hb
        replace HS : Hid (BxC sb [.int .i64 z0.1, .int .i64 z0.2] 24 w7) := HS.out.below hb
        clear hb
        have x0 : w7.cell? ⟨w.heap.size, 0, none⟩ = some (.int .i64 a.1) := HA.out.cell 0 _ rfl
        have x1 : w7.cell? ⟨w.heap.size, 1, none⟩ = some (.int .i64 a.2) := HA.out.cell 1 _ rfl
        have t0 : w7.cell? ⟨tb, 0, none⟩ = some (.int .i64 1099511627776) := HT.out.cell 0 _ rfl
        have t1 : w7.cell? ⟨tb, 1, none⟩ = some (.int .i64 63) := HT.out.cell 1 _ rfl
        have y0 : w7.cell? ⟨sb, 0, none⟩ = some (.int .i64 z0.1) := HS.out.cell 0 _ rfl
        have y1 : w7.cell? ⟨sb, 1, none⟩ = some (.int .i64 z0.2) := HS.out.cell 1 _ rfl
        go_wp2
        go_ret
        exact ⟨rfl, hb01.trans (HM.out.bel.mono hb01.size)⟩

end Go.Proofs.Ytmclnlpbogmbnab
