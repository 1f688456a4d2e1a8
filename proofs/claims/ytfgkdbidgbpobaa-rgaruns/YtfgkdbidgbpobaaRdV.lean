/- The document's below, Order, Stamps. -/
import Derived.Test.YtfgkdbidgbpobaaRdU
import Derived.Test.YtfgkdbidgbpobaaRdQ
namespace Go.Proofs.Ytfgkdbidgbpobaa
open Go.RowKit
set_option linter.unusedVariables false
set_option linter.unusedSimpArgs false

theorem OwnE.grown2 {α : Type} {enc : α → List Value} {n : Nat} {T : TypeId} {B : Nat} {w w' : World} {v : Value} {D : List α} (h : OwnE enc n T B w v D) {r : Option Nat} (hg : w.grownBy w' r) (hne : ∀ k, v.ownBlock = some k → r ≠ some k) : OwnE enc n T B w' v D := h.keep fun k e => hg.block k (h.lt k e).2 fun e2 => hne k e e2.symm
def belD (L K : List Sl) (i : Nat) : List Sl := (K.take i).flatMap fun k => k :: (bel L k.ts).map (slO L)
theorem belD_next (L K : List Sl) (i : Nat) (h : i < K.length) : belD L K (i + 1) = belD L K i ++ [K[i]] ++ (bel L K[i].ts).map (slO L) := by
  unfold belD
  rw [List.take_succ_eq_append_getElem h, List.flatMap_append, List.flatMap_cons, List.flatMap_nil]
  simp
theorem belD_all {L : List Sl} (h : GoodL L) {a : St} (ha : Nd L a) {K : List Sl} (hK : K = (kidL L a).reverse.map (slO L)) {i : Nat} (hi : K.length ≤ i) : belD L K i = (bel L a).map (slO L) := by
  unfold belD
  rw [List.take_of_length_le hi, hK, bel_eq h ha, List.map_flatMap, List.flatMap_map]
  rfl
theorem belD_len {L : List Sl} (h : GoodL L) {a : St} (ha : Nd L a) {K : List Sl} (hK : K = (kidL L a).reverse.map (slO L)) (i : Nat) : (belD L K i).length ≤ L.length := by
  have h1 := belD_all h ha hK (Nat.le_refl _)
  have h2 : (belD L K i).length ≤ (belD L K K.length).length := by
    unfold belD
    rw [List.take_length]
    have e : K.flatMap (fun k => k :: (bel L k.ts).map (slO L)) = (K.take i).flatMap (fun k => k :: (bel L k.ts).map (slO L)) ++ (K.drop i).flatMap (fun k => k :: (bel L k.ts).map (slO L)) := by rw [← List.flatMap_append, List.take_append_drop]
    rw [e, List.length_append]
    omega
  have h3 := bel_length h ha
  rw [h1, List.length_map] at h2
  omega
/-- What below answers. -/
def BelP (L : List Sl) (a : St) (w : World) (e : Ending) (w' : World) : Prop := ∃ D g c, D = (bel L a).map (slO L) ∧ e = .returned (.slice (some ⟨g, 0, none⟩) D.length c) ∧ OwnSl w.heap.size w' (.slice (some ⟨g, 0, none⟩) D.length c) D ∧ Below w.heap.size w w'

set_option maxRecDepth 100000 in
set_option maxHeartbeats 8000000 in
theorem refBelow_in (G : Nat → Prop) (v : Value) (L : List Sl) (hl : L.length ≤ 4096) (hG : GoodL L) : ∀ (n : Nat) (a : St) (w : World), Nd L a → latN L a < n → LsN G w v L → Calls Try.prog 27 #[v, .agg #[.int .i64 a.1, .int .i64 a.2]] w fun e w' => BelP L a w e w'
  | 0, a, w, _, h, _ => absurd h (Nat.not_lt_zero _)
  | n + 1, a, w, ha, hn, h => by
    have HIh : Hid (∀ (a : St) (w : World), Nd L a → latN L a < n → LsN G w v L → Calls Try.prog 27 #[v, .agg #[.int .i64 a.1, .int .i64 a.2]] w fun e w' => BelP L a w e w') := refBelow_in G v L hl hG n
    have HLw : Hid (LsN G w v L) := h
    have HNd : Hid (Nd L a) := ha
    have HG : Hid (GoodL L) := hG
    have HLat : Hid (latN L a < n + 1) := hn
    obtain ⟨b, o, cl, ev⟩ := h.sm
    clear h ha hn hG
    obtain ⟨isl, hisl, hz0sl, hz1sl, hz2sl⟩ := info_parts infoSlot
    obtain ⟨W0, eW⟩ : ∃ X, X = w.alloc (.cells (stCells a).toArray 33) := ⟨_, rfl⟩
    have hb0 : Below w.heap.size w W0 := by rw [eW]; exact (Below.refl _ _).alloc (Nat.le_refl _) _
    have hx0 : BxC w.heap.size (stCells a) 33 W0 := by rw [eW]; exact BxC.new w _ _
    have hs0 : W0.heap.size = w.heap.size + 1 := by rw [eW]; simp
    obtain ⟨W1, eW1⟩ : ∃ X, X = W0.alloc (.cells #[] 36) := ⟨_, rfl⟩
    have HN0 : Hid (BuR slCells 4 36 W0 (.slice (some ⟨w.heap.size + 1, 0, none⟩) 0 0) ([]) W1) := by
      have h9 := BuR.new W0
      rw [hs0] at h9
      rw [eW1]
      exact h9
    have hb1 : Below W0.heap.size W0 W1 := HN0.out.bel
    have hx1 := hx0.below hb1
    have x0 : W1.cell? ⟨w.heap.size, 0, none⟩ = some (.int .i64 a.1) := hx1.cell 0 _ rfl
    have x1 : W1.cell? ⟨w.heap.size, 1, none⟩ = some (.int .i64 a.2) := hx1.cell 1 _ rfl
    have HB0 : Hid (Below w.heap.size w W0) := hb0
    have HL1 : Hid (LsN G W1 v L) := (HLw.out.below hb0).below hb1
    have hs1 : W1.heap.size = w.heap.size + 2 := by rw [eW1]; simp; omega
    rw [eW1, eW] at x0 x1
    clear hx0 hx1 hb0 hb1 hs0
    subst ev
    go_enter Try.func27, Try.ntmps27
    go_wp2_with fail
    have eW2 := eW
    have eW3 := eW1
    simp only [stCells] at eW2
    rw [← eW2, ← eW3]
    clear eW2 eW3 eW eW1 x0 x1
    refine (refUnder_any G _ L a _ HL1.out hl HG.out).mono ?_
    rintro e w2 ⟨kg, kc, rfl, hk, hb⟩
    have HKe : Hid (undF L a L = (kidL L a).reverse.map (slO L)) := und_kids HG.out HNd.out
    obtain ⟨K, eK⟩ : ∃ K, K = undF L a L := ⟨_, rfl⟩
    rw [← eK] at hk HKe
    rw [← eK]
    clear eK
    obtain ⟨kb, ekb⟩ : ∃ x, x = W1.heap.size := ⟨_, rfl⟩
    rw [← ekb] at hk
    have hkl : kb ≤ kg := (hk.lt kg rfl).1
    have HK : Hid (OwnSl kb w2 (.slice (some ⟨kg, 0, none⟩) K.length kc) K) := hk
    have HBu : Hid (BuR slCells 4 36 W0 (.slice (some ⟨w.heap.size + 1, 0, none⟩) 0 0) ([]) w2) := HN0.out.below hb
    have hgk0 : w.heap.size + 1 ≠ kg := by omega
    have HKl0 : Hid (K.length ≤ 4096) := by (show _ ≤ _; rw [HKe.out, List.length_map, List.length_reverse]; unfold kidL; split; exact Nat.le_trans (frL_length L) hl; exact Nat.le_trans (behL_length L a) hl)
    have hKl := HKl0.out
    clear hk hb ekb HN0 HL1 hs1 hkl HKl0
    go_wp2
    go_loopw [5, 7, 8] (fun ov iv _ wr => ∃ (i g0 c0 : Nat) (D : List Sl), i ≤ K.length ∧ iv = .int .i64 (i : Int) ∧ g0 ≠ kg ∧ Hid (belD L K i = D) ∧ ov = (.slice (some ⟨g0, 0, none⟩) D.length c0) ∧ Hid (BuR slCells 4 36 W0 (.slice (some ⟨g0, 0, none⟩) D.length c0) (D) wr) ∧ Hid (OwnSl kb wr (.slice (some ⟨kg, 0, none⟩) K.length kc) K)) (fun _ iv _ _ => K.length - (intOf iv).toNat)
    case atStart => exact ⟨0, _, _, [], Nat.zero_le _, rfl, hgk0, rfl, rfl, HBu, HK⟩
    case round =>
      clear HBu HK
      obtain ⟨i, g0, c0, D, hi0, rfl, hgk, HDe, rfl, HBu, HK⟩ := hrel
      by_cases hiK : i < K.length
      · obtain ⟨y, ey⟩ : ∃ y, y = K[i] := ⟨_, rfl⟩
        have HYe : Hid (y = K[i]) := ey
        have HYk : Hid (y.ts ∈ kidL L a ∧ y = slO L y.ts) := by
          have h1 : y ∈ (kidL L a).reverse.map (slO L) := by rw [← HKe.out, ey]; exact List.getElem_mem hiK
          obtain ⟨k, hk, e⟩ := List.mem_map.1 h1
          rw [← e]
          exact ⟨List.mem_reverse.1 hk, rfl⟩
        obtain ⟨M, eM⟩ : ∃ M, M = (bel L y.ts).map (slO L) := ⟨_, rfl⟩
        obtain ⟨D5, eD5⟩ : ∃ D5, D5 = belD L K (i + 1) := ⟨_, rfl⟩
        have HD5 : Hid (D ++ [y] ++ M = D5) := by (show _ = _; rw [eD5, belD_next L K i hiK, HDe.out, eM, ← ey])
        have HD5e : Hid (belD L K (i + 1) = D5) := eD5.symm
        have hDl : D.length + 1 + M.length ≤ 4096 := by
          have h1 := belD_len HG.out HNd.out HKe.out (i + 1)
          rw [HD5e.out, ← HD5.out] at h1
          simp at h1
          omega
        have HM : Hid (M = (bel L y.ts).map (slO L)) := eM
        have k1 : (i : Int) < (K.length : Int) := by omega
        have k0 : (0 : Int) ≤ (i : Int) := by omega
        clear ey eM eD5
        have hyr : ∀ j u, (slCells y)[j]? = some u → wr.cell? ⟨kg, i * 4 + j, none⟩ = some u := (by rw [HYe.out]; exact HK.out.at4 (Below.refl _ _) hiK)
        have y0 : wr.cell? ⟨kg, i * 4, none⟩ = some (.int .i64 y.ts.1) := hyr 0 _ rfl
        have y1 : wr.cell? ⟨kg, i * 4 + 1, none⟩ = some (.int .i64 y.ts.2) := hyr 1 _ rfl
        have y2 : wr.cell? ⟨kg, i * 4 + 2, none⟩ = some (.int .i64 y.af.1) := hyr 2 _ rfl
        have y3 : wr.cell? ⟨kg, i * 4 + 3, none⟩ = some (.int .i64 y.af.2) := hyr 3 _ rfl
        clear hyr
        have halp : Below wr.heap.size wr (wr.alloc (.cells #[.int .i64 y.ts.1, .int .i64 y.ts.2, .int .i64 y.af.1, .int .i64 y.af.2] 36)) := (Below.refl _ _).alloc (Nat.le_refl _) _
        have HBap : Hid (BuR slCells 4 36 W0 (.slice (some ⟨g0, 0, none⟩) D.length c0) (D) (wr.alloc (.cells #[.int .i64 y.ts.1, .int .i64 y.ts.2, .int .i64 y.af.1, .int .i64 y.af.2] 36))) := HBu.out.below halp
        have HNwp : Hid (∀ j u, ([.int .i64 y.ts.1, .int .i64 y.ts.2, .int .i64 y.af.1, .int .i64 y.af.2] : List Value)[j]? = some u → (wr.alloc (.cells #[.int .i64 y.ts.1, .int .i64 y.ts.2, .int .i64 y.af.1, .int .i64 y.af.2] 36)).cell? ((⟨wr.heap.size, 0, none⟩ : Addr).add j) = some u) := fun j u hj => (by rw [Addr.add_lit, cell_of_row _ _ _ _ _ _ (heap_alloc_new wr _)]; simpa using hj)
        have hszp : W0.heap.size ≤ (wr.alloc (.cells #[.int .i64 y.ts.1, .int .i64 y.ts.2, .int .i64 y.af.1, .int .i64 y.af.2] 36)).heap.size := HBap.out.bel.size
        clear halp
        have HKa : Hid (OwnSl kb (wr.alloc (.cells #[.int .i64 y.ts.1, .int .i64 y.ts.2, .int .i64 y.af.1, .int .i64 y.af.2] 36)) (.slice (some ⟨kg, 0, none⟩) K.length kc) K) := HK.out.below ((Below.refl _ _).alloc (Nat.le_refl _) _)
        have HKl : Hid (kg < (wr.alloc (.cells #[.int .i64 y.ts.1, .int .i64 y.ts.2, .int .i64 y.af.1, .int .i64 y.af.2] 36)).heap.size) := (HKa.out.lt kg rfl).2
        have y0a := y0
        go_wp2_with (first
          | (at_builtin; refine wpList_append_own_at _ rfl _ _ 22 rfl W0.heap.size 36 isl (.agg #[.int .i64 0, .int .i64 0, .int .i64 0, .int .i64 0]) 4 32 Try.underlying22 hisl hz0sl hz1sl hz2sl rfl (by decide) _ _ _ rfl HBap.out.own ⟨wr.heap.size, 0, none⟩ 1 1 [.int .i64 y.ts.1, .int .i64 y.ts.2, .int .i64 y.af.1, .int .i64 y.af.2] rfl rfl HNwp.out (slCells_one y) (by unfold maxLen; omega) (by omega) hszp ?_; intro v3 w3 hown3 hgrow3 hnil3 hat3; obtain ⟨g3, c3, e3⟩ := own_succ hown3; subst e3; have HB3 : Hid (BuR slCells 4 36 W0 (.slice (some ⟨g3, 0, none⟩) (D.length + 1) c3) (D ++ [y]) w3) := HBap.out.push hown3 hgrow3; have HK3 : Hid (OwnSl kb w3 (.slice (some ⟨kg, 0, none⟩) K.length kc) K) := HKa.out.grown2 hgrow3 (fun k e h => hgk ((Option.some.inj (show some g0 = some k from h)).trans (Option.some.inj (show some kg = some k from e)).symm)); have hgk3 : g3 ≠ kg := (hat3.elim (fun h e => hgk ((Option.some.inj (show some g3 = some g0 from h)).symm.trans e)) (fun h e => Nat.lt_irrefl _ (Nat.lt_of_le_of_lt (Nat.le_of_eq ((Option.some.inj (show some g3 = some _ from h)).symm.trans e)) HKl.out))); clear y0 y1 y2 y3 y0a; replace HK := HK3; have hyr : ∀ j u, (slCells y)[j]? = some u → w3.cell? ⟨kg, i * 4 + j, none⟩ = some u := (by rw [HYe.out]; exact HK.out.at4 (Below.refl _ _) hiK); have y0 : w3.cell? ⟨kg, i * 4, none⟩ = some (.int .i64 y.ts.1) := hyr 0 _ rfl; have y1 : w3.cell? ⟨kg, i * 4 + 1, none⟩ = some (.int .i64 y.ts.2) := hyr 1 _ rfl; have y2 : w3.cell? ⟨kg, i * 4 + 2, none⟩ = some (.int .i64 y.af.1) := hyr 2 _ rfl; have y3 : w3.cell? ⟨kg, i * 4 + 3, none⟩ = some (.int .i64 y.af.2) := hyr 3 _ rfl; clear hyr;  clear HK3 hown3 hgrow3 hnil3 hat3 HBap HNwp hszp HKa HKl)
          | fail)
        refine (HIh.out y.ts w3 (.inr (kid_up HG.out HYk.out.1 HNd.out).1) (by have h1 := latN_lt (kid_up HG.out HYk.out.1 HNd.out).1 (kid_up HG.out HYk.out.1 HNd.out).2.2; have h2 := HLat.out; omega) ((HLw.out.below HB0.out).below HB3.out.bel)).mono ?_
        rintro e w4 ⟨M2, mg, mc, eM2, rfl, hm, hb⟩
        rw [← HM.out] at eM2
        subst eM2
        have HB4 : Hid (BuR slCells 4 36 W0 (.slice (some ⟨g3, 0, none⟩) (D.length + 1) c3) (D ++ [y]) w4) := HB3.out.below hb
        have HK4 : Hid (OwnSl kb w4 (.slice (some ⟨kg, 0, none⟩) K.length kc) K) := HK.out.below hb
        have HKl4 : Hid (kg < w4.heap.size) := (HK4.out.lt kg rfl).2
        have HC4 : Hid (∀ j u, (flatE slCells M2)[j]? = some u → w4.cell? ((⟨mg, 0, none⟩ : Addr).add j) = some u) := by
          obtain ⟨a9, cap9, e1, _, _, hr⟩ := hm.lsE (G := fun _ => True) slCells_len (by omega) (fun _ _ => trivial)
          injection e1 with e2 _ e3
          subst e2
          rcases hr with hr | ⟨b', o', e4, _, hlt, hr⟩
          · intro j u hj; rw [hr] at hj; simp [flatE] at hj
          · cases e4
            intro j u hj
            rw [Addr.add_lit]
            exact rows_flat slCells_len M2 0 hr j u hj
        have hsz4 : W0.heap.size ≤ w4.heap.size := HB4.out.bel.size
        clear hm hb HB3 HK y0 y1 y2 y3
        go_wp2_with (at_builtin; refine wpList_append_own_at _ rfl _ _ 22 rfl W0.heap.size 36 isl (.agg #[.int .i64 0, .int .i64 0, .int .i64 0, .int .i64 0]) 4 32 Try.underlying22 hisl hz0sl hz1sl hz2sl rfl (by decide) _ _ _ rfl HB4.out.own ⟨mg, 0, none⟩ M2.length mc (flatE slCells M2) rfl (flatE_length slCells_len M2) HC4.out (flat_sl M2) (by unfold maxLen; simp only [List.length_append, List.length_cons, List.length_nil]; omega) (by simp only [List.length_append, List.length_cons, List.length_nil]; omega) hsz4 ?_; intro v5 w5 hown3 hgrow3 hnil3 hat3; have h0 := HB4.out.pushes hown3 rfl hgrow3 hnil3; rw [HD5.out] at h0; obtain ⟨g5, c5, e5⟩ := h0.sm; subst e5; have HB5 : Hid (BuR slCells 4 36 W0 (.slice (some ⟨g5, 0, none⟩) D5.length c5) (D5) w5) := h0; have HK5 : Hid (OwnSl kb w5 (.slice (some ⟨kg, 0, none⟩) K.length kc) K) := HK4.out.grown2 hgrow3 (fun k e h => hgk3 ((Option.some.inj (show some g3 = some k from h)).trans (Option.some.inj (show some kg = some k from e)).symm)); have hgk5 : g5 ≠ kg := (hat3.elim (fun h e => hgk3 ((Option.some.inj (show some g5 = some g3 from h)).symm.trans e)) (fun h e => Nat.lt_irrefl _ (Nat.lt_of_le_of_lt (Nat.le_of_eq ((Option.some.inj (show some g5 = some _ from h)).symm.trans e)) HKl4.out))); clear h0 hown3 hgrow3 hnil3 hat3 HB4 HC4 hsz4 HK4 HKl4)
        go_roundw
        case rel => exact ⟨i + 1, g5, c5, D5, by omega, by go_num, hgk5, HD5e, rfl, HB5, HK5⟩
        case measure => simp [intOf]; omega
      · have HE : Hid (D = (bel L a).map (slO L)) := by (show _ = _; rw [← HDe.out]; exact belD_all HG.out HNd.out HKe.out (by omega))
        have HF : Hid (OwnSl w.heap.size wr (.slice (some ⟨g0, 0, none⟩) D.length c0) D ∧ Below w.heap.size w wr) := ⟨HBu.out.own.low HB0.out.size, HB0.out.trans (HBu.out.bel.mono HB0.out.size)⟩
        go_wp2
        go_ret
        exact ⟨D, g0, c0, HE.out, rfl, HF.out.1, HF.out.2⟩

set_option maxHeartbeats 1000000 in
theorem refOrder_any (G : Nat → Prop) (v : Value) (L : List Sl) (w : World) (hl : L.length ≤ 4096) (hG : GoodL L) (h : LsN G w v L) :
    Calls Try.prog 9 #[v] w fun e w' => BelP L z0 w e w' := by
  have HLw : Hid (LsN G w v L) := h
  have HG : Hid (GoodL L) := hG
  obtain ⟨b, o, cl, ev⟩ := h.sm
  subst ev
  clear h hG
  go_enter Try.func9, Try.ntmps9
  go_wp2_with fail
  refine (refBelow_in G _ L hl HG.out (latN L z0 + 1) z0 _ (.inl rfl) (Nat.lt_succ_self _) HLw.out).mono ?_
  rintro e w1 ⟨D, g, c, hD, rfl, ho, hb⟩
  have HD : Hid (D = (bel L z0).map (slO L)) := hD
  have HO : Hid (OwnSl w.heap.size w1 (.slice (some ⟨g, 0, none⟩) D.length c) D ∧ Below w.heap.size w w1) := ⟨ho, hb⟩
  clear hD ho hb
  go_wp2
  go_ret
  exact ⟨D, g, c, HD.out, rfl, HO.out.1, HO.out.2⟩

set_option maxRecDepth 100000 in
set_option maxHeartbeats 4000000 in
theorem refStamps_any (G : Nat → Prop) (v : Value) (L : List Sl) (w : World) (hl : L.length ≤ 4096) (h : LsE slCells 4 G w v L) :
    Calls Try.prog 12 #[v] w fun e w' => ∃ D g c, D = L.map Sl.ts ∧ e = .returned (.slice (some ⟨g, 0, none⟩) D.length c) ∧ OwnSt w.heap.size w' (.slice (some ⟨g, 0, none⟩) D.length c) D ∧ Below w.heap.size w w' := by
  obtain ⟨ist, hist, hz0st, hz1st, hz2st⟩ := info_parts infoStamp
  obtain ⟨a1, c1, e1⟩ := h.form
  subst e1
  have HLs : Hid (LsE slCells 4 G w (.slice a1 L.length c1) L) := h
  clear h
  have HN0 : Hid (BuR stCells 2 33 w (.slice (some ⟨w.heap.size, 0, none⟩) 0 0) [] (w.alloc (.cells #[] 33))) := BuR.newS w
  go_enter Try.func12, Try.ntmps12
  go_wp2
  go_loopw [3, 4] (fun ov iv wr => ∃ (i g0 c0 : Nat) (D : List St), i ≤ L.length ∧ iv = .int .i64 (i : Int) ∧ Hid ((L.take i).map Sl.ts = D) ∧ ov = (.slice (some ⟨g0, 0, none⟩) D.length c0) ∧ Hid (BuR stCells 2 33 w (.slice (some ⟨g0, 0, none⟩) D.length c0) D wr)) (fun _ iv _ => L.length - (intOf iv).toNat)
  case atStart => exact ⟨0, _, _, [], Nat.zero_le _, rfl, rfl, rfl, HN0⟩
  case round =>
    clear HN0
    obtain ⟨i, g0, c0, D, hi0, rfl, HDe, rfl, HBu⟩ := hrel
    have hdl : D.length = i := by (rw [← HDe.out]; simp; omega)
    by_cases hil : i < L.length
    · obtain ⟨b, o, cap, ev, hgb, hbl, hrow⟩ := HLs.out.row4 (i := i) hil
      injection ev with ev1 ev2 ev3
      subst ev1
      subst ev3
      obtain ⟨x, ex⟩ : ∃ x, x = L[i].ts := ⟨_, rfl⟩
      have r0 : wr.cell? ⟨b, o + i * 4, none⟩ = some (.int .i64 x.1) := (HBu.out.bel.cell (p := ⟨b, _, none⟩) hbl).trans (by rw [ex]; exact hrow 0 _ rfl)
      have r1 : wr.cell? ⟨b, o + i * 4 + 1, none⟩ = some (.int .i64 x.2) := (HBu.out.bel.cell (p := ⟨b, _, none⟩) hbl).trans (by rw [ex]; exact hrow 1 _ rfl)
      have HNx : Hid ((L.take (i + 1)).map Sl.ts = D ++ [x]) := by (show _ = _; rw [List.take_succ_eq_append_getElem hil, List.map_append, HDe.out, ex]; rfl)
      have k1 : (i : Int) < (L.length : Int) := by omega
      have k0 : (0 : Int) ≤ (i : Int) := by omega
      have hdl2 : D.length ≤ 4096 := by omega
      clear ex hrow hgb ev2 hdl
      have halp : Below wr.heap.size wr (wr.alloc (.cells #[.int .i64 x.1, .int .i64 x.2] 33)) := (Below.refl _ _).alloc (Nat.le_refl _) _
      have HBap : Hid (BuR stCells 2 33 w (.slice (some ⟨g0, 0, none⟩) D.length c0) (D) (wr.alloc (.cells #[.int .i64 x.1, .int .i64 x.2] 33))) := HBu.out.below halp
      have HNwp : Hid (∀ j u, ([.int .i64 x.1, .int .i64 x.2] : List Value)[j]? = some u → (wr.alloc (.cells #[.int .i64 x.1, .int .i64 x.2] 33)).cell? ((⟨wr.heap.size, 0, none⟩ : Addr).add j) = some u) := fun j u hj => (by rw [Addr.add_lit, cell_of_row _ _ _ _ _ _ (heap_alloc_new wr _)]; simpa using hj)
      have hszp : w.heap.size ≤ (wr.alloc (.cells #[.int .i64 x.1, .int .i64 x.2] 33)).heap.size := HBap.out.bel.size
      clear halp
      go_wp2_with (at_builtin; refine wpList_append_own_at _ rfl _ _ 38 rfl w.heap.size 33 ist (.agg #[.int .i64 0, .int .i64 0]) 2 16 Try.underlying38 hist hz0st hz1st hz2st rfl (by decide) _ _ _ rfl HBap.out.own ⟨wr.heap.size, 0, none⟩ 1 1 [.int .i64 x.1, .int .i64 x.2] rfl rfl HNwp.out (stCells_one x) (by unfold maxLen; omega) (by omega) hszp ?_; intro v3 w3 hown3 hgrow3 hnil3 hat3; obtain ⟨gp, cp, e3⟩ := own_succ hown3; subst e3; have HB3 : Hid (BuR stCells 2 33 w (.slice (some ⟨gp, 0, none⟩) (D.length + 1) cp) (D ++ [x]) w3) := HBap.out.push hown3 hgrow3; clear hown3 hgrow3 hnil3 hat3 HBap HNwp hszp; clear r0 r1)
      go_roundw
      case rel => exact ⟨i + 1, gp, cp, D ++ [x], by omega, by go_num, HNx, by simp, by (have h9 := HB3; simp only [List.length_append, List.length_cons, List.length_nil] at h9 ⊢; exact h9)⟩
      case measure => simp [intOf]; omega
    · have HE : Hid (D = L.map Sl.ts) := by (show _ = _; rw [← HDe.out, List.take_of_length_le (by omega)])
      clear hdl
      go_wp2
      go_ret
      exact ⟨D, g0, c0, HE.out, rfl, HBu.out.own, HBu.out.bel⟩

end Go.Proofs.Ytfgkdbidgbpobaa
