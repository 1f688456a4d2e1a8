/- Rows that the document builds; its Add. -/
import Derived.Test.YtfgkdbidgbpobaaRdA
namespace Go.Proofs.Ytfgkdbidgbpobaa
open Go.RowKit
set_option linter.unusedVariables false
set_option linter.unusedSimpArgs false

/-- A row that is being built in new memory. -/
structure BuR {α : Type} (enc : α → List Value) (n : Nat) (T : TypeId) (W0 : World) (ov : Value) (D : List α) (W : World) : Prop where
  bel : Below W0.heap.size W0 W
  own : OwnE enc n T W0.heap.size W ov D
  sm : ∃ g c, ov = .slice (some ⟨g, 0, none⟩) D.length c
section
variable {α : Type} {enc : α → List Value} {n : Nat} {T : TypeId} {W0 : World} {ov : Value} {D E : List α} {W W' : World}
theorem BuR.below (h : BuR enc n T W0 ov D W) (hb : Below W.heap.size W W') : BuR enc n T W0 ov D W' := ⟨h.bel.trans (hb.mono h.bel.size), h.own.below hb, h.sm⟩
theorem BuR.push (h : BuR enc n T W0 ov D W) {g c : Nat} {x : α} (ho : W'.ownsRow W0.heap.size T n (.slice (some ⟨g, 0, none⟩) (D.length + 1) c) (D.length + 1) (flatE enc D ++ enc x)) (hg : W.grownBy W' ov.ownBlock) : BuR enc n T W0 (.slice (some ⟨g, 0, none⟩) (D.length + 1) c) (D ++ [x]) W' :=
  ⟨h.bel.grown hg h.bel.size (fun k e => (h.own.lt k e).1), OwnE.snoc rfl ho, g, c, by simp⟩
theorem BuR.out {Wk : World} (h : BuR enc n T Wk ov D W) (hb : Below W0.heap.size W0 Wk) : BuR enc n T W0 ov D W := ⟨hb.trans (h.bel.mono hb.size), h.own.low hb.size, h.sm⟩
theorem own_succ {w : World} {B : Nat} {v : Value} {k : Nat} {xs : List Value} (h : w.ownsRow B T n v (k + 1) xs) : ∃ g cap, v = .slice (some ⟨g, 0, none⟩) (k + 1) cap := by
  rcases h.2 with ⟨_, hn⟩ | ⟨g, cap, cur, rfl, _⟩
  · omega
  · exact ⟨g, cap, rfl⟩
theorem BuR.pushes (h : BuR enc n T W0 ov D W) {v : Value} {m : Nat} (ho : W'.ownsRow W0.heap.size T n v (D.length + m) (flatE enc D ++ flatE enc E)) (hm : E.length = m) (hg : W.grownBy W' ov.ownBlock) (hn : v = .slice none 0 0 ↔ ov = .slice none 0 0 ∧ m = 0) : BuR enc n T W0 v (D ++ E) W' := by
  refine ⟨h.bel.grown hg h.bel.size (fun k e => (h.own.lt k e).1), by (show World.ownsRow _ _ _ _ _ _ _; rw [List.length_append, hm, flatE_append]; exact ho), ?_⟩
  rcases ho.2 with ⟨e, _⟩ | ⟨g, cap, cur, e, _⟩
  · obtain ⟨g, c, e2⟩ := h.sm
    rw [e2] at hn
    cases (hn.1 e).1
  · exact ⟨g, cap, by rw [List.length_append, hm]; exact e⟩
theorem rows_flat (hn : ∀ x, (enc x).length = n) {b : Nat} : ∀ (D : List α) (o : Nat), (∀ i (h : i < D.length) j u, (enc D[i])[j]? = some u → W.cell? ⟨b, o + i * n + j, none⟩ = some u) → ∀ j u, (flatE enc D)[j]? = some u → W.cell? ⟨b, o + j, none⟩ = some u
  | [], o, _, j, u, hj => by simp [flatE] at hj
  | x :: D, o, h, j, u, hj => by
    rw [flatE_cons] at hj
    by_cases hjn : j < n
    · rw [List.getElem?_append_left (by rw [hn]; exact hjn)] at hj
      have := h 0 (by simp) j u hj
      rw [Nat.zero_mul, Nat.add_zero] at this
      exact this
    · rw [List.getElem?_append_right (by rw [hn]; omega), hn] at hj
      have := rows_flat hn D (o + n) (fun i hi k v hk => by
        have h2 := h (i + 1) (by simpa using hi) k v hk
        rw [Nat.add_mul, Nat.one_mul, show o + (i * n + n) + k = o + n + i * n + k by omega] at h2
        exact h2) (j - n) u hj
      rw [show o + n + (j - n) = o + j by omega] at this
      exact this
theorem BuR.lsE {G : Nat → Prop} (h : BuR enc n T W0 ov D W) (hn : ∀ x, (enc x).length = n) (hl : D.length ≤ 16384) (hG : ∀ j, W0.heap.size ≤ j → G j) : LsE enc n G W ov D := h.own.lsE hn (by omega) (fun k e => hG k (h.own.lt k e).1)
end
theorem BuR.new (W : World) : BuR slCells 4 36 W (.slice (some ⟨W.heap.size, 0, none⟩) 0 0) [] (W.alloc (.cells #[] 36)) :=
  ⟨(Below.refl _ _).alloc (Nat.le_refl _) _, World.ownsRow_made W #[] 0 (Nat.le_refl _) (by unfold maxLen; omega) (by simp), W.heap.size, 0, rfl⟩
/-- A list of slots that is no nil one. -/
structure LsN (G : Nat → Prop) (w : World) (v : Value) (L : List Sl) : Prop where
  ls : LsE slCells 4 G w v L
  sm : ∃ b o c, v = .slice (some ⟨b, o, none⟩) L.length c
section
variable {G : Nat → Prop} {w w' W : World} {v : Value} {L : List Sl} {b o cl : Nat}
theorem LsN.below (h : LsN G w v L) (hb : Below w.heap.size w w') : LsN G w' v L := ⟨h.ls.below hb, h.sm⟩
theorem LsN.touch (h : LsN G w v L) {F : Nat → Prop} (ht : Touch F w w') (hF : ∀ k, G k → ¬ F k) : LsN G w' v L := ⟨h.ls.touch ht hF, h.sm⟩
theorem LsN.mono {G' : Nat → Prop} (h : LsN G w v L) (hG : ∀ k, G k → G' k) : LsN G' w v L := ⟨h.ls.mono hG, h.sm⟩
theorem LsE.below2 {W0 : World} (h : LsE slCells 4 G W0 v L) (hb : Below W0.heap.size W0 W) : LsE slCells 4 G W v L := h.below hb
theorem LsE.at4 (h : LsE slCells 4 G w (.slice (some ⟨b, o, none⟩) L.length cl) L) (hb : Below w.heap.size w W) {i : Nat} (hi : i < L.length) {s : Sl} (e : s = L[i]) : ∀ j u, (slCells s)[j]? = some u → W.cell? ⟨b, o + i * 4 + j, none⟩ = some u := by
  obtain ⟨a, cap, e1, _, _, hr⟩ := h
  injection e1 with e2 _ e3
  subst e2
  obtain ⟨b', o', e4, _, hlt, hr⟩ := hr.resolve_left (by intro e; subst e; simp at hi)
  cases e4
  intro j u hj
  rw [e] at hj
  exact (hb.cell (p := ⟨b, _, none⟩) hlt).trans (hr i hi j u hj)
theorem OwnE.at4 {B : Nat} {D : List Sl} {g c : Nat} (h : OwnSl B w (.slice (some ⟨g, 0, none⟩) D.length c) D) (hb : Below w.heap.size w W) {k : Nat} (hk : k < D.length) : ∀ j u, (slCells D[k])[j]? = some u → W.cell? ⟨g, k * 4 + j, none⟩ = some u := by
  obtain ⟨g', cap, e, _, hcs, _⟩ := h.cells slCells_len hk
  cases e
  intro j u hj
  exact (hb.cell (p := ⟨g, _, none⟩) (h.lt g rfl).2).trans (hcs j u hj)
end
theorem flat_sl (D : List Sl) : ∀ u ∈ flatE slCells D, u.oneCell' = true := by
  intro u hu
  simp only [flatE, List.mem_flatMap] at hu
  obtain ⟨x, _, hu⟩ := hu
  exact slCells_one x u hu

set_option maxRecDepth 100000 in
set_option maxHeartbeats 4000000 in
theorem refAdd_any (G : Nat → Prop) (v : Value) (L : List Sl) (s : Sl) (w : World) (h : LsN G w v L) (hl : L.length < 4096) :
    Calls Try.prog 17 #[v, .agg #[.int .i64 s.ts.1, .int .i64 s.ts.2, .int .i64 s.af.1, .int .i64 s.af.2]] w fun e w' => ∃ v', e = .returned (.tuple #[v', .int .i64 (addC L s)]) ∧ LsN (fun j => G j ∨ w.heap.size ≤ j) w' v' (addL L s) ∧ Below w.heap.size w w' := by
  obtain ⟨h1, b, o, cl, rfl⟩ := h
  obtain ⟨isl, hisl, hz0sl, hz1sl, hz2sl⟩ := info_parts infoSlot
  obtain ⟨W0, eW⟩ : ∃ X, X = w.alloc (.cells (slCells s).toArray 36) := ⟨_, rfl⟩
  have hb0 : Below w.heap.size w W0 := by rw [eW]; exact (Below.refl _ _).alloc (Nat.le_refl _) _
  have HB : Hid (Below w.heap.size w W0) := hb0
  have HX : Hid (BxC w.heap.size (slCells s) 36 W0) := by rw [eW]; exact BxC.new w _ _
  have HL : Hid (LsE slCells 4 G W0 (.slice (some ⟨b, o, none⟩) L.length cl) L) := h1.below hb0
  clear h1 hb0
  have x0 : W0.cell? ⟨w.heap.size, 0, none⟩ = some (.int .i64 s.ts.1) := HX.out.cell 0 _ rfl
  have x1 : W0.cell? ⟨w.heap.size, 1, none⟩ = some (.int .i64 s.ts.2) := HX.out.cell 1 _ rfl
  have x2 : W0.cell? ⟨w.heap.size, 2, none⟩ = some (.int .i64 s.af.1) := HX.out.cell 2 _ rfl
  have x3 : W0.cell? ⟨w.heap.size, 3, none⟩ = some (.int .i64 s.af.2) := HX.out.cell 3 _ rfl
  rw [eW] at x0 x1 x2 x3
  go_enter Try.func17, Try.ntmps17
  go_wp2_with fail
  have eW2 := eW
  simp only [slCells] at eW2
  rw [← eW2]
  clear eW2 eW x0 x1 x2 x3
  refine (refOk_any s _).mono ?_
  rintro e w1 ⟨rfl, hb⟩
  replace HB : Hid (Below w.heap.size w w1) := HB.out.trans (hb.mono HB.out.size)
  replace HX : Hid (BxC w.heap.size (slCells s) 36 w1) := HX.out.below hb
  replace HL : Hid (LsE slCells 4 G w1 (.slice (some ⟨b, o, none⟩) L.length cl) L) := HL.out.below hb
  clear hb
  have x0 : w1.cell? ⟨w.heap.size, 0, none⟩ = some (.int .i64 s.ts.1) := HX.out.cell 0 _ rfl
  have x1 : w1.cell? ⟨w.heap.size, 1, none⟩ = some (.int .i64 s.ts.2) := HX.out.cell 1 _ rfl
  cases hO : okS s with
  | false =>
    have HLe : Hid (addL L s = L) := by (show _ = _; unfold addL; simp [hO])
    have HE : Hid (addC L s = 2) := by (show _ = _; unfold addC; simp [hO])
    go_wp2
    go_ret2
    exact ⟨_, by (rw [HE.out]; rfl), by (rw [HLe.out]; exact ⟨HL.out.mono fun _ h => .inl h, _, _, _, rfl⟩), HB.out⟩
  | true =>
    go_wp2_with fail
    refine (refHas_any G _ L s.ts _ HL.out).mono ?_
    rintro e w2 ⟨rfl, hb⟩
    replace HB : Hid (Below w.heap.size w w2) := HB.out.trans (hb.mono HB.out.size)
    replace HX : Hid (BxC w.heap.size (slCells s) 36 w2) := HX.out.below hb
    replace HL : Hid (LsE slCells 4 G w2 (.slice (some ⟨b, o, none⟩) L.length cl) L) := HL.out.below hb
    clear hb x0 x1
    cases hH : hasL L s.ts with
    | true =>
      have HLe : Hid (addL L s = L) := by (show _ = _; unfold addL; simp [hH])
      have HE : Hid (addC L s = 5) := by (show _ = _; unfold addC; simp [hO, hH])
      go_wp2
      go_ret2
      exact ⟨_, by (rw [HE.out]; rfl), by (rw [HLe.out]; exact ⟨HL.out.mono fun _ h => .inl h, _, _, _, rfl⟩), HB.out⟩
    | false =>
      have HLe : Hid (addL L s = L ++ [s]) := by (show _ = _; unfold addL; simp [hO, hH])
      have HE : Hid (addC L s = 0) := by (show _ = _; unfold addC; simp [hO, hH])
      clear hO hH
      have hal : Below w2.heap.size w2 (w2.alloc (.cells #[] 36)) := (Below.refl _ _).alloc (Nat.le_refl _) _
      have HN0 : Hid (BuR slCells 4 36 w2 (.slice (some ⟨w2.heap.size, 0, none⟩) 0 0) ([]) (w2.alloc (.cells #[] 36))) := BuR.new w2
      have HC : Hid (∀ j u, (flatE slCells L)[j]? = some u → (w2.alloc (.cells #[] 36)).cell? ((⟨b, o, none⟩ : Addr).add j) = some u) := by
        obtain ⟨a9, cap9, e1, _, _, hr⟩ := HL.out.below hal
        injection e1 with e2 _ e3
        subst e2
        rcases hr with hr | ⟨b', o', e4, _, hlt, hr⟩
        · intro j u hj; rw [hr] at hj; simp [flatE] at hj
        · cases e4
          intro j u hj
          rw [Addr.add_lit]
          exact rows_flat slCells_len L o hr j u hj
      have hsz0 : w2.heap.size ≤ (w2.alloc (.cells #[] 36)).heap.size := hal.size
      clear hal
      go_wp2_with (first
        | (at_builtin; refine wpList_append_own_at _ rfl _ _ 22 rfl w2.heap.size 36 isl (.agg #[.int .i64 0, .int .i64 0, .int .i64 0, .int .i64 0]) 4 32 Try.underlying22 hisl hz0sl hz1sl hz2sl rfl (by decide) _ _ _ rfl HN0.out.own ⟨b, o, none⟩ L.length cl (flatE slCells L) rfl (flatE_length slCells_len L) HC.out (flat_sl L) (by unfold maxLen; simp only [List.length_nil]; omega) (by simp only [List.length_nil]; omega) hsz0 ?_; intro v3 w3 hown3 hgrow3 hnil3 hat3; obtain ⟨g5, c5, e3⟩ := (HN0.out.pushes hown3 rfl hgrow3 hnil3).sm; subst e3; have HB7 : Hid (BuR slCells 4 36 w2 (.slice (some ⟨g5, 0, none⟩) ([] ++ L : List Sl).length c5) ([] ++ L) w3) := HN0.out.pushes hown3 rfl hgrow3 hnil3; clear hown3 hgrow3 hnil3 hat3 HN0 HC hsz0; replace HX : Hid (BxC w.heap.size (slCells s) 36 w3) := HX.out.below HB7.out.bel; have x0 : w3.cell? ⟨w.heap.size, 0, none⟩ = some (.int .i64 s.ts.1) := HX.out.cell 0 _ rfl; have x1 : w3.cell? ⟨w.heap.size, 1, none⟩ = some (.int .i64 s.ts.2) := HX.out.cell 1 _ rfl; have x2 : w3.cell? ⟨w.heap.size, 2, none⟩ = some (.int .i64 s.af.1) := HX.out.cell 2 _ rfl; have x3 : w3.cell? ⟨w.heap.size, 3, none⟩ = some (.int .i64 s.af.2) := HX.out.cell 3 _ rfl; have hEl : ([] ++ L : List Sl).length ≤ 4096 := (by simp only [List.nil_append]; omega); have halp : Below w3.heap.size w3 (w3.alloc (.cells #[.int .i64 s.ts.1, .int .i64 s.ts.2, .int .i64 s.af.1, .int .i64 s.af.2] 36)) := (Below.refl _ _).alloc (Nat.le_refl _) _; have HBap : Hid (BuR slCells 4 36 w2 (.slice (some ⟨g5, 0, none⟩) ([] ++ L : List Sl).length c5) ([] ++ L) (w3.alloc (.cells #[.int .i64 s.ts.1, .int .i64 s.ts.2, .int .i64 s.af.1, .int .i64 s.af.2] 36))) := HB7.out.below halp; have HNwp : Hid (∀ j u, ([.int .i64 s.ts.1, .int .i64 s.ts.2, .int .i64 s.af.1, .int .i64 s.af.2] : List Value)[j]? = some u → (w3.alloc (.cells #[.int .i64 s.ts.1, .int .i64 s.ts.2, .int .i64 s.af.1, .int .i64 s.af.2] 36)).cell? ((⟨w3.heap.size, 0, none⟩ : Addr).add j) = some u) := fun j u hj => (by rw [Addr.add_lit, cell_of_row _ _ _ _ _ _ (heap_alloc_new w3 _)]; simpa using hj); have hszp : w2.heap.size ≤ (w3.alloc (.cells #[.int .i64 s.ts.1, .int .i64 s.ts.2, .int .i64 s.af.1, .int .i64 s.af.2] 36)).heap.size := HBap.out.bel.size; clear halp)
        | (at_builtin; refine wpList_append_own_at _ rfl _ _ 22 rfl w2.heap.size 36 isl (.agg #[.int .i64 0, .int .i64 0, .int .i64 0, .int .i64 0]) 4 32 Try.underlying22 hisl hz0sl hz1sl hz2sl rfl (by decide) _ _ _ rfl HBap.out.own ⟨w3.heap.size, 0, none⟩ 1 1 [.int .i64 s.ts.1, .int .i64 s.ts.2, .int .i64 s.af.1, .int .i64 s.af.2] rfl rfl HNwp.out (slCells_one s) (by unfold maxLen; omega) (by omega) hszp ?_; intro v3 w8 hown3 hgrow3 hnil3 hat3; obtain ⟨gp, cp, e3⟩ := own_succ hown3; subst e3; have HB8 : Hid (BuR slCells 4 36 w2 (.slice (some ⟨gp, 0, none⟩) (([] ++ L : List Sl).length + 1) cp) ([] ++ L ++ [s]) w8) := HBap.out.push hown3 hgrow3; clear hown3 hgrow3 hnil3 hat3 HBap HNwp hszp))
      go_ret2
      exact ⟨_, by (rw [HE.out]; rfl), by (rw [HLe.out]; exact ⟨HB8.out.lsE slCells_len (by simp; omega) (fun j hj => .inr (Nat.le_trans HB.out.size hj)), HB8.out.sm.imp fun g ⟨c, e⟩ => ⟨0, c, e⟩⟩), HB.out.trans (HB8.out.bel.mono HB.out.size)⟩

end Go.Proofs.Ytfgkdbidgbpobaa
