/- A node's attributes. -/
import Derived.Test.YtecliogffcnfiaaLwLa
import Derived.Test.YtecliogffcnfiaaLaysZ
import Derived.Test.YtecliogffcnfiaaLwF
import Derived.Laws.EntriesVeiled
import Derived.Maps.AppendAt
import Derived.OwnWalkIn
import Derived.RangeFuncBox
import Derived.Sort.OwnSorted
namespace Go.Proofs.Ytecliogffcnfiaa
open Go.RowKit Go.Shelf Go.Sort
set_option linter.unusedVariables false
set_option linter.unusedSimpArgs false

attribute [local go_sem] Oper.semAt_some

theorem infoAt : (Try.prog.info? 42).map (fun i => (i.zero, i.size, i.bytes)) = some (some (.agg #[.string ⟨#[]⟩, .string ⟨#[]⟩]), 2, 32) := by kernel_rfl
/-- Is it an attribute that stands? -/
def atB (r : Rg) : Bool := decide (r.nm.size ≠ 0) && !r.gn
/-- Of these the attributes. -/
def attL (Q : List Rg) : List (ByteArray × ByteArray) := (Q.filter atB).map fun r => (r.nm, r.vl)
theorem attL_snoc (Q : List Rg) (r : Rg) : attL (Q ++ [r]) = if atB r = true then attL Q ++ [(r.nm, r.vl)] else attL Q := by
  unfold attL
  rw [List.filter_append]
  by_cases h : atB r = true <;> simp [h]
theorem attL_len (Q : List Rg) : (attL Q).length ≤ Q.length := by unfold attL; rw [List.length_map]; exact List.length_filter_le _ _
/-- A node's attributes. -/
def attsR (R : List Rg) (s : St) : List (ByteArray × ByteArray) := attL (ofR R s)

set_option maxRecDepth 100000 in
set_option maxHeartbeats 8000000 in
theorem each_v (F : Nat → Prop) (v : Value) (R : List Rg) (s : St) (w : World) (h : RegV F w v R) (hFl : ∀ k, F k → k < w.heap.size) :
    Calls Try.prog 9 #[v, .agg #[.int .i64 s.1, .int .i64 s.2]] w fun e w' => ∃ B1 a c, e = .returned (.func (.func 24) #[] #[.pointer (some ⟨B1, 0, none⟩)]) ∧ w.heap.size ≤ B1 ∧ BxC B1 [.slice a (attsR R s).length c] 34 w' ∧ OwnAt w.heap.size w' (.slice a (attsR R s).length c) (attsR R s) ∧ Below w.heap.size w w' := by
  refine (callsIn_wide (n := 14)).1 ?_
  obtain ⟨iat, hiat, hz0, hz1, hz2⟩ := info_parts infoAt
  obtain ⟨p, rfl⟩ := h.ptr
  have hsm := h.small
  obtain ⟨v, ev⟩ : ∃ v, v = Value.pointer p := ⟨_, rfl⟩
  obtain ⟨W2, eW2⟩ : ∃ X, X = (w.alloc (.cells (stCells s).toArray 24)).alloc (.cells [.slice none 0 0].toArray 34) := ⟨_, rfl⟩
  have hb2 : Below w.heap.size w W2 := by rw [eW2]; exact ((Below.refl _ _).alloc (Nat.le_refl _) _).alloc (by simp) _
  have hn2 : BxC w.heap.size (stCells s) 24 W2 ∧ BxC (w.heap.size + 1) [.slice none 0 0] 34 W2 := by rw [eW2]; exact BxC.new2 w _ _ _ _
  have HO : Hid (BxC (w.heap.size + 1) [.slice none 0 0] 34 W2) := hn2.2
  have HB2 : Hid (Below w.heap.size w W2) := hb2
  have HV2 : Hid (RegV F W2 (.pointer p) R) := h.below hb2
  have HE2 : Hid (W2 = (w.alloc (.cells (stCells s).toArray 24)).alloc (.cells [.slice none 0 0].toArray 34)) := eW2
  have y0 := hn2.1.cell 0 _ rfl
  have y1 := hn2.1.cell 1 _ rfl
  rw [eW2] at y0 y1
  have HFl : Hid (∀ k, F k → k < w.heap.size) := hFl
  clear h hb2 hn2 eW2 hFl
  refine callsIn_of_wp_marksN Try.func9 rfl trivial ?_ rfl
  simp only [Try.ntmps9, List.size_toArray, List.length_cons, List.length_nil, Nat.reduceAdd, Nat.reduceSub, Array.replicate_succ, Array.replicate_zero, List.push_toArray, List.append_toArray, List.nil_append, List.cons_append]
  gi_wp2_with fail
  have HE3 := HE2.out
  simp only [stCells] at HE3
  rw [← HE3]
  clear HE3 HE2 y0 y1
  refine ⟨trivial, (callsIn_wide.2 (of_any _ s W2 ⟨_, rfl⟩)).mono ?_⟩
  rintro e W4 ⟨rfl, eW4⟩
  have hb4 : Below W2.heap.size W2 W4 := by rw [eW4]; exact ((Below.refl _ _).alloc (Nat.le_refl _) _).alloc (by simp) _
  have HY : Hid (BxC W2.heap.size [.pointer p] 27 W4 ∧ BxC (W2.heap.size + 1) (stCells s) 24 W4) := by rw [eW4]; exact BxC.new2 W2 _ _ _ _
  have HV4 : Hid (RegV F W4 (.pointer p) R) := HV2.out.below hb4
  obtain ⟨S4, eS4⟩ : ∃ S4 : Nat → Prop, S4 = fun k => F k ∨ k = W2.heap.size ∨ k = W2.heap.size + 1 := ⟨_, rfl⟩
  obtain ⟨b5, eb5⟩ : ∃ b, b = w.heap.size + 1 := ⟨_, rfl⟩
  have HSz : Hid (b5 < W2.heap.size ∧ W2.heap.size + 1 < W4.heap.size ∧ w.heap.size < b5) := ⟨by rw [eb5]; exact HO.out.lt, HY.out.2.lt, by omega⟩
  have HSl : Hid (∀ k, S4 k → k < W4.heap.size) := fun k hk => by
    have h1 := HSz.out
    rw [eS4] at hk
    rcases hk with hk | hk | hk
    · have := HFl.out k hk; omega
    · omega
    · omega
  have HA0 : Hid (ColB atCells 2 42 34 w W4 b5 S4 (.slice none 0 0) (attL ((ofR R s).take 0)) W4) := (by
    have h1 := HSz.out
    exact ⟨by rw [eb5]; exact HO.out.below hb4, OwnE.nil0 _ _, HB2.out.trans (hb4.mono HB2.out.size), KeepsS.refl _ _, HSl.out, by omega, by omega, fun hk => by
      rw [eS4] at hk
      rcases hk with hk | hk | hk
      · have := HFl.out _ hk; omega
      · omega
      · omega, fun k e => by cases e⟩)
  have HSq := of_seq (14 - 1) (by omega) W2.heap.size (W2.heap.size + 1) F S4 s R (.pointer p) W4 HY.out.1 HY.out.2 HV4.out (by rw [eS4]; exact .inr (.inl rfl)) (by rw [eS4]; exact .inr (.inr rfl)) (fun k hk => by rw [eS4]; exact .inl hk) HSl.out
  rw [← eb5, ← ev]
  clear eW4 hb4 eS4 eb5 HO HB2 HV2 HV4 HY ev
  have HQl : Hid ((ofR R s).length ≤ 4096) := Nat.le_trans (of_length R s) hsm
  have HQd : Hid (attL (ofR R s) = attsR R s) := rfl
  obtain ⟨Q, eQ⟩ : ∃ Q, Q = ofR R s := ⟨_, rfl⟩
  rw [← eQ] at HSq HA0 HQl HQd
  clear eQ
  gi_wp2
  refine range_of (by decide) (gf := 21) (lb := #[.pointer (some ⟨W2.heap.size, 0, none⟩), .pointer (some ⟨W2.heap.size + 1, 0, none⟩)]) rfl (enters_of Try.func21 (by kernel_rfl) rfl) HSq KpO.trans (KpO.loop HSl.out) (Below.refl _ _) (fun _ => rfl)
    (fun k W => ∃ ov, ColB atCells 2 42 34 w W4 b5 S4 ov (attL (Q.take k)) W) (fun _ _ _ => False)
    (fun k A B row ⟨ov, h1⟩ hg hr => ⟨ov, h1.grown hg hr⟩) (fun c k A B row hf _ _ => hf) ⟨_, HA0.out⟩
    (fun x a' W => ∃ Bx, W4.heap.size ≤ Bx ∧ BxC Bx (rgCells x) 26 W ∧ ∃ u1 u2 u3 u4 u7 u8 u9 u10 u11 u12 u13 u14 u15 u16 u17 u18 u19 u20 u21 u22 u23 u24 u25 u26 u27 u28 : Value, a' = { tmps := #[v, u1, u2, u3, u4, .pointer (some ⟨b5, 0, none⟩), .pointer (some ⟨Bx, 0, none⟩), u7, u8, u9, u10, u11, u12, u13, u14, u15, u16, u17, u18, u19, u20, u21, u22, u23, u24, u25, u26, u27, u28], defers := [] })
    (fun x a' u A B row ⟨Bx, h1, h2, h5⟩ hg hr => ⟨Bx, h1, row_own h2 hg (fun r e => (hr r e).2), h5⟩)
    ?assign ?body ?done ?stop
  case assign =>
    rintro l k hk Wa K ⟨ov, hA⟩ hK
    obtain ⟨z, hz⟩ : ∃ z, z = Q[k] := ⟨_, rfl⟩
    rw [← hz] at hK ⊢
    clear hz
    have hb : Below Wa.heap.size Wa (Wa.alloc (.cells (rgCells z).toArray 26)) := (Below.refl _ _).alloc (Nat.le_refl _) _
    have HFin : Hid (∀ a', (∃ u1 u2 u3 u4 u7 u8 u9 u10 u11 u12 u13 u14 u15 u16 u17 u18 u19 u20 u21 u22 u23 u24 u25 u26 u27 u28 : Value, a' = { tmps := #[v, u1, u2, u3, u4, .pointer (some ⟨b5, 0, none⟩), .pointer (some ⟨Wa.heap.size, 0, none⟩), u7, u8, u9, u10, u11, u12, u13, u14, u15, u16, u17, u18, u19, u20, u21, u22, u23, u24, u25, u26, u27, u28], defers := [] }) → K a' (Wa.alloc (.cells (rgCells z).toArray 26))) := fun a' e5 => hK a' (Wa.alloc (.cells (rgCells z).toArray 26)) (keepsFrom_below hb) (KpO.below hb (fun j hj => Nat.lt_of_lt_of_le (HSl.out j hj) hA.size)) ⟨ov, hA.below hb⟩ ⟨Wa.heap.size, hA.size, BxC.new _ _ _, e5⟩
    clear hK hb hA
    simp only [encR]
    gi_wp2
    exact HFin.out _ ⟨_, _, _, _, _, _, _, _, _, _, _, _, _, _, _, _, _, _, _, _, _, _, _, _, _, _, rfl⟩
  case body =>
    rintro l k hk a' Wb hlD ⟨ov, hA⟩ ⟨Bx, hx1, hx2, u1, u2, u3, u4, u7, u8, u9, u10, u11, u12, u13, u14, u15, u16, u17, u18, u19, u20, u21, u22, u23, u24, u25, u26, u27, u28, rfl⟩
    obtain ⟨x, hx⟩ : ∃ x, x = Q[k] := ⟨_, rfl⟩
    rw [← hx] at hx2
    have HTk : Hid (attL (Q.take (k + 1)) = if atB x = true then attL (Q.take k) ++ [(x.nm, x.vl)] else attL (Q.take k)) := by (show _ = _; rw [List.take_succ_eq_append_getElem hk, ← hx]; exact attL_snoc _ _)
    have hTl : (attL (Q.take k)).length ≤ 4096 := (by have := HQl.out; have h1 := attL_len (Q.take k); rw [List.length_take] at h1; omega)
    obtain ⟨E9, eE9⟩ : ∃ E9, E9 = attL (Q.take k) := ⟨_, rfl⟩
    rw [← eE9] at hA HTk hTl
    clear eE9 hx
    obtain ⟨aw, cw, eo⟩ := hA.own.form
    subst eo
    have HA : Hid (ColB atCells 2 42 34 w W4 b5 S4 (.slice aw E9.length cw) (E9) Wb) := hA
    clear hA
    have xo := HA.out.box.cell 0 _ rfl
    have x0 : Wb.cell? ⟨Bx, 0, none⟩ = some (.int .i64 x.nd.1) := hx2.cell 0 _ rfl
    have x1 : Wb.cell? ⟨Bx, 1, none⟩ = some (.int .i64 x.nd.2) := hx2.cell 1 _ rfl
    have x2 : Wb.cell? ⟨Bx, 2, none⟩ = some (.string x.nm) := hx2.cell 2 _ rfl
    have x3 : Wb.cell? ⟨Bx, 3, none⟩ = some (.int .i64 x.at_.1) := hx2.cell 3 _ rfl
    have x4 : Wb.cell? ⟨Bx, 4, none⟩ = some (.int .i64 x.at_.2) := hx2.cell 4 _ rfl
    have x5 : Wb.cell? ⟨Bx, 5, none⟩ = some (.string x.vl) := hx2.cell 5 _ rfl
    have x6 : Wb.cell? ⟨Bx, 6, none⟩ = some (.bool x.gn) := hx2.cell 6 _ rfl
    clear hx2
    by_cases hnm : x.nm.size = 0
    · have q1 := none_q hnm
      have HSk : Hid (attL (Q.take (k + 1)) = E9) := (by show _ = _; rw [HTk.out]; unfold atB; simp [hnm])
      clear hnm
      gi_wp2
      exact ⟨KeepsFrom.refl _ _, ⟨KeepsS.refl _ _, fun k cs fr e => e⟩, _, by rw [HSk.out]; exact HA.out⟩
    · have q1 := some_q hnm
      cases hg : x.gn with
      | true =>
        have HSk : Hid (attL (Q.take (k + 1)) = E9) := (by show _ = _; rw [HTk.out]; unfold atB; simp [hg])
        rw [hg] at x6
        clear hnm
        gi_wp2
        exact ⟨KeepsFrom.refl _ _, ⟨KeepsS.refl _ _, fun k cs fr e => e⟩, _, by rw [HSk.out]; exact HA.out⟩
      | false =>
        have HSk : Hid (attL (Q.take (k + 1)) = E9 ++ [(x.nm, x.vl)]) := (by show _ = _; rw [HTk.out]; unfold atB; simp [hg, hnm])
        rw [hg] at x6
        clear hnm
        have hal : Below Wb.heap.size Wb (Wb.alloc (.cells #[.string x.nm, .string x.vl] 42)) := (Below.refl _ _).alloc (Nat.le_refl _) _
        have HAa : Hid (ColB atCells 2 42 34 w W4 b5 S4 (.slice aw E9.length cw) (E9) (Wb.alloc (.cells #[.string x.nm, .string x.vl] 42))) := HA.out.below hal
        have HKa : Hid ((∀ B, KeepsFrom B Wb (Wb.alloc (.cells #[.string x.nm, .string x.vl] 42))) ∧ KpO S4 Wb (Wb.alloc (.cells #[.string x.nm, .string x.vl] 42))) := ⟨fun B => keepsFrom_below hal, KpO.below hal (fun j hj => Nat.lt_of_lt_of_le (HA.out.kl j hj) HA.out.size)⟩
        have HNw : Hid (∀ j u, ([.string x.nm, .string x.vl] : List Value)[j]? = some u → (Wb.alloc (.cells #[.string x.nm, .string x.vl] 42)).cell? ((⟨Wb.heap.size, 0, none⟩ : Addr).add j) = some u) := fun j u hj => by
          rw [Addr.add_lit, cell_of_row _ _ _ _ _ _ (heap_alloc_new Wb _)]
          simpa using hj
        have hsz : w.heap.size ≤ (Wb.alloc (.cells #[.string x.nm, .string x.vl] 42)).heap.size := HAa.out.bel.size
        clear hal
        gi_wp2_with (gi_at_builtin; refine wpListIn_append_own_at _ rfl _ _ 34 rfl w.heap.size 42 iat (.agg #[.string ⟨#[]⟩, .string ⟨#[]⟩]) 2 32 Try.underlying34 hiat hz0 hz1 hz2 rfl (by decide) _ _ _ rfl HAa.out.own ⟨Wb.heap.size, 0, none⟩ 1 1 [.string x.nm, .string x.vl] rfl rfl HNw.out (atCells_one (x.nm, x.vl)) (by unfold maxLen; omega) (by omega) hsz ?_; intro v3 w3 hown3 hgrow3 hat3; obtain ⟨g3, c3, e3⟩ : ∃ g c, v3 = .slice (some ⟨g, 0, none⟩) (E9.length + 1) c := (ownsRow_succ hown3); subst e3; have HP3 := hide7 (HAa.out.push (by decide) (x := (x.nm, x.vl)) hown3 hgrow3 hat3); have xo3 := HP3.out.2.1.cell 0 _ rfl; have xf3 := HP3.out.2.1.free 0; clear hown3 hgrow3 hat3)
        exact ⟨(HKa.out.1 _).trans (HP3.out.2.2.1 _), HKa.out.2.trans ⟨HP3.out.2.2.2.1, HP3.out.2.2.2.2.1 _ (by decide) (by decide)⟩, _, by rw [HSk.out]; exact HP3.out.1⟩
  case done =>
    rintro Dd Wd hDd ⟨ov, hA⟩ hDf
    rw [List.take_length, HQd.out] at hA
    obtain ⟨a9, c9, e9⟩ := hA.own.form
    subst e9
    have HI : Hid (ColB atCells 2 42 34 w W4 b5 S4 (.slice a9 (attsR R s).length c9) (attsR R s) Wd) := hA
    have HDf : Hid (Wd.heap[Dd]? = some (.deferred (some []))) := hDf
    have x1 := hA.box.cell 0 _ rfl
    clear hA hDf
    gi_wp2_with fail
    refine ⟨trivial, (callsIn_wide.2 (valA_any _ _ ⟨_, _, _, rfl⟩)).mono ?_⟩
    rintro e We ⟨rfl, eWe⟩
    have hbe : Below Wd.heap.size Wd We := by rw [eWe]; exact (Below.refl _ _).alloc (Nat.le_refl _) _
    have HBe : Hid (BxC Wd.heap.size [.slice a9 (attsR R s).length c9] 34 We) := by rw [eWe]; exact BxC.new _ _ _
    have HIe : Hid (ColB atCells 2 42 34 w W4 b5 S4 (.slice a9 (attsR R s).length c9) (attsR R s) We) := HI.out.below hbe
    have HDe : Hid (We.heap[Dd]? = some (.deferred (some []))) := (hbe.block _ (Array.getElem?_eq_some_iff.1 HDf.out).1).trans HDf.out
    have HLo : Hid (w.heap.size ≤ Wd.heap.size) := HI.out.bel.size
    clear eWe hbe x1
    gi_wp2
    refine ⟨by simp, .inl ⟨_, _, rfl, run_takeDeferred HDe.out, ?_⟩⟩
    have hgp : We.grownBy (We.putObj Dd (.deferred none)) (some Dd) := grownBy_putObj' We Dd (.deferred none)
    have hE2 := HIe.out.grown hgp (fun r e => by cases e; exact ⟨hDd, _, HDe.out, rfl⟩)
    exact ⟨_, results_tmp rfl _ _ _, Wd.heap.size, a9, c9, rfl, HLo.out, row_own HBe.out hgp (fun r e => by cases e; exact ⟨_, HDe.out, rfl⟩), hE2.own, hE2.bel⟩
  case stop => rintro D c k W hD hk hf; exact hf.elim

end Go.Proofs.Ytecliogffcnfiaa
