/- Rows of changes of the call's own; a whole row of changes appended; the document's CopyAll. -/
import Derived.Test.YthndgmnckpimmaaZK0
import Derived.Test.YthndgmnckpimmaaCaU
import Derived.Test.YthndgmnckpimmaaOlP
import Derived.Deep.AppendLies
import Derived.Maps.AppendAt
import Derived.Test.YthndgmnckpimmaaTk
import Derived.Test.YthndgmnckpimmaaIdE
import Derived.Test.YthndgmnckpimmaaCkU
import Derived.Laws.OwnMore
namespace Go.Proofs.Ythndgmnckpimmaa
open Go.RowKit
set_option linter.unusedVariables false
set_option linter.unusedSimpArgs false

theorem flatH_app (A B : List (Ch × Value)) : flatH (A ++ B) = flatH A ++ flatH B := by simp [flatH]
/-- What lies at a list of G, as one row. -/
theorem HFirm.row {G : Nat → Prop} {w : World} {v : Value} {L : List Ch} (h : HFirm G w v L) (hL : L ≠ []) : ∃ (b o cap : Nat) (E : List (Ch × Value)), v = .slice (some ⟨b, o, none⟩) L.length cap ∧ L.length ≤ cap ∧ G b ∧ E.map Prod.fst = L ∧ (∀ x ∈ E, (∃ a n c, x.2 = .slice a n c) ∧ IsG G w x.2 x.1.deps ∧ Sized x.1) ∧ ∀ i u, (flatH E)[i]? = some u → w.cell? ⟨b, o + i, none⟩ = some u := by
  obtain ⟨h0, a, cap, e, h1, h2, h3⟩ := h
  obtain ⟨b, o, rfl, hb, hr⟩ := h3.resolve_left hL
  refine ⟨b, o, cap, ?_⟩
  have key : ∀ n, n ≤ L.length → ∃ E : List (Ch × Value), E.map Prod.fst = L.take n ∧ (∀ x ∈ E, (∃ a n c, x.2 = .slice a n c) ∧ IsG G w x.2 x.1.deps ∧ Sized x.1) ∧ ∀ i u, (flatH E)[i]? = some u → w.cell? ⟨b, o + i, none⟩ = some u := by
    intro n
    induction n with
    | zero => exact fun _ => ⟨[], by simp, fun x hx => by simp at hx, fun i u hu => by simp [flatH] at hu⟩
    | succ n ih =>
      intro hn
      obtain ⟨E, q1, q2, q3⟩ := ih (by omega)
      obtain ⟨dv, h4, h5, h6⟩ := hr n (by omega)
      have hEl : E.length = n := by have := congrArg List.length q1; simp at this; omega
      refine ⟨E ++ [(L[n], dv)], ?_, fun x hx => ?_, fun i u hu => ?_⟩
      · rw [List.map_append, q1, List.take_succ_eq_append_getElem (by omega)]; rfl
      · rcases List.mem_append.1 hx with hx | hx
        · exact q2 x hx
        · rw [List.mem_singleton] at hx
          subst hx
          have h5' := h5
          obtain ⟨a3, c3, e3, _⟩ := h5
          exact ⟨⟨a3, _, c3, e3⟩, h5', h6⟩
      · rw [flatH_snoc] at hu
        by_cases hi : i < n * 13
        · rw [List.getElem?_append_left (by rw [flatH_length, hEl]; exact hi)] at hu
          exact q3 i u hu
        · rw [List.getElem?_append_right (by rw [flatH_length, hEl]; omega), flatH_length, hEl] at hu
          have := h4 (i - n * 13) u hu
          rwa [show o + n * 13 + (i - n * 13) = o + i by omega] at this
  obtain ⟨E, q1, q2, q3⟩ := key L.length (Nat.le_refl _)
  rw [List.take_length] at q1
  exact ⟨E, e, h1, hb, q1, q2, q3⟩
theorem PutA.pushs {G : Nat → Prop} {w : World} {v ov : Value} {E E2 : List (Ch × Value)} {U U' : World} (h : PutA G w ov E U) (hown : OwnH w.heap.size U' v (E ++ E2)) (hg : U.grownBy U' ov.ownBlock) (hd : ∀ x ∈ E2, (IsG G U x.2 x.1.deps ∨ OwnI w.heap.size U x.2 x.1.deps) ∧ Sized x.1 ∧ x.1.deps.length ≤ 17592186044416) : PutA G w v (E ++ E2) U' := by
  have hrow : ∀ j, ov.ownBlock = some j → w.heap.size ≤ j := fun j e => (World.ownsRow.lt h.own j e).1
  have dkeep : ∀ (d : Value) (l : List Int), (IsG G U d l ∨ OwnI w.heap.size U d l) → (IsG G U' d l ∨ OwnI w.heap.size U' d l) := fun d l hq => hq.imp
    (fun q => q.keep (KeepsS.of_grown hg (fun k hk => Nat.lt_of_lt_of_le (h.gl k hk) h.bel.size) (fun r e hS => by have := hrow r e; have := h.gl r hS; omega)))
    (fun q => OwnI.keepF q fun k e => hg.block k (World.ownsRow.lt q k e).2 (fun e2 => ownsRow_apart q h.own (by decide) k e e2.symm))
  refine ⟨hown, fun x hx => ?_, h.bel.grown hg h.bel.size (fun j e => by have := hrow j e; omega), h.gl⟩
  rcases List.mem_append.1 hx with hx | hx
  · exact ⟨dkeep _ _ (h.dep x hx).1, (h.dep x hx).2⟩
  · exact ⟨dkeep _ _ (hd x hx).1, (hd x hx).2⟩

theorem wpList_appHs {w : World} {ops : Array Oper} {rest : List Oper} {o : Oper} {a : Act} {Q : Exit → Act → World → Prop} (hgd : o.guard = none) (s x : Operand)
    (ho : o.op = .call { callee := .builtin .append, args := #[s, x], argTypes := #[28, 28] })
    (B : Nat) (ov : Value) (E : List (Ch × Value)) (hs : a.eval s = ov) (hown : OwnH B w ov E) (b o0 : Nat) (m c : Nat) (E2 : List (Ch × Value)) (hx : a.eval x = .slice (some ⟨b, o0, none⟩) m c) (hm : E2.length = m)
    (hc : ∀ j u, (flatH E2)[j]? = some u → w.cell? ⟨b, o0 + j, none⟩ = some u) (hv : ∀ x ∈ E2, ∃ a n c, x.2 = .slice a n c) (hl : E.length + E2.length ≤ 8192) (hB : B ≤ w.heap.size)
    (h : ∀ v' w', OwnH B w' v' (E ++ E2) → w.grownBy w' ov.ownBlock → wpList Try.prog ops Q rest (a.put o.dst v') w') :
    wpList Try.prog ops Q (o :: rest) a w := by
  obtain ⟨i0, hi, hz0, hz1, hz2⟩ := info_parts infoChange
  subst hm
  refine wpList_append_own_at _ hgd s x 28 ho B 35 i0 (.agg #[.int .i64 0, .int .i64 0, .int .i64 0, .slice none 0 0, .int .i64 0, .int .i64 0, .int .i64 0, .int .i64 0, .int .i64 0, .int .i64 0, .int .i64 0, .string ⟨#[]⟩, .string ⟨#[]⟩]) 13 136 Try.underlying28 hi hz0 hz1 hz2 rfl (by decide) ov E.length (flatH E) hs hown ⟨b, o0, none⟩ E2.length c (flatH E2) hx (flatH_length E2) ?_ ?_ (by unfold maxLen; omega) (by omega) hB ?_
  · intro j u hj
    rw [Addr.add_lit]
    exact hc j u hj
  · intro u hu
    obtain ⟨y, hy, hu⟩ := List.mem_flatMap.1 hu
    obtain ⟨a1, n1, c1, e1⟩ := hv y hy
    rw [e1] at hu
    simp [chCells] at hu
    rcases hu with rfl | rfl | rfl | rfl | rfl | rfl | rfl | rfl | rfl | rfl | rfl | rfl | rfl <;> rfl
  · intro v' w' h1 h2 _ _
    refine h v' w' ?_ h2
    unfold OwnH
    rw [flatH_app, List.length_append]
    exact h1

theorem HFirm.emp {G : Nat → Prop} {w : World} {v : Value} {L : List Ch} (h : HFirm G w v L) : HFirm G w (.slice none 0 0) [] := ⟨h.1, none, 0, rfl, Nat.le_refl _, by simp, .inl rfl⟩
theorem HFirm.ofOwn {G G2 : Nat → Prop} {B : Nat} {U : World} {v : Value} {E : List (Ch × Value)} (h : OwnH B U v E) (hl : E.length ≤ 281474976710656) (hd : ∀ x ∈ E, IsG G2 U x.2 x.1.deps ∧ Sized x.1) (h2 : ∀ k, G2 k → G k) (hB : ∀ k, B ≤ k → k < U.heap.size → G k) (hG : ∀ k, G k → k < U.heap.size) : HFirm G U v (E.map Prod.fst) := by
  have h0 := h
  refine ⟨hG, ?_⟩
  rcases h.2 with ⟨rfl, hn⟩ | ⟨g, cap, cur, rfl, hg, hc, hcap, rest⟩
  · have e : E = [] := List.eq_nil_of_length_eq_zero hn
    subst e
    exact ⟨none, 0, rfl, Nat.le_refl _, by simp, .inl rfl⟩
  · refine ⟨_, cap, by simp, by simpa using hcap, by simpa using hl, .inr ⟨g, 0, rfl, hB g hg (Array.getElem?_eq_some_iff.1 hc).1, fun i hi => ?_⟩⟩
    have hi' : i < E.length := by simpa using hi
    rw [show (E.map Prod.fst)[i] = E[i].1 by simp]
    have hd := hd _ (List.getElem_mem hi')
    refine ⟨E[i].2, fun j u hj => ?_, hd.1.mono h2, hd.2⟩
    have hj2 : j < 13 := (List.getElem?_eq_some_iff.1 hj).1
    rw [show 0 + i * 13 + j = i * 13 + j by omega]
    exact (World.ownsRow.cellAt h0 (i * 13 + j) (by omega)).trans (flatH_get E i hi' j u hj)

set_option maxRecDepth 100000 in
set_option maxHeartbeats 4000000 in
theorem refCopyAll_any (v : Value) (L : List Ch) (w : World) (h : IsH w v L) (hll : L.length ≤ 4096) :
    Calls Try.prog 20 #[v] w fun e w' => ∃ a c E, e = .returned (.slice a L.length c) ∧ AccH w.heap.size (.slice a L.length c) E w' ∧ E.map Prod.fst = L ∧ Below w.heap.size w w' := by
  have HH : Hid (IsH w v L) := h
  obtain ⟨a1, c1, e1⟩ := h.form
  subst e1
  obtain ⟨W0, eW0⟩ : ∃ X, X = w.alloc (.cells #[] 35) := ⟨_, rfl⟩
  have HB0 : Hid (Below w.heap.size w W0) := by rw [eW0]; exact (Below.refl _ _).alloc (Nat.le_refl _) _
  have HA0 : Hid (AccH w.heap.size (.slice (some ⟨w.heap.size, 0, none⟩) 0 0) [] W0) := by
    refine ⟨?_, fun x hx => by simp at hx, HB0.out.size⟩
    rw [eW0]
    exact World.ownsRow_made w (e := 35) (size := 13) (base := w.heap.size) #[] 0 (by simp) (by unfold maxLen; omega) (by simp)
  clear h
  go_enter Try.func20, Try.ntmps20
  go_wp2
  rw [← eW0]
  clear eW0
  go_loopw [3, 4] (fun ov iv wr => ∃ (i : Nat) (E : List (Ch × Value)) (a : Option Addr) (c : Nat), i ≤ L.length ∧ ov = .slice a E.length c ∧ iv = .int .i64 (i : Int) ∧ Hid (AccH w.heap.size (.slice a E.length c) E wr) ∧ Hid (E.map Prod.fst = L.take i) ∧ Hid (Below w.heap.size w wr)) (fun _ iv _ => L.length - (intOf iv).toNat)
  case atStart => exact ⟨0, [], _, _, Nat.zero_le _, rfl, rfl, HA0, (by simp : _ = _), HB0⟩
  case round =>
    obtain ⟨i, E, ae, ce, hi, rfl, rfl, HA, HE, HB⟩ := hrel
    clear HA0 HB0
    have HEl : Hid (E.length = i) := by have := congrArg List.length HE.out; rw [List.length_map, List.length_take] at this; show _ = _; omega
    by_cases hlt : i < L.length
    · obtain ⟨_, _, e, _, hl2, hrow⟩ := HH.out
      cases e
      obtain ⟨b, o, rfl, hrow2⟩ := hrow.resolve_left (by intro e; subst e; simp at hlt)
      obtain ⟨a3, c3, hI3, hS3, k_0, k_1, k_2, k_3, k_4, k_5, k_6, k_7, k_8, k_9, k_10, k_11, k_12⟩ := ((hrow2 i hlt).below HB.out).all
      have HI3 : Hid (IsI wr (.slice a3 L[i].deps.length c3) L[i].deps) := hI3
      have HS3 : Hid (Sized L[i]) := hS3
      have HN : Hid (E.map Prod.fst ++ [L[i]] = L.take (i + 1)) := by show _ = _; rw [HE.out, List.take_succ_eq_append_getElem hlt]
      have i1 : (i : Int) < (L.length : Int) := by omega
      have i0 : (0 : Int) ≤ (i : Int) := by omega
      clear hI3 hS3 hrow hrow2 HE
      generalize L[i] = x at *
      obtain ⟨ac, ar, sq, ds, kd, nc, nr, pc, pr, fc, fr, nm, vl⟩ := x
      simp only at k_0 k_1 k_2 k_3 k_4 k_5 k_6 k_7 k_8 k_9 k_10 k_11 k_12 HI3 HS3
      go_wp2_with fail
      clear k_0 k_1 k_2 k_3 k_4 k_5 k_6 k_7 k_8 k_9 k_10 k_11 k_12
      refine (refCopyCh_any ac ar sq (.slice a3 ds.length c3) kd nc nr pc pr fc fr nm vl ds _ HI3.out).mono ?_
      rintro e w1 ⟨v2, rfl, ho2, hb1⟩
      obtain ⟨a2, c2, e2⟩ := ho2.form
      subst e2
      obtain ⟨W5, eW5⟩ : ∃ X, X = w1.alloc (.cells (chCells (⟨ac, ar, sq, ds, kd, nc, nr, pc, pr, fc, fr, nm, vl⟩ : Ch) (.slice a2 ds.length c2)).toArray 35) := ⟨_, rfl⟩
      have hb5 : Below w1.heap.size w1 W5 := by rw [eW5]; exact (Below.refl _ _).alloc (Nat.le_refl _) _
      have HC5 : Hid (W5.heap[w1.heap.size]? = some (.cells (chCells (⟨ac, ar, sq, ds, kd, nc, nr, pc, pr, fc, fr, nm, vl⟩ : Ch) (.slice a2 ds.length c2)).toArray 35)) := by rw [eW5]; exact heap_alloc_new _ _
      have HA5 : Hid (AccH w.heap.size (.slice ae E.length ce) E W5) := (HA.out.below hb1).below hb5
      have HO5 : Hid (OwnI w.heap.size W5 (.slice a2 ds.length c2) ds) := (ho2.below hb5).low (by have := HB.out.size; omega)
      have HB5 : Hid (Below w.heap.size w W5) := (HB.out.trans (hb1.mono HB.out.size)).trans (hb5.mono (HB.out.trans (hb1.mono HB.out.size)).size)
      have HD5 : Hid (ds.length ≤ 17592186044416) := by obtain ⟨_, _, _, _, h, _⟩ := HI3.out; exact h
      clear ho2 hb1 hb5 HA HB HI3
      simp only [chCells] at eW5
      go_wp2_with (at_builtin; rw [← eW5]; refine wpList_appH rfl _ _ rfl w.heap.size (.slice ae E.length ce) E rfl HA5.out.own w1.heap.size (⟨ac, ar, sq, ds, kd, nc, nr, pc, pr, fc, fr, nm, vl⟩ : Ch) a2 ds.length c2 rfl HC5.out (by have := HEl.out; omega) HA5.out.le ?_; clear eW5; intro g3 c3 W10 hown hgrow hat hlt; have HA6 : Hid (AccH w.heap.size (.slice (some ⟨g3, 0, none⟩) (E.length + 1) c3) (E ++ [((⟨ac, ar, sq, ds, kd, nc, nr, pc, pr, fc, fr, nm, vl⟩ : Ch), .slice a2 ds.length c2)]) W10) := HA5.out.push hown hgrow HO5.out ⟨HS3.out, HD5.out⟩; have HB6 : Hid (Below w.heap.size w W10) := HB5.out.grown hgrow HB5.out.size (fun j e => (World.ownsRow.lt HA5.out.own j e).1); clear hown hgrow hat hlt)
      have HM : Hid ((E ++ [((⟨ac, ar, sq, ds, kd, nc, nr, pc, pr, fc, fr, nm, vl⟩ : Ch), Value.slice a2 ds.length c2)]).map Prod.fst = L.take (i + 1)) := by show _ = _; rw [List.map_append]; exact HN.out
      go_roundw
      case rel => exact ⟨i + 1, E ++ [((⟨ac, ar, sq, ds, kd, nc, nr, pc, pr, fc, fr, nm, vl⟩ : Ch), Value.slice a2 ds.length c2)], _, c3, by omega, by rw [List.length_append]; rfl, by go_num, by rw [List.length_append]; exact HA6, HM, HB6⟩
      case measure => simp [intOf]; omega
    · obtain rfl : i = L.length := by omega
      have HE2 : Hid (E.map Prod.fst = L) := by have := HE.out; rw [List.take_length] at this; exact this
      clear HE
      go_wp2
      go_ret
      have h3 := HEl.out
      have h4 := HA.out
      rw [h3] at h4
      exact ⟨_, _, E, by rw [h3]; rfl, h4, HE2.out, HB.out⟩

end Go.Proofs.Ythndgmnckpimmaa

namespace Go.Proofs.Ythndgmnckpimmaa
open Go.RowKit
set_option linter.unusedVariables false
set_option linter.unusedSimpArgs false

def RowHas (W : World) (b : Nat) (cs : List Value) : Prop := b < W.heap.size ∧ ∀ j u, cs[j]? = some u → W.cell? ((⟨b, 0, none⟩ : Addr).add j) = some u
theorem RowHas.new (W : World) (cs : List Value) (t : TypeId) : RowHas (W.alloc (.cells cs.toArray t)) W.heap.size cs := ⟨by simp, fun j u hj => by
  rw [Addr.add_lit, cell_of_row _ _ _ _ _ _ (heap_alloc_new W (.cells cs.toArray t))]
  simpa using hj⟩


theorem drop_at {L : List Ch} {k : Nat} (h : k < L.length) : L.drop k = L[k] :: L.drop (k + 1) := by rw [List.drop_eq_getElem_cons h]
set_option maxRecDepth 100000 in
set_option maxHeartbeats 8000000 in
theorem refPut_any (G : Nat → Prop) (v : Value) (L : List Ch) (ac ar sq : Int) (dv : Value) (kd nc nr pc pr fc fr : Int) (nm vl : ByteArray) (ds : List Int) (w : World) (h1 : HFirm G w v L) (hd : IsI w dv ds) (hsz : Sized (⟨ac, ar, sq, ds, kd, nc, nr, pc, pr, fc, fr, nm, vl⟩ : Ch)) (hll : L.length ≤ 4096) :
    Calls Try.prog 44 #[v, .agg #[.int .i64 ac, .int .i64 ar, .int .i64 sq, dv, .int .i64 kd, .int .i64 nc, .int .i64 nr, .int .i64 pc, .int .i64 pr, .int .i64 fc, .int .i64 fr, .string nm, .string vl]] w fun e w' => ∃ v', e = .returned v' ∧ HFirm (fun k => G k ∨ (w.heap.size ≤ k ∧ k < w'.heap.size)) w' v' (putC L (⟨ac, ar, sq, ds, kd, nc, nr, pc, pr, fc, fr, nm, vl⟩ : Ch)) ∧ Below w.heap.size w w' := by
  obtain ⟨i0, hi, hz0, hz1, hz2⟩ := info_parts infoChange
  have HGl : Hid (∀ k, G k → k < w.heap.size) := h1.1
  obtain ⟨a1, c1, rfl, hc1, h1⟩ := h1.one
  have H1 : Hid (∀ i (hi : i < L.length), ∃ b o a2 e2, a1 = some ⟨b, o, none⟩ ∧ IsG G w (.slice a2 L[i].deps.length e2) L[i].deps ∧ Sized L[i] ∧ ∀ W', KeepsS G w W' → ∀ j u, (chCells L[i] (.slice a2 L[i].deps.length e2))[j]? = some u → W'.cell? ⟨b, o + i * 13 + j, none⟩ = some u) := h1
  have HIc : Hid (IsI w dv ds) := hd
  have hdl : ds.length ≤ 17592186044416 := by obtain ⟨_, _, _, _, h, _⟩ := hd; exact h
  have HZ : Hid (Sized (⟨ac, ar, sq, ds, kd, nc, nr, pc, pr, fc, fr, nm, vl⟩ : Ch) ∧ ds.length ≤ 17592186044416) := ⟨hsz, hdl⟩
  obtain ⟨a0, c0, e0⟩ := hd.form
  subst e0
  have K0 := KeptC.start w [.int .i64 ac, .int .i64 ar, .int .i64 sq, .slice a0 ds.length c0, .int .i64 kd, .int .i64 nc, .int .i64 nr, .int .i64 pc, .int .i64 pr, .int .i64 fc, .int .i64 fr, .string nm, .string vl] 35
  obtain ⟨W0, eW⟩ : ∃ X, X = (w.alloc (.cells #[.int .i64 ac, .int .i64 ar, .int .i64 sq, .slice a0 ds.length c0, .int .i64 kd, .int .i64 nc, .int .i64 nr, .int .i64 pc, .int .i64 pr, .int .i64 fc, .int .i64 fr, .string nm, .string vl] 35)).alloc (.cells #[] 35) := ⟨_, rfl⟩
  have HK : Hid (KeptC w w.heap.size [.int .i64 ac, .int .i64 ar, .int .i64 sq, .slice a0 ds.length c0, .int .i64 kd, .int .i64 nc, .int .i64 nr, .int .i64 pc, .int .i64 pr, .int .i64 fc, .int .i64 fr, .string nm, .string vl] W0) := by rw [eW]; exact K0.step ((Below.refl _ _).alloc (Nat.le_refl _) _)
  have HP0 : Hid (PutB G w (.slice (some ⟨w.heap.size + 1, 0, none⟩) 0 0) [] W0) := by
    refine ⟨?_, fun x hx => by simp at hx, HK.out.2.2, HGl.out⟩
    rw [eW]
    have := World.ownsRow_made (w.alloc (.cells #[.int .i64 ac, .int .i64 ar, .int .i64 sq, .slice a0 ds.length c0, .int .i64 kd, .int .i64 nc, .int .i64 nr, .int .i64 pc, .int .i64 pr, .int .i64 fc, .int .i64 fr, .string nm, .string vl] 35)) (e := 35) (size := 13) (base := w.heap.size + 1) #[] 0 (by simp) (by unfold maxLen; omega) (by simp)
    rw [show (w.alloc (.cells #[.int .i64 ac, .int .i64 ar, .int .i64 sq, .slice a0 ds.length c0, .int .i64 kd, .int .i64 nc, .int .i64 nr, .int .i64 pc, .int .i64 pr, .int .i64 fc, .int .i64 fr, .string nm, .string vl] 35)).heap.size = w.heap.size + 1 by simp] at this
    exact this
  clear K0 h1 hd hsz hdl
  go_enter Try.func44, Try.ntmps44
  go_wp2
  rw [← eW]
  clear eW
  go_loopw [5, 6, 7] (fun ov dv iv wr => ∃ (k : Nat) (E : List (Ch × Value)) (dn : Bool), k ≤ L.length ∧ iv = .int .i64 (k : Int) ∧ dv = .bool dn ∧ Hid (KeptC w w.heap.size [.int .i64 ac, .int .i64 ar, .int .i64 sq, .slice a0 ds.length c0, .int .i64 kd, .int .i64 nc, .int .i64 nr, .int .i64 pc, .int .i64 pr, .int .i64 fc, .int .i64 fr, .string nm, .string vl] wr) ∧ Hid (PutB G w ov E wr) ∧ Hid (putC L (⟨ac, ar, sq, ds, kd, nc, nr, pc, pr, fc, fr, nm, vl⟩ : Ch) = E.map Prod.fst ++ (if dn = true then L.drop k else putC (L.drop k) (⟨ac, ar, sq, ds, kd, nc, nr, pc, pr, fc, fr, nm, vl⟩ : Ch)))) (fun _ _ iv _ => L.length - (intOf iv).toNat)
  case atStart => exact ⟨0, [], false, Nat.zero_le _, rfl, rfl, HK, HP0, (rfl : putC L (⟨ac, ar, sq, ds, kd, nc, nr, pc, pr, fc, fr, nm, vl⟩ : Ch) = _)⟩
  case round =>
    obtain ⟨k, E, dn, hk, rfl, rfl, HK2, HP, HS⟩ := hrel
    obtain ⟨aw, cw, eo⟩ := HP.out.own.form
    subst eo
    have hEl : E.length ≤ 4097 := by
      have h2 := congrArg List.length HS.out
      rw [putC_length, List.length_append, List.length_map] at h2
      omega
    by_cases hlt : k < L.length
    · have hdr := drop_at hlt
      obtain ⟨b1, o1, a2, c2, rfl, hg2, hz2', hcl⟩ := H1.out k hlt
      have k1 : (k : Int) < (L.length : Int) := by omega
      have k0 : (0 : Int) ≤ (k : Int) := by omega
      obtain ⟨⟨ac2, ar2, sq2, ds2, kd2, nc2, nr2, pc2, pr2, fc2, fr2, nm2, vl2⟩, ec2⟩ : ∃ c, c = L[k] := ⟨_, rfl⟩
      rw [← ec2] at hg2 hz2' hcl hdr
      have HG2 : Hid (IsG G w (Value.slice a2 ds2.length c2) ds2) := hg2
      have HZ2 : Hid (Sized (⟨ac2, ar2, sq2, ds2, kd2, nc2, nr2, pc2, pr2, fc2, fr2, nm2, vl2⟩ : Ch) ∧ ds2.length ≤ 17592186044416) := ⟨hz2', by obtain ⟨_, _, _, _, h, _⟩ := hg2; exact h⟩
      have HC : Hid (∀ W', Below w.heap.size w W' → W'.cell? ⟨b1, o1 + k * 13, none⟩ = some (.int .i64 ac2) ∧ W'.cell? ⟨b1, o1 + k * 13 + 1, none⟩ = some (.int .i64 ar2) ∧ W'.cell? ⟨b1, o1 + k * 13 + 2, none⟩ = some (.int .i64 sq2) ∧ W'.cell? ⟨b1, o1 + k * 13 + 3, none⟩ = some (.slice a2 ds2.length c2) ∧ W'.cell? ⟨b1, o1 + k * 13 + 4, none⟩ = some (.int .i64 kd2) ∧ W'.cell? ⟨b1, o1 + k * 13 + 5, none⟩ = some (.int .i64 nc2) ∧ W'.cell? ⟨b1, o1 + k * 13 + 6, none⟩ = some (.int .i64 nr2) ∧ W'.cell? ⟨b1, o1 + k * 13 + 7, none⟩ = some (.int .i64 pc2) ∧ W'.cell? ⟨b1, o1 + k * 13 + 8, none⟩ = some (.int .i64 pr2) ∧ W'.cell? ⟨b1, o1 + k * 13 + 9, none⟩ = some (.int .i64 fc2) ∧ W'.cell? ⟨b1, o1 + k * 13 + 10, none⟩ = some (.int .i64 fr2) ∧ W'.cell? ⟨b1, o1 + k * 13 + 11, none⟩ = some (.string nm2) ∧ W'.cell? ⟨b1, o1 + k * 13 + 12, none⟩ = some (.string vl2)) := fun W' hb => chAll (hcl W' (KeepsS.of_below hb HGl.out))
      obtain ⟨lt, hlt2⟩ : ∃ b, b = lessS ac ar ac2 ar2 := ⟨_, rfl⟩
      have HLq : Hid (lt = lessS ac ar ac2 ar2) := hlt2
      have HSp : Hid (putC L (⟨ac, ar, sq, ds, kd, nc, nr, pc, pr, fc, fr, nm, vl⟩ : Ch) = E.map Prod.fst ++ (if dn = true then (⟨ac2, ar2, sq2, ds2, kd2, nc2, nr2, pc2, pr2, fc2, fr2, nm2, vl2⟩ : Ch) :: L.drop (k + 1) else if lt = true then (⟨ac, ar, sq, ds, kd, nc, nr, pc, pr, fc, fr, nm, vl⟩ : Ch) :: (⟨ac2, ar2, sq2, ds2, kd2, nc2, nr2, pc2, pr2, fc2, fr2, nm2, vl2⟩ : Ch) :: L.drop (k + 1) else (⟨ac2, ar2, sq2, ds2, kd2, nc2, nr2, pc2, pr2, fc2, fr2, nm2, vl2⟩ : Ch) :: putC (L.drop (k + 1)) (⟨ac, ar, sq, ds, kd, nc, nr, pc, pr, fc, fr, nm, vl⟩ : Ch))) := by
        have h2 := HS.out
        rw [hdr, putC_cons] at h2
        rw [hlt2]
        exact h2
      clear ec2 hg2 hz2' hcl hdr hlt2 HS
      cases dn
      · go_upto_region 6 with fail
        refine wp_region_held_drew (S := fun W' => KeptC w w.heap.size [.int .i64 ac, .int .i64 ar, .int .i64 sq, .slice a0 ds.length c0, .int .i64 kd, .int .i64 nc, .int .i64 nr, .int .i64 pc, .int .i64 pr, .int .i64 fc, .int .i64 fr, .string nm, .string vl] W') (by kernel_rfl) HK2.out.drew (fun hHeld => ?_)
        obtain ⟨Ub4u0, eW⟩ : ∃ X, X = wr.drew := ⟨_, rfl⟩
        have hb : Below wr.heap.size wr Ub4u0 := by rw [eW]; exact (Below.refl _ _).drew
        replace HP : Hid (PutB G w (.slice aw E.length cw) E Ub4u0) := HP.out.below hb
        rw [← eW] at hHeld ⊢
        clear eW hb
        refine tkW 0 (some 15) (v := ?_) ?_ hHeld ?_
        rotate_left
        · (intro w _; go_simp; try with_reducible rfl)
        refine tkW 1 (some 16) (v := ?_) ?_ hHeld ?_
        rotate_left
        · (intro w _; go_simp; try with_reducible rfl)
        refine tkW 2 (some 17) (v := ?_) ?_ hHeld ?_
        rotate_left
        · (intro w _; go_simp; try with_reducible rfl)
        refine tkW 3 (some 18) (v := ?_) ?_ hHeld ?_
        rotate_left
        · (intro w _; go_simp; try with_reducible rfl)
        refine tkW 4 (some 19) (v := ?_) ?_ hHeld ?_
        rotate_left
        · (intro w hSw; (try dsimp only at hSw); have hk := hSw; obtain ⟨k_0, k_1, k_2, k_3, k_4, k_5, k_6, k_7, k_8, k_9, k_10, k_11, k_12⟩ := hk.all; obtain ⟨p_0, p_1, p_2, p_3, p_4, p_5, p_6, p_7, p_8, p_9, p_10, p_11, p_12⟩ := HC.out _ hk.2.2; go_simp; try with_reducible rfl)
        refine tkW 5 (some 20) (v := ?_) ?_ hHeld ?_
        rotate_left
        · (intro w _; go_simp; try with_reducible rfl)
        refine tkW 6 (some 21) (v := ?_) ?_ hHeld ?_
        rotate_left
        · (intro w _; go_simp; try with_reducible rfl)
        refine tkW 7 (some 22) (v := ?_) ?_ hHeld ?_
        rotate_left
        · (intro w hSw; (try dsimp only at hSw); have hk := hSw; obtain ⟨k_0, k_1, k_2, k_3, k_4, k_5, k_6, k_7, k_8, k_9, k_10, k_11, k_12⟩ := hk.all; obtain ⟨p_0, p_1, p_2, p_3, p_4, p_5, p_6, p_7, p_8, p_9, p_10, p_11, p_12⟩ := HC.out _ hk.2.2; go_simp; try with_reducible rfl)
        refine tkW 8 (some 23) (v := ?_) ?_ hHeld ?_
        rotate_left
        · (intro w _; go_simp; try with_reducible rfl)
        refine tkW 9 (some 24) (v := ?_) ?_ hHeld ?_
        rotate_left
        · (intro w hSw; (try dsimp only at hSw); have hk := hSw; obtain ⟨k_0, k_1, k_2, k_3, k_4, k_5, k_6, k_7, k_8, k_9, k_10, k_11, k_12⟩ := hk.all; obtain ⟨p_0, p_1, p_2, p_3, p_4, p_5, p_6, p_7, p_8, p_9, p_10, p_11, p_12⟩ := HC.out _ hk.2.2; go_simp; try with_reducible rfl)
        refine wpAnyH_ready (rs := [10]) (by kernel_rfl) (by simp) ?_
        refine AllReadyH.cons (o := ⟨some 25, _, _, _, _, _⟩) rfl (fun K hK => ?_) AllReadyH.nil
        go_simp
        refine (refLess_bel ac ar ac2 ar2 _).mono ?_
        rintro e Ub4u1 ⟨ele, hb⟩
        rw [← HLq.out] at ele
        subst ele
        (try go_wp2_with fail)
        refine hK.out _ _ (hHeld.step hb) (fun hHeld2 => ?_)
        clear hK K hHeld
        have hHeld := hHeld2
        clear hHeld2
        (try simp only [Act.put, List.setIfInBounds_toArray, List.set_cons_zero, List.set_cons_succ])
        replace HP : Hid (PutB G w (.slice aw E.length cw) E Ub4u1) := HP.out.below hb
        clear hb
        refine tkW 11 (some 26) (v := ?_) ?_ hHeld ?_
        rotate_left
        · (intro w _; go_simp; try with_reducible rfl)
        refine wpAnyH_done (by kernel_rfl) ?_ _
        have HK3 : Hid (KeptC w w.heap.size [.int .i64 ac, .int .i64 ar, .int .i64 sq, .slice a0 ds.length c0, .int .i64 kd, .int .i64 nc, .int .i64 nr, .int .i64 pc, .int .i64 pr, .int .i64 fc, .int .i64 fr, .string nm, .string vl] Ub4u1) := hHeld
        clear hHeld
        cases lt
        · have HS3 : Hid (putC L (⟨ac, ar, sq, ds, kd, nc, nr, pc, pr, fc, fr, nm, vl⟩ : Ch) = (E ++ [((⟨ac2, ar2, sq2, ds2, kd2, nc2, nr2, pc2, pr2, fc2, fr2, nm2, vl2⟩ : Ch), (Value.slice a2 ds2.length c2))]).map Prod.fst ++ (if false = true then L.drop (k + 1) else putC (L.drop (k + 1)) (⟨ac, ar, sq, ds, kd, nc, nr, pc, pr, fc, fr, nm, vl⟩ : Ch))) := by
            show _ = _
            rw [HSp.out]
            simp
          obtain ⟨p_0, p_1, p_2, p_3, p_4, p_5, p_6, p_7, p_8, p_9, p_10, p_11, p_12⟩ := HC.out _ HK3.out.2.2
          go_wp2_with (at_builtin; refine wpList_append_lies _ rfl _ _ 28 rfl (w.heap.size + 1) 35 i0 (.agg #[.int .i64 0, .int .i64 0, .int .i64 0, .slice none 0 0, .int .i64 0, .int .i64 0, .int .i64 0, .int .i64 0, .int .i64 0, .int .i64 0, .int .i64 0, .string ⟨#[]⟩, .string ⟨#[]⟩]) 13 136 Try.underlying28 hi hz0 hz1 hz2 rfl (by decide) (Value.slice aw E.length cw) E.length (flatH E) rfl (HP.out.below ((Below.refl _ Ub4u1).alloc (Nat.le_refl _) (.cells #[.int .i64 ac2, .int .i64 ar2, .int .i64 sq2, .slice a2 ds2.length c2, .int .i64 kd2, .int .i64 nc2, .int .i64 nr2, .int .i64 pc2, .int .i64 pr2, .int .i64 fc2, .int .i64 fr2, .string nm2, .string vl2] 35))).own ⟨Ub4u1.heap.size, 0, none⟩ 1 1 [.int .i64 ac2, .int .i64 ar2, .int .i64 sq2, .slice a2 ds2.length c2, .int .i64 kd2, .int .i64 nc2, .int .i64 nr2, .int .i64 pc2, .int .i64 pr2, .int .i64 fc2, .int .i64 fr2, .string nm2, .string vl2] rfl rfl (RowHas.new Ub4u1 [.int .i64 ac2, .int .i64 ar2, .int .i64 sq2, .slice a2 ds2.length c2, .int .i64 kd2, .int .i64 nc2, .int .i64 nr2, .int .i64 pc2, .int .i64 pr2, .int .i64 fc2, .int .i64 fr2, .string nm2, .string vl2] 35).2 (fun x hx => by simp at hx; rcases hx with rfl | rfl | rfl | rfl | rfl | rfl | rfl | rfl | rfl | rfl | rfl | rfl | rfl <;> rfl) (by decide) (by unfold maxLen; omega) (by omega) (by have := HK3.out.2.1; simp; omega) _ rfl ?_; intro g3 c3 W9 hown3 hgrow3 hat3 hlt3; have HP9 : Hid (PutB G w (.slice (some ⟨g3, 0, none⟩) (E.length + 1) c3) (E ++ [((⟨ac2, ar2, sq2, ds2, kd2, nc2, nr2, pc2, pr2, fc2, fr2, nm2, vl2⟩ : Ch), (Value.slice a2 ds2.length c2))]) W9) := (HP.out.below ((Below.refl _ Ub4u1).alloc (Nat.le_refl _) (.cells #[.int .i64 ac2, .int .i64 ar2, .int .i64 sq2, .slice a2 ds2.length c2, .int .i64 kd2, .int .i64 nc2, .int .i64 nr2, .int .i64 pc2, .int .i64 pr2, .int .i64 fc2, .int .i64 fr2, .string nm2, .string vl2] 35))).push hown3 hgrow3 (.inl (HG2.out.keep (KeepsS.of_below ((HK3.out.step ((Below.refl _ Ub4u1).alloc (Nat.le_refl _) (.cells #[.int .i64 ac2, .int .i64 ar2, .int .i64 sq2, .slice a2 ds2.length c2, .int .i64 kd2, .int .i64 nc2, .int .i64 nr2, .int .i64 pc2, .int .i64 pr2, .int .i64 fc2, .int .i64 fr2, .string nm2, .string vl2] 35))).2.2) HGl.out))) (HZ2.out); have HK4 : Hid (KeptC w w.heap.size [.int .i64 ac, .int .i64 ar, .int .i64 sq, .slice a0 ds.length c0, .int .i64 kd, .int .i64 nc, .int .i64 nr, .int .i64 pc, .int .i64 pr, .int .i64 fc, .int .i64 fr, .string nm, .string vl] W9) := (HK3.out.step ((Below.refl _ Ub4u1).alloc (Nat.le_refl _) (.cells #[.int .i64 ac2, .int .i64 ar2, .int .i64 sq2, .slice a2 ds2.length c2, .int .i64 kd2, .int .i64 nc2, .int .i64 nr2, .int .i64 pc2, .int .i64 pr2, .int .i64 fc2, .int .i64 fr2, .string nm2, .string vl2] 35))).grownP hgrow3 (fun k e => (World.ownsRow.lt (HP.out.below ((Below.refl _ Ub4u1).alloc (Nat.le_refl _) (.cells #[.int .i64 ac2, .int .i64 ar2, .int .i64 sq2, .slice a2 ds2.length c2, .int .i64 kd2, .int .i64 nc2, .int .i64 nr2, .int .i64 pc2, .int .i64 pr2, .int .i64 fc2, .int .i64 fr2, .string nm2, .string vl2] 35))).own k e).1); clear hown3 hgrow3 hat3 hlt3 HP HK3)
          go_roundw
          case rel => exact ⟨k + 1, _, false, by omega, by go_num, by simp, HK4, HP9, HS3⟩
          case measure => simp [intOf]; omega
        · have HS3 : Hid (∀ d7, putC L (⟨ac, ar, sq, ds, kd, nc, nr, pc, pr, fc, fr, nm, vl⟩ : Ch) = ((E ++ [((⟨ac, ar, sq, ds, kd, nc, nr, pc, pr, fc, fr, nm, vl⟩ : Ch), d7)]) ++ [((⟨ac2, ar2, sq2, ds2, kd2, nc2, nr2, pc2, pr2, fc2, fr2, nm2, vl2⟩ : Ch), (Value.slice a2 ds2.length c2))]).map Prod.fst ++ (if true = true then L.drop (k + 1) else putC (L.drop (k + 1)) (⟨ac, ar, sq, ds, kd, nc, nr, pc, pr, fc, fr, nm, vl⟩ : Ch))) := fun d7 => by
            rw [HSp.out]
            simp
          obtain ⟨k_0, k_1, k_2, k_3, k_4, k_5, k_6, k_7, k_8, k_9, k_10, k_11, k_12⟩ := HK3.out.all
          go_wp2_with fail
          refine (refCopyCh_any ac ar sq (.slice a0 ds.length c0) kd nc nr pc pr fc fr nm vl ds _ (HIc.out.below HK3.out.2.2)).mono ?_
          rintro e W7 ⟨v7, rfl, ho7, hb7⟩
          obtain ⟨a7, c7, e7⟩ := ho7.form
          subst e7
          replace HP : Hid (PutB G w (.slice aw E.length cw) E W7) := HP.out.below hb7
          have HO7 : Hid (OwnI (w.heap.size + 1) W7 (Value.slice a7 ds.length c7) ds) := ho7.low (by have := HK3.out.2.1; omega)
          replace HK3 : Hid (KeptC w w.heap.size [.int .i64 ac, .int .i64 ar, .int .i64 sq, .slice a0 ds.length c0, .int .i64 kd, .int .i64 nc, .int .i64 nr, .int .i64 pc, .int .i64 pr, .int .i64 fc, .int .i64 fr, .string nm, .string vl] W7) := HK3.out.step hb7
          clear ho7 hb7 k_0 k_1 k_2 k_3 k_4 k_5 k_6 k_7 k_8 k_9 k_10 k_11 k_12
          go_wp2_with (first | (at_builtin; refine wpList_append_lies _ rfl _ _ 28 rfl (w.heap.size + 1) 35 i0 (.agg #[.int .i64 0, .int .i64 0, .int .i64 0, .slice none 0 0, .int .i64 0, .int .i64 0, .int .i64 0, .int .i64 0, .int .i64 0, .int .i64 0, .int .i64 0, .string ⟨#[]⟩, .string ⟨#[]⟩]) 13 136 Try.underlying28 hi hz0 hz1 hz2 rfl (by decide) (Value.slice aw E.length cw) E.length (flatH E) rfl (HP.out.below ((Below.refl _ W7).alloc (Nat.le_refl _) (.cells #[.int .i64 ac, .int .i64 ar, .int .i64 sq, .slice a7 ds.length c7, .int .i64 kd, .int .i64 nc, .int .i64 nr, .int .i64 pc, .int .i64 pr, .int .i64 fc, .int .i64 fr, .string nm, .string vl] 35))).own ⟨W7.heap.size, 0, none⟩ 1 1 [.int .i64 ac, .int .i64 ar, .int .i64 sq, .slice a7 ds.length c7, .int .i64 kd, .int .i64 nc, .int .i64 nr, .int .i64 pc, .int .i64 pr, .int .i64 fc, .int .i64 fr, .string nm, .string vl] rfl rfl (RowHas.new W7 [.int .i64 ac, .int .i64 ar, .int .i64 sq, .slice a7 ds.length c7, .int .i64 kd, .int .i64 nc, .int .i64 nr, .int .i64 pc, .int .i64 pr, .int .i64 fc, .int .i64 fr, .string nm, .string vl] 35).2 (fun x hx => by simp at hx; rcases hx with rfl | rfl | rfl | rfl | rfl | rfl | rfl | rfl | rfl | rfl | rfl | rfl | rfl <;> rfl) (by decide) (by unfold maxLen; omega) (by omega) (by have := HK3.out.2.1; simp; omega) _ rfl ?_; intro g4 c4 W8 hown3 hgrow3 hat3 hlt3; have HP8 : Hid (PutB G w (.slice (some ⟨g4, 0, none⟩) (E.length + 1) c4) (E ++ [((⟨ac, ar, sq, ds, kd, nc, nr, pc, pr, fc, fr, nm, vl⟩ : Ch), (Value.slice a7 ds.length c7))]) W8) := (HP.out.below ((Below.refl _ W7).alloc (Nat.le_refl _) (.cells #[.int .i64 ac, .int .i64 ar, .int .i64 sq, .slice a7 ds.length c7, .int .i64 kd, .int .i64 nc, .int .i64 nr, .int .i64 pc, .int .i64 pr, .int .i64 fc, .int .i64 fr, .string nm, .string vl] 35))).push hown3 hgrow3 (.inr (HO7.out.below ((Below.refl _ W7).alloc (Nat.le_refl _) (.cells #[.int .i64 ac, .int .i64 ar, .int .i64 sq, .slice a7 ds.length c7, .int .i64 kd, .int .i64 nc, .int .i64 nr, .int .i64 pc, .int .i64 pr, .int .i64 fc, .int .i64 fr, .string nm, .string vl] 35)))) (HZ.out); have HK4 : Hid (KeptC w w.heap.size [.int .i64 ac, .int .i64 ar, .int .i64 sq, .slice a0 ds.length c0, .int .i64 kd, .int .i64 nc, .int .i64 nr, .int .i64 pc, .int .i64 pr, .int .i64 fc, .int .i64 fr, .string nm, .string vl] W8) := (HK3.out.step ((Below.refl _ W7).alloc (Nat.le_refl _) (.cells #[.int .i64 ac, .int .i64 ar, .int .i64 sq, .slice a7 ds.length c7, .int .i64 kd, .int .i64 nc, .int .i64 nr, .int .i64 pc, .int .i64 pr, .int .i64 fc, .int .i64 fr, .string nm, .string vl] 35))).grownP hgrow3 (fun k e => (World.ownsRow.lt (HP.out.below ((Below.refl _ W7).alloc (Nat.le_refl _) (.cells #[.int .i64 ac, .int .i64 ar, .int .i64 sq, .slice a7 ds.length c7, .int .i64 kd, .int .i64 nc, .int .i64 nr, .int .i64 pc, .int .i64 pr, .int .i64 fc, .int .i64 fr, .string nm, .string vl] 35))).own k e).1); clear hown3 hgrow3 hat3 hlt3 HP HK3; have HP : Hid (PutB G w (.slice (some ⟨g4, 0, none⟩) (E.length + 1) c4) (E ++ [((⟨ac, ar, sq, ds, kd, nc, nr, pc, pr, fc, fr, nm, vl⟩ : Ch), (Value.slice a7 ds.length c7))]) W8) := HP8; have HK3 : Hid (KeptC w w.heap.size [.int .i64 ac, .int .i64 ar, .int .i64 sq, .slice a0 ds.length c0, .int .i64 kd, .int .i64 nc, .int .i64 nr, .int .i64 pc, .int .i64 pr, .int .i64 fc, .int .i64 fr, .string nm, .string vl] W8) := HK4; have hE8 : (E ++ [((⟨ac, ar, sq, ds, kd, nc, nr, pc, pr, fc, fr, nm, vl⟩ : Ch), (Value.slice a7 ds.length c7))]).length = E.length + 1 := (by simp); clear HP8 HK4 HO7; obtain ⟨p_0, p_1, p_2, p_3, p_4, p_5, p_6, p_7, p_8, p_9, p_10, p_11, p_12⟩ := HC.out _ HK3.out.2.2) | (at_builtin; refine wpList_append_lies _ rfl _ _ 28 rfl (w.heap.size + 1) 35 i0 (.agg #[.int .i64 0, .int .i64 0, .int .i64 0, .slice none 0 0, .int .i64 0, .int .i64 0, .int .i64 0, .int .i64 0, .int .i64 0, .int .i64 0, .int .i64 0, .string ⟨#[]⟩, .string ⟨#[]⟩]) 13 136 Try.underlying28 hi hz0 hz1 hz2 rfl (by decide) (Value.slice (some ⟨g4, 0, none⟩) (E.length + 1) c4) (E ++ [((⟨ac, ar, sq, ds, kd, nc, nr, pc, pr, fc, fr, nm, vl⟩ : Ch), (Value.slice a7 ds.length c7))]).length (flatH (E ++ [((⟨ac, ar, sq, ds, kd, nc, nr, pc, pr, fc, fr, nm, vl⟩ : Ch), (Value.slice a7 ds.length c7))])) rfl (HP.out.below ((Below.refl _ W8).alloc (Nat.le_refl _) (.cells #[.int .i64 ac2, .int .i64 ar2, .int .i64 sq2, .slice a2 ds2.length c2, .int .i64 kd2, .int .i64 nc2, .int .i64 nr2, .int .i64 pc2, .int .i64 pr2, .int .i64 fc2, .int .i64 fr2, .string nm2, .string vl2] 35))).own ⟨W8.heap.size, 0, none⟩ 1 1 [.int .i64 ac2, .int .i64 ar2, .int .i64 sq2, .slice a2 ds2.length c2, .int .i64 kd2, .int .i64 nc2, .int .i64 nr2, .int .i64 pc2, .int .i64 pr2, .int .i64 fc2, .int .i64 fr2, .string nm2, .string vl2] rfl rfl (RowHas.new W8 [.int .i64 ac2, .int .i64 ar2, .int .i64 sq2, .slice a2 ds2.length c2, .int .i64 kd2, .int .i64 nc2, .int .i64 nr2, .int .i64 pc2, .int .i64 pr2, .int .i64 fc2, .int .i64 fr2, .string nm2, .string vl2] 35).2 (fun x hx => by simp at hx; rcases hx with rfl | rfl | rfl | rfl | rfl | rfl | rfl | rfl | rfl | rfl | rfl | rfl | rfl <;> rfl) (by decide) (by unfold maxLen; omega) (by omega) (by have := HK3.out.2.1; simp; omega) _ rfl ?_; intro g3 c3 W9 hown3 hgrow3 hat3 hlt3; have HP9 : Hid (PutB G w (.slice (some ⟨g3, 0, none⟩) ((E ++ [((⟨ac, ar, sq, ds, kd, nc, nr, pc, pr, fc, fr, nm, vl⟩ : Ch), (Value.slice a7 ds.length c7))]).length + 1) c3) ((E ++ [((⟨ac, ar, sq, ds, kd, nc, nr, pc, pr, fc, fr, nm, vl⟩ : Ch), (Value.slice a7 ds.length c7))]) ++ [((⟨ac2, ar2, sq2, ds2, kd2, nc2, nr2, pc2, pr2, fc2, fr2, nm2, vl2⟩ : Ch), (Value.slice a2 ds2.length c2))]) W9) := (HP.out.below ((Below.refl _ W8).alloc (Nat.le_refl _) (.cells #[.int .i64 ac2, .int .i64 ar2, .int .i64 sq2, .slice a2 ds2.length c2, .int .i64 kd2, .int .i64 nc2, .int .i64 nr2, .int .i64 pc2, .int .i64 pr2, .int .i64 fc2, .int .i64 fr2, .string nm2, .string vl2] 35))).push hown3 hgrow3 (.inl (HG2.out.keep (KeepsS.of_below ((HK3.out.step ((Below.refl _ W8).alloc (Nat.le_refl _) (.cells #[.int .i64 ac2, .int .i64 ar2, .int .i64 sq2, .slice a2 ds2.length c2, .int .i64 kd2, .int .i64 nc2, .int .i64 nr2, .int .i64 pc2, .int .i64 pr2, .int .i64 fc2, .int .i64 fr2, .string nm2, .string vl2] 35))).2.2) HGl.out))) (HZ2.out); have HK4 : Hid (KeptC w w.heap.size [.int .i64 ac, .int .i64 ar, .int .i64 sq, .slice a0 ds.length c0, .int .i64 kd, .int .i64 nc, .int .i64 nr, .int .i64 pc, .int .i64 pr, .int .i64 fc, .int .i64 fr, .string nm, .string vl] W9) := (HK3.out.step ((Below.refl _ W8).alloc (Nat.le_refl _) (.cells #[.int .i64 ac2, .int .i64 ar2, .int .i64 sq2, .slice a2 ds2.length c2, .int .i64 kd2, .int .i64 nc2, .int .i64 nr2, .int .i64 pc2, .int .i64 pr2, .int .i64 fc2, .int .i64 fr2, .string nm2, .string vl2] 35))).grownP hgrow3 (fun k e => (World.ownsRow.lt (HP.out.below ((Below.refl _ W8).alloc (Nat.le_refl _) (.cells #[.int .i64 ac2, .int .i64 ar2, .int .i64 sq2, .slice a2 ds2.length c2, .int .i64 kd2, .int .i64 nc2, .int .i64 nr2, .int .i64 pc2, .int .i64 pr2, .int .i64 fc2, .int .i64 fr2, .string nm2, .string vl2] 35))).own k e).1); clear hown3 hgrow3 hat3 hlt3 HP HK3))
          go_roundw
          case rel => exact ⟨k + 1, _, true, by omega, by go_num, by simp, HK4, (by have h := HP9; rw [hE8] at h; exact h), HS3.out _⟩
          case measure => simp [intOf]; omega
      · go_upto_region 6 with fail
        refine wp_region_held_drew (S := fun W' => KeptC w w.heap.size [.int .i64 ac, .int .i64 ar, .int .i64 sq, .slice a0 ds.length c0, .int .i64 kd, .int .i64 nc, .int .i64 nr, .int .i64 pc, .int .i64 pr, .int .i64 fc, .int .i64 fr, .string nm, .string vl] W') (by kernel_rfl) HK2.out.drew (fun hHeld => ?_)
        obtain ⟨Ua3u0, eW⟩ : ∃ X, X = wr.drew := ⟨_, rfl⟩
        have hb : Below wr.heap.size wr Ua3u0 := by rw [eW]; exact (Below.refl _ _).drew
        replace HP : Hid (PutB G w (.slice aw E.length cw) E Ua3u0) := HP.out.below hb
        rw [← eW] at hHeld ⊢
        clear eW hb
        refine tkW 0 (some 15) (v := ?_) ?_ hHeld ?_
        rotate_left
        · (intro w _; go_simp; try with_reducible rfl)
        refine tkW 1 (some 16) (v := ?_) ?_ hHeld ?_
        rotate_left
        · (intro w _; go_simp; try with_reducible rfl)
        refine tkW 2 (some 17) (v := ?_) ?_ hHeld ?_
        rotate_left
        · (intro w _; go_simp; try with_reducible rfl)
        refine tkU 3 (some 18) hHeld ?_
        refine tkU 4 (some 19) hHeld ?_
        refine tkU 5 (some 20) hHeld ?_
        refine tkU 6 (some 21) hHeld ?_
        refine tkU 7 (some 22) hHeld ?_
        refine tkU 8 (some 23) hHeld ?_
        refine tkU 9 (some 24) hHeld ?_
        refine tkU 10 (some 25) hHeld ?_
        refine tkW 11 (some 26) (v := ?_) ?_ hHeld ?_
        rotate_left
        · (intro w _; go_simp; try with_reducible rfl)
        refine wpAnyH_done (by kernel_rfl) ?_ _
        have HK3 : Hid (KeptC w w.heap.size [.int .i64 ac, .int .i64 ar, .int .i64 sq, .slice a0 ds.length c0, .int .i64 kd, .int .i64 nc, .int .i64 nr, .int .i64 pc, .int .i64 pr, .int .i64 fc, .int .i64 fr, .string nm, .string vl] Ua3u0) := hHeld
        clear hHeld
        have HS3 : Hid (putC L (⟨ac, ar, sq, ds, kd, nc, nr, pc, pr, fc, fr, nm, vl⟩ : Ch) = (E ++ [((⟨ac2, ar2, sq2, ds2, kd2, nc2, nr2, pc2, pr2, fc2, fr2, nm2, vl2⟩ : Ch), (Value.slice a2 ds2.length c2))]).map Prod.fst ++ (if true = true then L.drop (k + 1) else putC (L.drop (k + 1)) (⟨ac, ar, sq, ds, kd, nc, nr, pc, pr, fc, fr, nm, vl⟩ : Ch))) := by
          show _ = _
          rw [HSp.out]
          simp
        obtain ⟨p_0, p_1, p_2, p_3, p_4, p_5, p_6, p_7, p_8, p_9, p_10, p_11, p_12⟩ := HC.out _ HK3.out.2.2
        go_wp2_with (at_builtin; refine wpList_append_lies _ rfl _ _ 28 rfl (w.heap.size + 1) 35 i0 (.agg #[.int .i64 0, .int .i64 0, .int .i64 0, .slice none 0 0, .int .i64 0, .int .i64 0, .int .i64 0, .int .i64 0, .int .i64 0, .int .i64 0, .int .i64 0, .string ⟨#[]⟩, .string ⟨#[]⟩]) 13 136 Try.underlying28 hi hz0 hz1 hz2 rfl (by decide) (Value.slice aw E.length cw) E.length (flatH E) rfl (HP.out.below ((Below.refl _ Ua3u0).alloc (Nat.le_refl _) (.cells #[.int .i64 ac2, .int .i64 ar2, .int .i64 sq2, .slice a2 ds2.length c2, .int .i64 kd2, .int .i64 nc2, .int .i64 nr2, .int .i64 pc2, .int .i64 pr2, .int .i64 fc2, .int .i64 fr2, .string nm2, .string vl2] 35))).own ⟨Ua3u0.heap.size, 0, none⟩ 1 1 [.int .i64 ac2, .int .i64 ar2, .int .i64 sq2, .slice a2 ds2.length c2, .int .i64 kd2, .int .i64 nc2, .int .i64 nr2, .int .i64 pc2, .int .i64 pr2, .int .i64 fc2, .int .i64 fr2, .string nm2, .string vl2] rfl rfl (RowHas.new Ua3u0 [.int .i64 ac2, .int .i64 ar2, .int .i64 sq2, .slice a2 ds2.length c2, .int .i64 kd2, .int .i64 nc2, .int .i64 nr2, .int .i64 pc2, .int .i64 pr2, .int .i64 fc2, .int .i64 fr2, .string nm2, .string vl2] 35).2 (fun x hx => by simp at hx; rcases hx with rfl | rfl | rfl | rfl | rfl | rfl | rfl | rfl | rfl | rfl | rfl | rfl | rfl <;> rfl) (by decide) (by unfold maxLen; omega) (by omega) (by have := HK3.out.2.1; simp; omega) _ rfl ?_; intro g3 c3 W9 hown3 hgrow3 hat3 hlt3; have HP9 : Hid (PutB G w (.slice (some ⟨g3, 0, none⟩) (E.length + 1) c3) (E ++ [((⟨ac2, ar2, sq2, ds2, kd2, nc2, nr2, pc2, pr2, fc2, fr2, nm2, vl2⟩ : Ch), (Value.slice a2 ds2.length c2))]) W9) := (HP.out.below ((Below.refl _ Ua3u0).alloc (Nat.le_refl _) (.cells #[.int .i64 ac2, .int .i64 ar2, .int .i64 sq2, .slice a2 ds2.length c2, .int .i64 kd2, .int .i64 nc2, .int .i64 nr2, .int .i64 pc2, .int .i64 pr2, .int .i64 fc2, .int .i64 fr2, .string nm2, .string vl2] 35))).push hown3 hgrow3 (.inl (HG2.out.keep (KeepsS.of_below ((HK3.out.step ((Below.refl _ Ua3u0).alloc (Nat.le_refl _) (.cells #[.int .i64 ac2, .int .i64 ar2, .int .i64 sq2, .slice a2 ds2.length c2, .int .i64 kd2, .int .i64 nc2, .int .i64 nr2, .int .i64 pc2, .int .i64 pr2, .int .i64 fc2, .int .i64 fr2, .string nm2, .string vl2] 35))).2.2) HGl.out))) (HZ2.out); have HK4 : Hid (KeptC w w.heap.size [.int .i64 ac, .int .i64 ar, .int .i64 sq, .slice a0 ds.length c0, .int .i64 kd, .int .i64 nc, .int .i64 nr, .int .i64 pc, .int .i64 pr, .int .i64 fc, .int .i64 fr, .string nm, .string vl] W9) := (HK3.out.step ((Below.refl _ Ua3u0).alloc (Nat.le_refl _) (.cells #[.int .i64 ac2, .int .i64 ar2, .int .i64 sq2, .slice a2 ds2.length c2, .int .i64 kd2, .int .i64 nc2, .int .i64 nr2, .int .i64 pc2, .int .i64 pr2, .int .i64 fc2, .int .i64 fr2, .string nm2, .string vl2] 35))).grownP hgrow3 (fun k e => (World.ownsRow.lt (HP.out.below ((Below.refl _ Ua3u0).alloc (Nat.le_refl _) (.cells #[.int .i64 ac2, .int .i64 ar2, .int .i64 sq2, .slice a2 ds2.length c2, .int .i64 kd2, .int .i64 nc2, .int .i64 nr2, .int .i64 pc2, .int .i64 pr2, .int .i64 fc2, .int .i64 fr2, .string nm2, .string vl2] 35))).own k e).1); clear hown3 hgrow3 hat3 hlt3 HP HK3)
        go_roundw
        case rel => exact ⟨k + 1, _, true, by omega, by go_num, by simp, HK4, HP9, HS3⟩
        case measure => simp [intOf]; omega
    · have hkl : k = L.length := by omega
      have HK3 : Hid (KeptC w w.heap.size [.int .i64 ac, .int .i64 ar, .int .i64 sq, .slice a0 ds.length c0, .int .i64 kd, .int .i64 nc, .int .i64 nr, .int .i64 pc, .int .i64 pr, .int .i64 fc, .int .i64 fr, .string nm, .string vl] wr) := HK2
      clear HK2
      cases dn
      · have HS3 : Hid (∀ d7, (E ++ [((⟨ac, ar, sq, ds, kd, nc, nr, pc, pr, fc, fr, nm, vl⟩ : Ch), d7)]).map Prod.fst = putC L (⟨ac, ar, sq, ds, kd, nc, nr, pc, pr, fc, fr, nm, vl⟩ : Ch)) := fun d7 => by
          rw [HS.out, hkl]
          simp [putC]
        have hszr := HP.out.bel.size
        obtain ⟨k_0, k_1, k_2, k_3, k_4, k_5, k_6, k_7, k_8, k_9, k_10, k_11, k_12⟩ := HK3.out.all
        go_wp2_with fail
        refine (refCopyCh_any ac ar sq (.slice a0 ds.length c0) kd nc nr pc pr fc fr nm vl ds _ (HIc.out.below HK3.out.2.2)).mono ?_
        rintro e W7 ⟨v7, rfl, ho7, hb7⟩
        obtain ⟨a7, c7, e7⟩ := ho7.form
        subst e7
        replace HP : Hid (PutB G w (.slice aw E.length cw) E W7) := HP.out.below hb7
        have HO7 : Hid (OwnI (w.heap.size + 1) W7 (Value.slice a7 ds.length c7) ds) := ho7.low (by have := HK3.out.2.1; omega)
        replace HK3 : Hid (KeptC w w.heap.size [.int .i64 ac, .int .i64 ar, .int .i64 sq, .slice a0 ds.length c0, .int .i64 kd, .int .i64 nc, .int .i64 nr, .int .i64 pc, .int .i64 pr, .int .i64 fc, .int .i64 fr, .string nm, .string vl] W7) := HK3.out.step hb7
        clear ho7 hb7 k_0 k_1 k_2 k_3 k_4 k_5 k_6 k_7 k_8 k_9 k_10 k_11 k_12
        go_wp2_with (at_builtin; refine wpList_append_lies _ rfl _ _ 28 rfl (w.heap.size + 1) 35 i0 (.agg #[.int .i64 0, .int .i64 0, .int .i64 0, .slice none 0 0, .int .i64 0, .int .i64 0, .int .i64 0, .int .i64 0, .int .i64 0, .int .i64 0, .int .i64 0, .string ⟨#[]⟩, .string ⟨#[]⟩]) 13 136 Try.underlying28 hi hz0 hz1 hz2 rfl (by decide) (Value.slice aw E.length cw) E.length (flatH E) rfl (HP.out.below ((Below.refl _ W7).alloc (Nat.le_refl _) (.cells #[.int .i64 ac, .int .i64 ar, .int .i64 sq, .slice a7 ds.length c7, .int .i64 kd, .int .i64 nc, .int .i64 nr, .int .i64 pc, .int .i64 pr, .int .i64 fc, .int .i64 fr, .string nm, .string vl] 35))).own ⟨W7.heap.size, 0, none⟩ 1 1 [.int .i64 ac, .int .i64 ar, .int .i64 sq, .slice a7 ds.length c7, .int .i64 kd, .int .i64 nc, .int .i64 nr, .int .i64 pc, .int .i64 pr, .int .i64 fc, .int .i64 fr, .string nm, .string vl] rfl rfl (RowHas.new W7 [.int .i64 ac, .int .i64 ar, .int .i64 sq, .slice a7 ds.length c7, .int .i64 kd, .int .i64 nc, .int .i64 nr, .int .i64 pc, .int .i64 pr, .int .i64 fc, .int .i64 fr, .string nm, .string vl] 35).2 (fun x hx => by simp at hx; rcases hx with rfl | rfl | rfl | rfl | rfl | rfl | rfl | rfl | rfl | rfl | rfl | rfl | rfl <;> rfl) (by decide) (by unfold maxLen; omega) (by omega) (by have := HK3.out.2.1; simp; omega) _ rfl ?_; intro g4 c4 W8 hown3 hgrow3 hat3 hlt3; have HP8 : Hid (PutB G w (.slice (some ⟨g4, 0, none⟩) (E.length + 1) c4) (E ++ [((⟨ac, ar, sq, ds, kd, nc, nr, pc, pr, fc, fr, nm, vl⟩ : Ch), (Value.slice a7 ds.length c7))]) W8) := (HP.out.below ((Below.refl _ W7).alloc (Nat.le_refl _) (.cells #[.int .i64 ac, .int .i64 ar, .int .i64 sq, .slice a7 ds.length c7, .int .i64 kd, .int .i64 nc, .int .i64 nr, .int .i64 pc, .int .i64 pr, .int .i64 fc, .int .i64 fr, .string nm, .string vl] 35))).push hown3 hgrow3 (.inr (HO7.out.below ((Below.refl _ W7).alloc (Nat.le_refl _) (.cells #[.int .i64 ac, .int .i64 ar, .int .i64 sq, .slice a7 ds.length c7, .int .i64 kd, .int .i64 nc, .int .i64 nr, .int .i64 pc, .int .i64 pr, .int .i64 fc, .int .i64 fr, .string nm, .string vl] 35)))) (HZ.out); have HK4 : Hid (KeptC w w.heap.size [.int .i64 ac, .int .i64 ar, .int .i64 sq, .slice a0 ds.length c0, .int .i64 kd, .int .i64 nc, .int .i64 nr, .int .i64 pc, .int .i64 pr, .int .i64 fc, .int .i64 fr, .string nm, .string vl] W8) := (HK3.out.step ((Below.refl _ W7).alloc (Nat.le_refl _) (.cells #[.int .i64 ac, .int .i64 ar, .int .i64 sq, .slice a7 ds.length c7, .int .i64 kd, .int .i64 nc, .int .i64 nr, .int .i64 pc, .int .i64 pr, .int .i64 fc, .int .i64 fr, .string nm, .string vl] 35))).grownP hgrow3 (fun k e => (World.ownsRow.lt (HP.out.below ((Below.refl _ W7).alloc (Nat.le_refl _) (.cells #[.int .i64 ac, .int .i64 ar, .int .i64 sq, .slice a7 ds.length c7, .int .i64 kd, .int .i64 nc, .int .i64 nr, .int .i64 pc, .int .i64 pr, .int .i64 fc, .int .i64 fr, .string nm, .string vl] 35))).own k e).1); clear hown3 hgrow3 hat3 hlt3 HP HK3)
        go_ret
        have hl8 : (E ++ [((⟨ac, ar, sq, ds, kd, nc, nr, pc, pr, fc, fr, nm, vl⟩ : Ch), (Value.slice a7 ds.length c7))]).length ≤ 281474976710656 := by simp; omega
        have hf := HP8.out.firm hl8
        rw [HS3.out (Value.slice a7 ds.length c7)] at hf
        exact ⟨_, rfl, hf, HP8.out.bel⟩
      · have HS3 : Hid (E.map Prod.fst = putC L (⟨ac, ar, sq, ds, kd, nc, nr, pc, pr, fc, fr, nm, vl⟩ : Ch)) := by
          show _ = _
          rw [HS.out, hkl]
          simp
        go_wp2
        go_ret
        have hf := HP.out.firm (by omega)
        rw [HS3.out] at hf
        exact ⟨_, rfl, hf, HP.out.bel⟩

end Go.Proofs.Ythndgmnckpimmaa

namespace Go.Proofs.Ythndgmnckpimmaa
open Go.RowKit
set_option linter.unusedVariables false
set_option linter.unusedSimpArgs false

/-- The place of a stamp's change. -/
def findI (L : List Ch) (a r : Int) : Int := match L.findIdx? (isAt a r) with | some k => (k : Int) | none => -1
theorem findI_none {L : List Ch} {a r : Int} (h : getL L a r = none) : findI L a r = -1 := by
  have : L.findIdx? (isAt a r) = none := by rw [List.findIdx?_eq_none_iff]; intro x hx; have := (List.find?_eq_none.1 h) x hx; simpa using this
  simp [findI, this]
theorem findI_at {L : List Ch} {a r : Int} {k : Nat} (hk : k < L.length) (h : getL (L.take k) a r = none) (he : isAt a r L[k] = true) : findI L a r = k ∧ getL L a r = some L[k] := by
  have h1 : ∀ x ∈ L.take k, ¬ isAt a r x = true := List.find?_eq_none.1 h
  have h2 : L.findIdx? (isAt a r) = some k := by
    rw [List.findIdx?_eq_some_iff_getElem]
    refine ⟨hk, he, fun j hj => ?_⟩
    exact h1 _ (by rw [List.mem_take_iff_getElem]; exact ⟨j, by omega, rfl⟩)
  refine ⟨by simp [findI, h2], ?_⟩
  unfold getL
  rw [List.find?_eq_some_iff_getElem]
  refine ⟨he, k, hk, rfl, fun j hj => ?_⟩
  have := h1 (L[j]) (by rw [List.mem_take_iff_getElem]; exact ⟨j, by omega, rfl⟩)
  simpa using this
theorem getL_next {L : List Ch} {a r : Int} {k : Nat} (hk : k < L.length) (h : getL (L.take k) a r = none) (he : isAt a r L[k] = false) : getL (L.take (k + 1)) a r = none := by
  unfold getL at h ⊢
  rw [List.take_succ_eq_append_getElem hk, List.find?_append, h]
  simp [he]
theorem findI_or (L : List Ch) (a r : Int) : (findI L a r = -1 ∧ getL L a r = none) ∨ ∃ (k : Nat) (h : k < L.length), findI L a r = k ∧ getL L a r = some L[k] := by
  cases hf : getL L a r with
  | none => exact .inl ⟨findI_none hf, rfl⟩
  | some c =>
    refine .inr ?_
    obtain ⟨h1, k, hk, h2, h3⟩ := List.find?_eq_some_iff_getElem.1 hf
    subst h2
    have h4 : getL (L.take k) a r = none := by
      unfold getL
      rw [List.find?_eq_none]
      intro x hx
      rw [List.mem_take_iff_getElem] at hx
      obtain ⟨j, hj, rfl⟩ := hx
      have := h3 j (by omega)
      simpa using this
    exact ⟨k, hk, (findI_at hk h4 h1).1, rfl⟩

set_option maxHeartbeats 2000000 in
/-- The document's Find. -/
theorem find_any (v : Value) (L : List Ch) (c r : Int) (w : World) (h1 : IsH w v L) :
    Calls Try.prog 60 #[v, .agg #[.int .i64 c, .int .i64 r]] w fun e w' => e = .returned (.int .i64 (findI L c r)) ∧ Below w.heap.size w w' := by
  obtain ⟨a1, c1, rfl, hc1, hl1, r1⟩ := h1
  have hbox : Below w.heap.size w (w.alloc (.cells #[.int .i64 c, .int .i64 r] 33)) := (Below.refl _ _).alloc (Nat.le_refl _) _
  have HR : Hid (L = [] ∨ ∃ b o, a1 = some ⟨b, o, none⟩ ∧ ChsAt w b o L) := r1
  clear r1
  go_enter Try.func60, Try.ntmps60
  go_wp2
  go_loopw [5] (fun i wr => ∃ k : Nat, k ≤ L.length ∧ i = .int .i64 (k : Int) ∧ Hid (getL (L.take k) c r = none) ∧ Below (w.heap.size + 1) (w.alloc (.cells #[.int .i64 c, .int .i64 r] 33)) wr) (fun i _ => L.length - (intOf i).toNat)
  case atStart => exact ⟨0, Nat.zero_le _, rfl, (rfl : getL (L.take 0) c r = none), Below.refl _ _⟩
  case round =>
    obtain ⟨k, hk, rfl, HT, hb⟩ := hrel
    have hbw : Below w.heap.size w wr := hbox.trans (hb.mono (by omega))
    have y1 : wr.cell? ⟨w.heap.size, 0, none⟩ = some (.int .i64 c) := (hb.cell (p := ⟨w.heap.size, 0, none⟩) (by show w.heap.size < _; omega)).trans (by simp [go_sem])
    have y2 : wr.cell? ⟨w.heap.size, 1, none⟩ = some (.int .i64 r) := (hb.cell (p := ⟨w.heap.size, 1, none⟩) (by show w.heap.size < _; omega)).trans (by simp [go_sem])
    by_cases hlt : k < L.length
    · obtain ⟨b1, o1, rfl, g1⟩ := HR.out.resolve_left (by intro e; subst e; simp at hlt)
      obtain ⟨_, _, _, _, x11, x12, _⟩ := ((g1.below hbw) k hlt).all
      have k1 : (k : Int) < (L.length : Int) := by omega
      have k0 : (0 : Int) ≤ (k : Int) := by omega
      cases hm : isAt c r L[k] with
      | true =>
        have HM : Hid (findI L c r = (k : Int)) := (findI_at hlt HT.out hm).1
        have hm2 : L[k].ac = c ∧ L[k].ar = r := of_decide_eq_true hm
        rw [hm2.1] at x11
        rw [hm2.2] at x12
        clear hm hm2 g1
        go_wp2
        go_quiet (fail)
        go_wp2
        go_ret
        exact ⟨ret_i HM.out.symm, below_drewN hbw _⟩
      | false =>
        have HM : Hid (getL (L.take (k + 1)) c r = none) := getL_next hlt HT.out hm
        have hm2 : ¬ (L[k].ac = c ∧ L[k].ar = r) := of_decide_eq_false hm
        by_cases hf : L[k].ac = c
        · have q2 : (L[k].ar == r) = false := by
            rw [beq_eq_false_iff_ne]; intro e; exact hm2 ⟨hf, e⟩
          rw [hf] at x11
          clear hm hm2 hf g1
          go_wp2
          go_quiet (fail)
          go_wp2
          go_roundw
          case rel => exact ⟨k + 1, by omega, by go_num, HM, below_drewN hb _⟩
          case measure => simp [intOf]; omega
        · have q1 : (L[k].ac == c) = false := by rw [beq_eq_false_iff_ne]; exact hf
          clear hm hm2 hf g1
          go_wp2
          go_quiet (fail)
          go_wp2
          go_roundw
          case rel => exact ⟨k + 1, by omega, by go_num, HM, below_drewN hb _⟩
          case measure => simp [intOf]; omega
    · have hkl : k = L.length := by omega
      have HM : Hid (findI L c r = -1) := by
        have := HT.out
        rw [hkl, List.take_length] at this
        exact findI_none this
      go_wp2
      go_ret
      exact ⟨ret_i HM.out.symm, hbw⟩

/-- What Clock counts, as far as it has come. -/
theorem counts_next {L : List Ch} {k : Nat} (hk : k < L.length) : counts (L.take (k + 1)) = if 0 ≤ L[k].ar ∧ L[k].ar < 64 then (counts (L.take k)).set L[k].ar.toNat ((counts (L.take k)).getD L[k].ar.toNat 0 + 1) else counts (L.take k) := by
  have hc : ∀ r : Int, cntR (L.take (k + 1)) r = cntR (L.take k) r + if L[k].ar = r then 1 else 0 := fun r => by
    unfold cntR ofR
    rw [List.take_succ_eq_append_getElem hk, List.filter_append, List.length_append]
    by_cases h : L[k].ar = r <;> simp [h]
  apply List.ext_getElem
  · split <;> simp [counts]
  · intro i h1 h2
    have hi : i < 64 := by simpa [counts] using h1
    have e1 : (counts (L.take (k + 1)))[i] = (cntR (L.take (k + 1)) (i : Int) : Int) := by simp [counts]
    have e2 : (counts (L.take k))[i]'(by rw [counts_length]; exact hi) = (cntR (L.take k) (i : Int) : Int) := by simp [counts]
    refine e1.trans ?_
    rw [hc]
    by_cases h : 0 ≤ L[k].ar ∧ L[k].ar < 64
    · have e3 : (if 0 ≤ L[k].ar ∧ L[k].ar < 64 then (counts (L.take k)).set L[k].ar.toNat ((counts (L.take k)).getD L[k].ar.toNat 0 + 1) else counts (L.take k)) = (counts (L.take k)).set L[k].ar.toNat ((counts (L.take k)).getD L[k].ar.toNat 0 + 1) := if_pos h
      simp only [e3]
      rw [List.getElem_set]
      by_cases hr : L[k].ar.toNat = i
      · have hr2 : L[k].ar = (i : Int) := by omega
        rw [if_pos hr, if_pos hr2, counts_getD, hr, if_pos hi]
        omega
      · have hr2 : ¬ L[k].ar = (i : Int) := by omega
        rw [if_neg hr, if_neg hr2, e2]
        omega
    · have e3 : (if 0 ≤ L[k].ar ∧ L[k].ar < 64 then (counts (L.take k)).set L[k].ar.toNat ((counts (L.take k)).getD L[k].ar.toNat 0 + 1) else counts (L.take k)) = counts (L.take k) := if_neg h
      simp only [e3]
      have hr2 : ¬ L[k].ar = (i : Int) := by omega
      rw [if_neg hr2, e2]
      omega
theorem OwnI.write {B : Nat} {w : World} {g cap n : Nat} {D : List Int} (h : OwnI B w (.slice (some ⟨g, 0, none⟩) n cap) D) (hn : n = D.length) (j : Nat) (c : Int) : OwnI B (w.setCell ⟨g, j, none⟩ (.int .i64 c)) (.slice (some ⟨g, 0, none⟩) n cap) (D.set j c) := by
  subst hn
  obtain ⟨h1, h2⟩ := World.ownsRow.stored h j (.int .i64 c)
  unfold OwnI
  rw [List.length_set]
  have e : cellsI (D.set j c) = (cellsI D).set j (.int .i64 c) := by simp [cellsI, List.map_set]
  rw [e]
  exact h1
theorem OwnI.at {B : Nat} {w : World} {g cap n : Nat} {D : List Int} (h : OwnI B w (.slice (some ⟨g, 0, none⟩) n cap) D) {j : Nat} (hj : j < D.length) : w.cell? ⟨g, j, none⟩ = some (.int .i64 (D.getD j 0)) ∧ w.frozen? ⟨g, j, none⟩ = false := by
  rcases h.2 with ⟨e, hn⟩ | ⟨g', cap', cur, e, hg, hc, hcap, rest⟩
  · cases e
  · cases e
    refine ⟨?_, frozen_of_row w g j _ _ hc⟩
    have := World.ownsRow.cellAt h j (by omega)
    rw [this, getD_at hj]
    simp [cellsI, hj]

set_option maxRecDepth 100000 in
set_option maxHeartbeats 4000000 in
/-- The document's Clock. -/
theorem refClock_any (v : Value) (L : List Ch) (w : World) (h1 : IsH w v L) :
    Calls Try.prog 21 #[v] w fun e w' => ∃ v', e = .returned v' ∧ OwnI w.heap.size w' v' (clockL L) ∧ Below w.heap.size w w' := by
  obtain ⟨a1, c1, rfl, hc1, hl1, r1⟩ := h1
  have HR : Hid (L = [] ∨ ∃ b o, a1 = some ⟨b, o, none⟩ ∧ ChsAt w b o L) := r1
  clear r1
  obtain ⟨i0, hi, hz0, hz1, hz2⟩ := info_parts infoInt
  obtain ⟨w1, hmk, ho1, hg1⟩ := run_makeSlice_full (P := Try.prog) w w.heap.size 31 3 i0 (.int .i64 0) 1 Try.underlying31 hi hz0 hz1 .i64 .i64 64 (by omega) (by rw [hz2]; omega) (by unfold maxLen; omega) (Nat.le_refl _)
  have HO1 : Hid (OwnI w.heap.size w1 (.slice (some ⟨w.heap.size, 0, none⟩) 64 64) (counts (L.take 0))) := by
    have e : (madeCells (Value.int .i64 0).cells (64 * 1)).toList = cellsI (counts (L.take 0)) := by
      have e2 : counts (L.take 0) = List.replicate 64 0 := by simp [counts, cntR, ofR, List.map_const']
      rw [e2]
      have e3 : (madeCells (Value.int .i64 0).cells (64 * 1)).toList = List.replicate 64 (Value.int .i64 0) := toList_madeCells_one _ _
      rw [e3]
      rfl
    rw [e] at ho1
    exact ho1
  have HB1 : Hid (Below w.heap.size w w1) := (Below.refl _ _).grown hg1 (Nat.le_refl _) (fun j e => by cases e)
  replace hmk : (Instr.makeSlice 31 (.int .i64 64) (.int .i64 64)).run Try.prog w = .ok (.slice (some ⟨w.heap.size, 0, none⟩) 64 64) w1 := hmk
  clear ho1 hg1 hi hz0 hz1 hz2
  go_enter Try.func21, Try.ntmps21
  go_wp2
  clear hmk
  go_loopw [4] (fun i wr => ∃ k : Nat, k ≤ L.length ∧ i = .int .i64 (k : Int) ∧ Hid (OwnI w.heap.size wr (.slice (some ⟨w.heap.size, 0, none⟩) 64 64) (counts (L.take k))) ∧ Hid (Below w.heap.size w wr)) (fun i _ => L.length - (intOf i).toNat)
  case atStart => exact ⟨0, Nat.zero_le _, rfl, HO1, HB1⟩
  case round =>
    obtain ⟨k, hk, rfl, HO, HB⟩ := hrel
    by_cases hlt : k < L.length
    · obtain ⟨b1, o1, rfl, g1⟩ := HR.out.resolve_left (by intro e; subst e; simp at hlt)
      obtain ⟨_, _, _, _, _, x12, _⟩ := ((g1.below HB.out) k hlt).all
      have k1 : (k : Int) < (L.length : Int) := by omega
      have k0 : (0 : Int) ≤ (k : Int) := by omega
      have HN : Hid (counts (L.take (k + 1)) = if 0 ≤ L[k].ar ∧ L[k].ar < 64 then (counts (L.take k)).set L[k].ar.toNat ((counts (L.take k)).getD L[k].ar.toNat 0 + 1) else counts (L.take k)) := counts_next hlt
      generalize L[k].ar = r at *
      clear g1
      by_cases hr0 : 0 ≤ r
      · by_cases hr1 : r < 64
        · obtain ⟨rn, rfl⟩ := Int.eq_ofNat_of_zero_le hr0
          have hrn : rn < 64 := by omega
          obtain ⟨y1, y2⟩ := HO.out.at (j := rn) (by rw [counts_length]; exact hrn)
          have HC : Hid (OwnI w.heap.size (wr.setCell ⟨w.heap.size, rn, none⟩ (.int .i64 ((counts (L.take k)).getD rn 0 + 1))) (.slice (some ⟨w.heap.size, 0, none⟩) 64 64) (counts (L.take (k + 1)))) := by
            have := HO.out.write (by rw [counts_length]) rn ((counts (L.take k)).getD rn 0 + 1)
            rw [HN.out, if_pos ⟨hr0, hr1⟩]
            exact this
          have hcn : 0 ≤ (counts (L.take k)).getD rn 0 ∧ (counts (L.take k)).getD rn 0 ≤ 281474976710656 := by
            rw [counts_getD, if_pos hrn]
            have : cntR (L.take k) (rn : Int) ≤ (L.take k).length := List.length_filter_le _ _
            rw [List.length_take] at this
            omega
          have HB2 : Hid (Below w.heap.size w (wr.setCell ⟨w.heap.size, rn, none⟩ (.int .i64 ((counts (L.take k)).getD rn 0 + 1)))) := HB.out.setCell (p := ⟨w.heap.size, rn, none⟩) (Nat.le_refl _) _
          generalize (counts (L.take k)).getD rn 0 = cn at *
          clear HO HB HN
          go_wp2
          go_roundw
          case rel => exact ⟨k + 1, by omega, by go_num, HC, HB2⟩
          case measure => simp [intOf]; omega
        · have HC : Hid (counts (L.take (k + 1)) = counts (L.take k)) := by
            have := HN.out
            rw [if_neg (by omega)] at this
            exact this
          clear HN
          go_wp2
          go_roundw
          case rel => exact ⟨k + 1, by omega, by go_num, by rw [HC.out]; exact HO, HB⟩
          case measure => simp [intOf]; omega
      · have HC : Hid (counts (L.take (k + 1)) = counts (L.take k)) := by
          have := HN.out
          rw [if_neg (by omega)] at this
          exact this
        clear HN
        go_wp2
        go_roundw
        case rel => exact ⟨k + 1, by omega, by go_num, by rw [HC.out]; exact HO, HB⟩
        case measure => simp [intOf]; omega
    · have hkl : k = L.length := by omega
      have HO2 : Hid (OwnI w.heap.size wr (.slice (some ⟨w.heap.size, 0, none⟩) 64 64) (counts L)) := by
        have := HO.out
        rw [hkl, List.take_length] at this
        exact this
      have HI : Hid (IsI wr (.slice (some ⟨w.heap.size, 0, none⟩) 64 64) (counts L)) := HO2.out.isI (by rw [counts_length]; omega)
      have hszr := HB.out.size
      clear HO
      go_wp2_with ((go_at_call 45; refine (refTrim_any _ _ _ HI.out).mono ?_; rintro e w' ⟨v', rfl, ho, hb⟩; have HO3 : Hid (OwnI w.heap.size w' v' (clockL L)) := OwnI.low ho hszr; have HB3 : Hid (Below w.heap.size w w') := HB.out.trans (hb.mono hszr); clear ho hb))
      go_ret
      exact ⟨_, rfl, HO3.out, HB3.out⟩

end Go.Proofs.Ythndgmnckpimmaa

namespace Go.Proofs.Ythndgmnckpimmaa
open Go.RowKit
set_option linter.unusedVariables false
set_option linter.unusedSimpArgs false

/-- The place of a replica's change by its number. -/
def ownP (L : List Ch) (r s : Int) : Int := match L.findIdx? (isOwn r s) with | some k => (k : Int) | none => -1
theorem ownP_none {L : List Ch} {a r : Int} (h : ownC L a r = none) : ownP L a r = -1 := by
  have : L.findIdx? (isOwn a r) = none := by rw [List.findIdx?_eq_none_iff]; intro x hx; have := (List.find?_eq_none.1 h) x hx; simpa using this
  simp [ownP, this]
theorem ownP_at {L : List Ch} {a r : Int} {k : Nat} (hk : k < L.length) (h : ownC (L.take k) a r = none) (he : isOwn a r L[k] = true) : ownP L a r = k ∧ ownC L a r = some L[k] := by
  have h1 : ∀ x ∈ L.take k, ¬ isOwn a r x = true := List.find?_eq_none.1 h
  have h2 : L.findIdx? (isOwn a r) = some k := by
    rw [List.findIdx?_eq_some_iff_getElem]
    refine ⟨hk, he, fun j hj => ?_⟩
    exact h1 _ (by rw [List.mem_take_iff_getElem]; exact ⟨j, by omega, rfl⟩)
  refine ⟨by simp [ownP, h2], ?_⟩
  unfold ownC
  rw [List.find?_eq_some_iff_getElem]
  refine ⟨he, k, hk, rfl, fun j hj => ?_⟩
  have := h1 (L[j]) (by rw [List.mem_take_iff_getElem]; exact ⟨j, by omega, rfl⟩)
  simpa using this
theorem ownC_next {L : List Ch} {a r : Int} {k : Nat} (hk : k < L.length) (h : ownC (L.take k) a r = none) (he : isOwn a r L[k] = false) : ownC (L.take (k + 1)) a r = none := by
  unfold ownC at h ⊢
  rw [List.take_succ_eq_append_getElem hk, List.find?_append, h]
  simp [he]
theorem ownP_or (L : List Ch) (a r : Int) : (ownP L a r = -1 ∧ ownC L a r = none) ∨ ∃ (k : Nat) (h : k < L.length), ownP L a r = k ∧ ownC L a r = some L[k] := by
  cases hf : ownC L a r with
  | none => exact .inl ⟨ownP_none hf, rfl⟩
  | some c =>
    refine .inr ?_
    obtain ⟨h1, k, hk, h2, h3⟩ := List.find?_eq_some_iff_getElem.1 hf
    subst h2
    have h4 : ownC (L.take k) a r = none := by
      unfold ownC
      rw [List.find?_eq_none]
      intro x hx
      rw [List.mem_take_iff_getElem] at hx
      obtain ⟨j, hj, rfl⟩ := hx
      have := h3 j (by omega)
      simpa using this
    exact ⟨k, hk, (ownP_at hk h4 h1).1, rfl⟩

set_option maxHeartbeats 2000000 in
/-- The document's Own. -/
theorem refOwn_any (v : Value) (L : List Ch) (r s : Int) (w : World) (h1 : IsH w v L) :
    Calls Try.prog 28 #[v, .int .i64 r, .int .i64 s] w fun e w' => e = .returned (.int .i64 (ownP L r s)) ∧ Below w.heap.size w w' := by
  obtain ⟨a1, c1, rfl, hc1, hl1, r1⟩ := h1
  have HR : Hid (L = [] ∨ ∃ b o, a1 = some ⟨b, o, none⟩ ∧ ChsAt w b o L) := r1
  clear r1
  go_enter Try.func28, Try.ntmps28
  go_wp2
  go_loopw [7] (fun i wr => ∃ k : Nat, k ≤ L.length ∧ i = .int .i64 (k : Int) ∧ Hid (ownC (L.take k) r s = none) ∧ Below w.heap.size w wr) (fun i _ => L.length - (intOf i).toNat)
  case atStart => exact ⟨0, Nat.zero_le _, rfl, (rfl : ownC (L.take 0) r s = none), Below.refl _ _⟩
  case round =>
    obtain ⟨k, hk, rfl, HT, hb⟩ := hrel
    by_cases hlt : k < L.length
    · obtain ⟨b1, o1, rfl, g1⟩ := HR.out.resolve_left (by intro e; subst e; simp at hlt)
      obtain ⟨_, _, _, _, _, x12, x13, _⟩ := ((g1.below hb) k hlt).all
      have k1 : (k : Int) < (L.length : Int) := by omega
      have k0 : (0 : Int) ≤ (k : Int) := by omega
      cases hm : isOwn r s L[k] with
      | true =>
        have HM : Hid (ownP L r s = (k : Int)) := (ownP_at hlt HT.out hm).1
        have hm2 : L[k].ar = r ∧ L[k].seq = s := of_decide_eq_true hm
        rw [hm2.1] at x12
        rw [hm2.2] at x13
        clear hm hm2 g1
        go_wp2
        go_ret
        exact ⟨ret_i HM.out.symm, hb⟩
      | false =>
        have HM : Hid (ownC (L.take (k + 1)) r s = none) := ownC_next hlt HT.out hm
        have hm2 : ¬ (L[k].ar = r ∧ L[k].seq = s) := of_decide_eq_false hm
        by_cases hf : L[k].ar = r
        · have q2 : (L[k].seq == s) = false := by
            rw [beq_eq_false_iff_ne]; intro e; exact hm2 ⟨hf, e⟩
          rw [hf] at x12
          clear hm hm2 hf g1
          go_wp2
          go_roundw
          case rel => exact ⟨k + 1, by omega, by go_num, HM, hb⟩
          case measure => simp [intOf]; omega
        · have q1 : (L[k].ar == r) = false := by rw [beq_eq_false_iff_ne]; exact hf
          clear hm hm2 hf g1
          go_wp2
          go_roundw
          case rel => exact ⟨k + 1, by omega, by go_num, HM, hb⟩
          case measure => simp [intOf]; omega
    · have hkl : k = L.length := by omega
      have HM : Hid (ownP L r s = -1) := by
        have := HT.out
        rw [hkl, List.take_length] at this
        exact ownP_none this
      go_wp2
      go_ret
      exact ⟨ret_i HM.out.symm, hb⟩

set_option maxRecDepth 100000 in
set_option maxHeartbeats 2000000 in

theorem foldl_next {L : List Ch} {k : Nat} (hk : k < L.length) : (L.take (k + 1)).foldl (fun m c => max m c.ac) (0 : Int) = max ((L.take k).foldl (fun m c => max m c.ac) 0) L[k].ac := by
  rw [List.take_succ_eq_append_getElem hk, List.foldl_append]; rfl

end Go.Proofs.Ythndgmnckpimmaa
