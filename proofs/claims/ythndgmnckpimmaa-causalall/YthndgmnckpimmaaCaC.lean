/- What Held tells. -/
import Derived.Test.YthndgmnckpimmaaCaB
import Derived.Test.YthndgmnckpimmaaCaT
import Derived.Test.YthndgmnckpimmaaCaU
namespace Go.Proofs.Ythndgmnckpimmaa
open Go.RowKit
set_option linter.unusedVariables false
set_option linter.unusedSimpArgs false

/-- What lies where while Held goes over the map. -/
structure HeldS (w1 : World) (mb : Nat) (D : List (Ch × Value)) (ov : Value) (E R : List (Ch × Value)) (wr : World) : Prop where
  it : IterIs wr mb w1.heap.size D R
  acc : AccH (w1.heap.size + 1) ov E wr
  per : (E.map Prod.fst ++ R.map Prod.fst).Perm (D.map Prod.fst)
  sub : ∀ x ∈ R, x ∈ D
  bel : Below w1.heap.size w1 wr
theorem HeldS.below {w1 : World} {mb : Nat} {D : List (Ch × Value)} {ov : Value} {E R : List (Ch × Value)} {wr W : World} (h : HeldS w1 mb D ov E R wr) (hb : Below wr.heap.size wr W) : HeldS w1 mb D ov E R W :=
  ⟨h.it.below hb, h.acc.below hb, h.per, h.sub, h.bel.trans (hb.mono h.bel.size)⟩

/-- How many are still to come. -/
def leftN (w : World) (b r : Nat) : Nat := match w.heap[r]?, w.heap[b]? with
  | some (.mapIter _ _ seen _), some (.map es _) => (leftOf es seen).size
  | _, _ => 0
theorem IterIs.left {w : World} {b r : Nat} {D R : List (Ch × Value)} (h : IterIs w b r D R) : leftN w b r = R.length := by
  obtain ⟨es, clock, since, seen, c0, h1, h2, _, _, _, _, h3⟩ := h
  unfold leftN
  rw [h1, h2]
  have := congrArg List.length h3
  simpa using this
/-- The changes, in order. -/
def SrtC (L : List Ch) : Prop := L.Pairwise ltC

def BoxC (W : World) (b : Nat) (c : Ch) (a : Option Addr) (n cap : Nat) : Prop := W.heap[b]? = some (.cells (chCells c (.slice a n cap)).toArray 35)
theorem hcOf : ∀ (E : List (Ch × Value)), (∀ x ∈ E, ∃ a c, x.2 = .slice a x.1.deps.length c) → ∃ L : List HC, E = L.map cvH
  | [], _ => ⟨[], rfl⟩
  | x :: E, h => by
    obtain ⟨L, e⟩ := hcOf E fun y hy => h y (List.mem_cons_of_mem _ hy)
    obtain ⟨a, c, e2⟩ := h x (List.mem_cons_self ..)
    refine ⟨(x.1, a, c) :: L, ?_⟩
    rw [List.map_cons, ← e]
    congr 1
    exact Prod.ext rfl e2
theorem held_push {w1 : World} {mb : Nat} {D : List (Ch × Value)} {ov v dv : Value} {E R : List (Ch × Value)} {c : Ch} {U U' : World} (hit : IterIs U mb w1.heap.size D R) (ha : AccH (w1.heap.size + 1) ov E U) (hb : Below w1.heap.size w1 U) (hown : OwnH (w1.heap.size + 1) U' v (E ++ [(c, dv)])) (hg : U.grownBy U' ov.ownBlock) (hd : OwnI (w1.heap.size + 1) U dv c.deps) (hs : Sized c ∧ c.deps.length ≤ 17592186044416) (hp : (E.map Prod.fst ++ c :: R.map Prod.fst).Perm (D.map Prod.fst)) (hsub : ∀ x ∈ R, x ∈ D) (hmb : mb < w1.heap.size) :
    HeldS w1 mb D v (E ++ [(c, dv)]) R U' := by
  have hrow : ∀ j, ov.ownBlock = some j → w1.heap.size + 1 ≤ j := fun j e => (World.ownsRow.lt ha.own j e).1
  refine ⟨hit.keep (hg.block _ hit.lt.1 fun e => ?_) (hg.block _ hit.lt.2.1 fun e => ?_), ha.push hown hg hd hs, ?_, hsub, hb.grown hg hb.size fun j e => by have := hrow j e; omega⟩
  · have := hrow _ e.symm; omega
  · have := hrow _ e.symm; omega
  · rw [List.map_append, List.append_assoc]
    exact hp

theorem srt_strict {L : List HC} {D : List (Ch × Value)} (hs : L.Pairwise fun x y => ¬ ltC y.1 x.1) (hp : (L.map fun x => x.1).Perm (D.map Prod.fst)) (ok : HoldOk D) : SrtC (L.map fun x => x.1) := by
  have h1 : (D.map Prod.fst).Pairwise fun x y => ¬ (x.ar = y.ar ∧ x.seq = y.seq) := List.pairwise_map.2 ok.apart
  have h2 : (L.map fun x => x.1).Pairwise fun x y => ¬ (x.ar = y.ar ∧ x.seq = y.seq) := (hp.pairwise_iff (fun {x y} h e => h ⟨e.1.symm, e.2.symm⟩)).2 h1
  unfold SrtC
  rw [List.pairwise_map] at h2 ⊢
  refine (hs.and h2).imp fun {x y} h => ?_
  unfold ltC at *
  omega
theorem held_sorted {w w1 wr w5 : World} {g cap : Nat} {L L' : List HC} {D : List (Ch × Value)} (ha : AccH (w1.heap.size + 1) (.slice (some ⟨g, 0, none⟩) L.length cap) (L.map cvH) wr) (hp : L'.Perm L) (hso : L'.Pairwise fun x y => ¬ ltC y.1 x.1) (hown : OwnH (w1.heap.size + 1) w5 (.slice (some ⟨g, 0, none⟩) L'.length cap) (L'.map cvH)) (hg : wr.grownBy w5 (some g)) (hE : ((L.map cvH).map Prod.fst).Perm (D.map Prod.fst)) (ok : HoldOk D) (hb : Below w.heap.size w wr) (hN : w.heap.size ≤ w1.heap.size) :
    AccH w.heap.size (.slice (some ⟨g, 0, none⟩) L.length cap) (L'.map cvH) w5 ∧ ((L'.map cvH).map Prod.fst).Perm (D.map Prod.fst) ∧ SrtC ((L'.map cvH).map Prod.fst) ∧ Below w.heap.size w w5 := by
  have hg0 : w1.heap.size + 1 ≤ g := (World.ownsRow.lt ha.own g rfl).1
  have e1 : ∀ M : List HC, (M.map cvH).map Prod.fst = M.map fun x => x.1 := fun M => by rw [List.map_map]; rfl
  have hp2 : ((L'.map cvH).map Prod.fst).Perm (D.map Prod.fst) := ((hp.map cvH).map Prod.fst).trans hE
  refine ⟨⟨?_, fun x hx => ?_, Nat.le_trans hb.size hg.size⟩, hp2, ?_, hb.grown hg hb.size fun j e => by cases e; omega⟩
  · rw [← hp.length_eq]; exact ownsRow_low hown (by omega)
  · have hx2 : x ∈ L.map cvH := (hp.map cvH).mem_iff.1 hx
    have := ha.dep x hx2
    exact ⟨OwnI.low (OwnI.keepF this.1 fun k e => hg.block k (World.ownsRow.lt this.1 k e).2 (fun e2 => ownsRow_apart this.1 ha.own (by decide) k e (by cases e2; rfl))) (by omega), this.2⟩
  · rw [e1] at hp2 ⊢
    exact srt_strict hso hp2 ok

set_option maxRecDepth 100000 in
set_option maxHeartbeats 4000000 in
theorem held_any (v : Value) (room : Int) (D : List (Ch × Value)) (F : Nat → Prop) (w : World) (h : BufV F w v room D) (hl : D.length ≤ 4096) :
    Calls Try.prog 23 #[v] w fun e w' => ∃ v' E, e = .returned v' ∧ AccH w.heap.size v' E w' ∧ (E.map Prod.fst).Perm (D.map Prod.fst) ∧ SrtC (E.map Prod.fst) ∧ Below w.heap.size w w' := by
  go_enter Try.func23, Try.ntmps23
  go_wp2_with fail
  refine (orEmpty_any v room D F _ h).mono ?_
  rintro e w1 ⟨bb, mb, F', rfl, h1, hb1, hF⟩
  have HB1 : Hid (Below w.heap.size w w1) := hb1
  have HL1 : Hid (BufIs F' w1 bb room mb D) := h1
  have c1 := h1.cell1
  have HMb : Hid (mb < w1.heap.size) := h1.hmap.lt
  obtain ⟨o, hrg, hit⟩ := range_pl h1.hmap
  obtain ⟨W2, eW2⟩ : ∃ X, X = w1.alloc o := ⟨_, rfl⟩
  have hb2 : Below w1.heap.size w1 W2 := by rw [eW2]; exact (Below.refl _ _).alloc (Nat.le_refl _) _
  rw [← eW2] at hrg hit
  have HIT : Hid (IterIs W2 mb w1.heap.size D D) := hit
  clear eW2 hit h1 hb1 h
  have HS0 : Hid (HeldS w1 mb D (.slice none 0 0) [] D W2) := ⟨HIT.out, AccH.nil _ _ (by have := HIT.out.lt; omega), List.Perm.refl _, fun x hx => hx, hb2⟩
  clear hb2 HIT
  go_wp2
  clear hrg
  go_loopw [3, 5] (fun ov _ wr => ∃ E R, Hid (HeldS w1 mb D ov E R wr)) (fun _ _ wr => leftN wr mb w1.heap.size)
  case atStart => exact ⟨[], D, HS0⟩
  case round =>
    obtain ⟨E, R, HS⟩ := hrel
    rcases next_pl HS.out.it 0 with ⟨hR, hnx⟩ | ⟨R1, x, R2, W3, hR, hnx, hit3, hg3, hz3, hen⟩
    · have hE : (E.map Prod.fst).Perm (D.map Prod.fst) := by
        have := HS.out.per
        rw [hR] at this
        simpa using this
      have HE : Hid ((E.map Prod.fst).Perm (D.map Prod.fst)) := hE
      have hEl : E.length ≤ 4096 := by have := hE.length_eq; simp at this; omega
      have HBw : Hid (Below w.heap.size w wr) := HB1.out.trans (HS.out.bel.mono HB1.out.size)
      have hNl : w.heap.size ≤ w1.heap.size := HB1.out.size
      clear hE
      rcases HS.out.acc.own.2 with ⟨hov, h0⟩ | ⟨g, cap, cur, hov, hg, hc, hcap, _⟩
      · obtain rfl : E = [] := List.eq_nil_of_length_eq_zero h0
        subst hov
        go_wp2_with fail
        refine (sortH_none none 0 _).mono ?_
        rintro e w5 ⟨rfl, hw5⟩
        replace hw5 := hw5.symm
        subst hw5
        go_wp2
        go_ret
        refine ⟨_, [], rfl, AccH.nil _ _ (Nat.le_trans hNl HS.out.bel.size), ?_, ?_, HBw.out⟩
        · exact HE.out
        · exact List.Pairwise.nil
      · subst hov
        obtain ⟨L, eL⟩ := hcOf E (fun x hx => (HS.out.acc.dep x hx).1.form)
        subst eL
        have hE2 : Hid (((L.map cvH).map Prod.fst).Perm (D.map Prod.fst)) := HE
        rw [List.length_map] at *
        go_wp2_with fail
        refine (sortH_some (w1.heap.size + 1) g cap L _ (by have := HS.out.acc.own; exact this) (Array.getElem?_eq_some_iff.1 hc).1 hg (by omega)).mono ?_
        rintro e w5 ⟨rfl, L', hp, hso, hown, hb5, hg5⟩
        have HR : Hid (AccH w.heap.size (.slice (some ⟨g, 0, none⟩) L.length cap) (L'.map cvH) w5 ∧ ((L'.map cvH).map Prod.fst).Perm (D.map Prod.fst) ∧ SrtC ((L'.map cvH).map Prod.fst) ∧ Below w.heap.size w w5) := held_sorted HS.out.acc hp hso hown hg5 hE2.out HL1.out.ok HBw.out hNl
        clear hp hso hown hb5 hg5
        go_wp2
        go_ret
        exact ⟨_, _, rfl, HR.out⟩
    · have HI := HL1.out.below HS.out.bel
      have hxD := HS.out.sub x (by rw [hR]; simp)
      have HSx : Hid (checkCh x.1 = 0 ∧ Sized x.1) := HI.ok.right x hxD
      have HxD : Hid (x ∈ D) := hxD
      obtain ⟨a0, c0, e0⟩ := (HI.hdep x hxD).form
      obtain ⟨⟨ac, ar, sq, ds, kd, nc, nr, pc, pr, fc, fr, nm, vl⟩, dv⟩ := x
      simp only at e0
      subst e0
      simp only [chV, chCells, plV] at hnx hen
      obtain ⟨a1, c1, e1⟩ := HS.out.acc.own.form
      subst e1
      have hEl : E.length < 4096 := by
        have := HS.out.per.length_eq
        rw [hR] at this
        simp at this
        omega
      have hgr : Below w1.heap.size w1 W3 := HS.out.bel.grown hg3 HS.out.bel.size (fun j e => by cases e; exact Nat.le_refl _)
      have HB3 : Hid (Below w1.heap.size w1 W3) := hgr
      have HIT3 : Hid (IterIs W3 mb w1.heap.size D (R1 ++ R2)) := hit3
      have HA3 : Hid (AccH (w1.heap.size + 1) (.slice a1 E.length c1) E W3) := HS.out.acc.keep (by omega) (fun k hk h2 => hg3.block k h2 (fun e => by cases e; omega))
      have hiI : IsI W3 (.slice a0 ds.length c0) ds := OwnI.isI ((HL1.out.below hgr).hdep _ hxD) (Nat.le_trans (deps_len HSx.out.1).1 (by decide))
      have HII : Hid (IsI W3 (.slice a0 ds.length c0) ds) := hiI
      have HP3 : Hid ((E.map Prod.fst ++ (⟨ac, ar, sq, ds, kd, nc, nr, pc, pr, fc, fr, nm, vl⟩ : Ch) :: (R1 ++ R2).map Prod.fst).Perm (D.map Prod.fst)) := by
        have := HS.out.per
        rw [hR] at this
        refine List.Perm.trans ?_ this
        simp only [List.map_append, List.map_cons]
        exact List.Perm.append_left _ (List.perm_middle.symm)
      have HSb3 : Hid (∀ x ∈ R1 ++ R2, x ∈ D) := fun y hy => HS.out.sub y (by rw [hR]; simp at hy ⊢; rcases hy with h | h <;> simp [h])
      have HN : Hid (leftN wr mb w1.heap.size = (R1 ++ R2).length + 1) := by
        show _ = _
        rw [HS.out.it.left, hR]
        simp
        omega
      clear HI hxD hR hgr hit3 hiI HS hg3
      go_wp2_with fail
      clear hnx hen
      obtain ⟨W4, eW4⟩ : ∃ X, X = W3.alloc (.cells #[.int .i64 ac, .int .i64 ar, .int .i64 sq, .slice a0 ds.length c0, .int .i64 kd, .int .i64 nc, .int .i64 nr, .int .i64 pc, .int .i64 pr, .int .i64 fc, .int .i64 fr, .string nm, .string vl] 35) := ⟨_, rfl⟩
      have hb4 : Below W3.heap.size W3 W4 := by rw [eW4]; exact (Below.refl _ _).alloc (Nat.le_refl _) _
      rw [← eW4]
      have HI4 : Hid (IsI W4 (.slice a0 ds.length c0) ds) := HII.out.below hb4
      refine (copyCh_any ac ar sq (.slice a0 ds.length c0) kd nc nr pc pr fc fr nm vl ds _ HI4.out).mono ?_
      rintro e w9 ⟨v2, rfl, ho, hb9⟩
      obtain ⟨a2, c2, e2⟩ := ho.form
      subst e2
      have hb39 : Below W3.heap.size W3 w9 := hb4.trans (hb9.mono hb4.size)
      have HIT9 : Hid (IterIs w9 mb w1.heap.size D (R1 ++ R2)) := HIT3.out.below hb39
      have HA9 : Hid (AccH (w1.heap.size + 1) (.slice a1 E.length c1) E w9) := HA3.out.below hb39
      have HB9 : Hid (Below w1.heap.size w1 w9) := HB3.out.trans (hb39.mono HB3.out.size)
      have HO9 : Hid (OwnI (w1.heap.size + 1) w9 (.slice a2 ds.length c2) ds) := ho.cut (by have := hb4.size; have := HIT3.out.lt; omega)
      clear hb4 eW4 hb9 ho hb39 HI4 HIT3 HA3 HB3 HII
      obtain ⟨W5, eW5⟩ : ∃ X, X = w9.alloc (.cells #[.int .i64 ac, .int .i64 ar, .int .i64 sq, .slice a2 ds.length c2, .int .i64 kd, .int .i64 nc, .int .i64 nr, .int .i64 pc, .int .i64 pr, .int .i64 fc, .int .i64 fr, .string nm, .string vl] 35) := ⟨_, rfl⟩
      have hb5 : Below w9.heap.size w9 W5 := by rw [eW5]; exact (Below.refl _ _).alloc (Nat.le_refl _) _
      have HC5 : Hid (BoxC W5 w9.heap.size (⟨ac, ar, sq, ds, kd, nc, nr, pc, pr, fc, fr, nm, vl⟩ : Ch) a2 ds.length c2) := by rw [eW5]; exact heap_alloc_new _ _
      have HIT5 : Hid (IterIs W5 mb w1.heap.size D (R1 ++ R2)) := HIT9.out.below hb5
      have HA5 : Hid (AccH (w1.heap.size + 1) (.slice a1 E.length c1) E W5) := HA9.out.below hb5
      have HB5 : Hid (Below w1.heap.size w1 W5) := HB9.out.trans (hb5.mono HB9.out.size)
      have HO5 : Hid (OwnI (w1.heap.size + 1) W5 (.slice a2 ds.length c2) ds) := HO9.out.below hb5
      clear hb5 HIT9 HA9 HB9 HO9
      go_wp2_with (at_builtin; rw [← eW5]; refine wpList_appH rfl _ _ rfl (w1.heap.size + 1) (.slice a1 E.length c1) E rfl HA5.out.own w9.heap.size (⟨ac, ar, sq, ds, kd, nc, nr, pc, pr, fc, fr, nm, vl⟩ : Ch) a2 ds.length c2 rfl HC5.out (by omega) HA5.out.le ?_; clear eW5; intro g3 c3 W10 hown hgrow hat hlt; have HS10 : Hid (HeldS w1 mb D (.slice (some ⟨g3, 0, none⟩) (E.length + 1) c3) (E ++ [((⟨ac, ar, sq, ds, kd, nc, nr, pc, pr, fc, fr, nm, vl⟩ : Ch), .slice a2 ds.length c2)]) (R1 ++ R2) W10) := held_push HIT5.out HA5.out HB5.out hown hgrow HO5.out ⟨HSx.out.2, Nat.le_trans (deps_len HSx.out.1).1 (by decide)⟩ HP3.out HSb3.out HMb.out; clear hown hgrow hat hlt)
      go_roundw
      case rel => exact ⟨_, _, HS10⟩
      case measure => rw [HN.out, HS10.out.it.left]; exact Nat.lt_succ_self _

end Go.Proofs.Ythndgmnckpimmaa
