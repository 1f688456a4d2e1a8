/- 'append(out, x...)' of numbers; rows of texts that the call made itself. -/
import Derived.Test.YtlioiblpcpaejaaGreatXC
import Derived.Test.YtlioiblpcpaejaaGreatXJ
import Derived.Test.YtlioiblpcpaejaaGreatXH
import Derived.Test.YtlioiblpcpaejaaGreatXD
namespace Go.Proofs.YtlioiblpcpaejaaGreat
open Go.RowKit
set_option linter.unusedVariables false

theorem OwnI.more {B : Nat} {w : World} {v : Value} {D E : List Int} {n : Nat} {cs : List Value} (h : w.ownsRow B 3 1 v n cs) (hn : n = D.length + E.length) (hc : cs = cellsI D ++ cellsI E) : OwnI B w v (D ++ E) := by
  subst hn hc
  unfold OwnI
  have e : cellsI (D ++ E) = cellsI D ++ cellsI E := by simp [cellsI]
  rw [e, List.length_append]
  exact h

/-- 'append(out, b...)', out a row of the call's own, b any slice of numbers. -/
theorem wpList_appI {w : World} {ops : Array Oper} {rest : List Oper} {o : Oper} {a : Act} {Q : Exit → Act → World → Prop} (hgd : o.guard = none) (s x : Operand)
    (ho : o.op = .call { callee := .builtin .append, args := #[s, x], argTypes := #[23, 23] })
    (B : Nat) (v : Value) (D : List Int) (hs : a.eval s = v) (hown : OwnI B w v D) (hB : B ≤ w.heap.size) (vx : Value) (p : List Int) (hx : a.eval x = vx) (hv : IsI w vx p) (hl : D.length + p.length ≤ 17592186044416)
    (h : ∀ v' w', OwnI B w' v' (D ++ p) → w.grownBy w' v.ownBlock → wpList Tryz.prog ops Q rest (a.put o.dst v') w') : wpList Tryz.prog ops Q (o :: rest) a w := by
  obtain ⟨i0, hi, hz0, hz1, hz2⟩ := info_parts infoInt
  obtain ⟨a1, c1, rfl, hc1, hl1, r1⟩ := hv
  cases a1 with
  | none =>
    obtain rfl : p = [] := by rcases r1 with h | ⟨b, o, h, _⟩; exact h; cases h
    have hcl : ∀ ty, (Builtin.append_ #[23, 23] ty #[v, .slice none 0 c1]).run Tryz.prog w = .ok v w := fun ty => by
      rcases hown.2 with ⟨rfl, h0⟩ | ⟨g, cap, cur, rfl, _, _, hnc, _⟩
      · simp [Builtin.append_, run_underlying Tryz.underlying23, sizeOf, typeInfo, hi, Builtin.lenOf, Builtin.firstCells]
      · simp [Builtin.append_, run_underlying Tryz.underlying23, sizeOf, typeInfo, hi, Builtin.lenOf, Builtin.firstCells, hnc, storeCells]
    refine wpList_plain hgd fun K hK => ?_
    unfold Oper.wp
    simp only [List.length_nil] at hx
    simp [execOp, ho, resolve, invoke, builtin, hs, hx, hcl, Result.andThen]
    exact hK _ _ (h _ _ (by rw [List.append_nil]; exact hown) (grownBy.same _ _))
  | some ad =>
    refine wpList_append_own _ hgd s x 23 ho B 3 i0 (.int .i64 0) 1 8 Tryz.underlying23 hi hz0 hz1 hz2 rfl (by decide) _ _ _ hs hown ad p.length c1 (cellsI p) hx (cellsI_length p) ?_ (cellsI_one p) (by unfold maxLen; omega) (by omega) hB ?_
    · intro j u hj
      rcases r1 with rfl | ⟨b, o, e, g⟩
      · simp [cellsI] at hj
      · cases e
        exact g.news j u hj
    · intro v3 w3 hown3 hgrow _
      exact h v3 w3 (OwnI.more hown3 rfl rfl) hgrow

/-- 'append(out, b...)' in a region that draws its order. -/
theorem step_appI {w : World} {ops : Array Oper} {o : Oper} {a : Act} {K : Act → World → Prop} {Q : Exit → Act → World → Prop} {E : Prop} (hgd : o.guard = none) (s x : Operand)
    (ho : o.op = .call { callee := .builtin .append, args := #[s, x], argTypes := #[23, 23] })
    (B : Nat) (v : Value) (D : List Int) (hs : a.eval s = v) (hown : OwnI B w v D) (hB : B ≤ w.heap.size) (ad : Addr) (m c : Nat) (p : List Int) (hx : a.eval x = .slice (some ad) m c) (hv : IsI w (.slice (some ad) m c) p) (hl : D.length + p.length ≤ 17592186044416)
    (h : ∀ v' w', OwnI B w' v' (D ++ p) → w.grownBy w' v.ownBlock → K (a.put o.dst v') w') :
    if Region.wanted o (yielded ops a.tmps) = true then Oper.wp Tryz.prog o a w K Q else E := by
  obtain ⟨i0, hi, hz0, hz1, hz2⟩ := info_parts infoInt
  have hw : Region.wanted o (yielded ops a.tmps) = true := by simp [Region.wanted, hgd]
  rw [if_pos hw]
  obtain ⟨a1, c1, e, hc1, hl1, r1⟩ := hv
  cases e
  refine wp_append_own _ s x 23 ho B 3 i0 (.int .i64 0) 1 8 Tryz.underlying23 hi hz0 hz1 hz2 rfl (by decide) _ _ _ hs hown ad p.length c (cellsI p) hx (cellsI_length p) ?_ (cellsI_one p) (by unfold maxLen; omega) (by omega) hB ?_
  · intro j u hj
    rcases r1 with rfl | ⟨b, o, e, g⟩
    · simp [cellsI] at hj
    · cases e
      exact g.news j u hj
  · intro v3 w3 hown3 hgrow _
    exact h v3 w3 (OwnI.more hown3 rfl rfl) hgrow


/-- The call's own row of these texts, in a block from B on. -/
def OwnT (B : Nat) (w : World) (v : Value) (D : List ByteArray) : Prop := w.ownsRow B 9 1 v D.length (D.map Value.string)
theorem OwnT.below {B : Nat} {w w' : World} {v : Value} {D : List ByteArray} (h : OwnT B w v D) (hb : Below w.heap.size w w') : OwnT B w' v D := by
  refine ⟨h.1, ?_⟩
  rcases h.2 with hn | ⟨g, cap, cur, hv, hg, hc, rest⟩
  · exact .inl hn
  · refine .inr ⟨g, cap, cur, hv, hg, ?_, rest⟩
    rw [hb.block g (Array.getElem?_eq_some_iff.1 hc).1]
    exact hc
theorem OwnT.isT {B : Nat} {w : World} {v : Value} {D : List ByteArray} (h : OwnT B w v D) (hl : D.length ≤ 64) : IsT w v D := by
  have h0 := h
  rcases h.2 with ⟨rfl, hn⟩ | ⟨g, cap, cur, rfl, hg, hc, hcap, rest⟩
  · have e : D = [] := List.eq_nil_of_length_eq_zero hn
    subst e
    exact ⟨none, 0, rfl, Nat.le_refl _, by simp, .inl rfl⟩
  · refine ⟨_, cap, rfl, hcap, by omega, .inr ⟨g, 0, rfl, fun i hi => ?_⟩⟩
    have := h0.cellAt i (by omega)
    rw [show 0 + i = i by omega, this]
    simp [hi]
theorem OwnT.snoc {B : Nat} {w : World} {v : Value} {D : List ByteArray} {x : ByteArray} (h : w.ownsRow B 9 1 v (D.length + 1) (D.map Value.string ++ [.string x])) : OwnT B w v (D ++ [x]) := by
  unfold OwnT
  rw [List.map_append]
  simpa using h
theorem OwnT.nil0 (w : World) (B : Nat) : OwnT B w (.slice none 0 0) [] := World.ownsRow_nil _ _ _ _
theorem OwnT.block {B : Nat} {w : World} {v : Value} {D : List ByteArray} (h : OwnT B w v D) : ∀ k, v.ownBlock = some k → B ≤ k := fun k e => (World.ownsRow.lt h k e).1
theorem infoStr : (Tryz.prog.info? 9).map (fun i => (i.zero, i.size, i.bytes)) = some (some (.string ⟨#[]⟩), 1, 16) := by kernel_rfl
theorem OwnI.made2 (w : World) (x y : Int) {B : Nat} (hB : B ≤ w.heap.size) : OwnI B (w.alloc (.cells #[.int .i64 x, .int .i64 y] 3)) (.slice (some ⟨w.heap.size, 0, none⟩) 2 2) [x, y] := by
  refine ⟨by simp [cellsI], .inr ⟨w.heap.size, 2, _, rfl, hB, heap_alloc_new w _, Nat.le_refl _, by unfold maxLen; omega, by simp, ?_⟩⟩
  simp [cellsI]
end Go.Proofs.YtlioiblpcpaejaaGreat

namespace Go.Proofs.YtlioiblpcpaejaaGreat
open Go.RowKit
set_option linter.unusedVariables false
set_option linter.unusedSimpArgs false

def putCh (c : Ch) : List UInt8 × Int := if checkCh c = 0 then (bytesCh c, 0) else ([], checkCh c)

set_option maxRecDepth 100000 in
set_option maxHeartbeats 2000000 in
theorem putCh_any (ac ar sq : Int) (a1 : Option Addr) (ds : List Int) (c1 : Nat) (kd nc nr pc pr fc fr : Int) (nm vl : ByteArray) (hs : nm.size ≤ 281474976710656) (w : World) (h1 : IsI w (.slice a1 ds.length c1) ds) :
    Calls Tryz.prog 54 #[.agg #[.int .i64 ac, .int .i64 ar, .int .i64 sq, .slice a1 ds.length c1, .int .i64 kd, .int .i64 nc, .int .i64 nr, .int .i64 pc, .int .i64 pr, .int .i64 fc, .int .i64 fr, .string nm, .string vl]] w fun e w' => ∃ v, e = .returned (.tuple #[v, .int .i64 (putCh ⟨ac, ar, sq, ds, kd, nc, nr, pc, pr, fc, fr, nm, vl⟩).2]) ∧ OwnB w.heap.size w' v (putCh ⟨ac, ar, sq, ds, kd, nc, nr, pc, pr, fc, fr, nm, vl⟩).1 ∧ Below w.heap.size w w' := by
  by_cases hc : checkCh ⟨ac, ar, sq, ds, kd, nc, nr, pc, pr, fc, fr, nm, vl⟩ = 0
  · have e : putCh ⟨ac, ar, sq, ds, kd, nc, nr, pc, pr, fc, fr, nm, vl⟩ = (bytesCh ⟨ac, ar, sq, ds, kd, nc, nr, pc, pr, fc, fr, nm, vl⟩, 0) := if_pos hc
    rw [e]
    exact putOk_any ac ar sq a1 ds c1 kd nc nr pc pr fc fr nm vl hs w h1 hc
  · have HE : Hid (putCh ⟨ac, ar, sq, ds, kd, nc, nr, pc, pr, fc, fr, nm, vl⟩ = ([], checkCh ⟨ac, ar, sq, ds, kd, nc, nr, pc, pr, fc, fr, nm, vl⟩)) := if_neg hc
    have K0 := KeptC.start w [.int .i64 ac, .int .i64 ar, .int .i64 sq, .slice a1 ds.length c1, .int .i64 kd, .int .i64 nc, .int .i64 nr, .int .i64 pc, .int .i64 pr, .int .i64 fc, .int .i64 fr, .string nm, .string vl] 57
    have H1 : Hid (IsI w (.slice a1 ds.length c1) ds) := h1
    have q : (checkCh ⟨ac, ar, sq, ds, kd, nc, nr, pc, pr, fc, fr, nm, vl⟩ != 0) = true := by simp [hc]
    clear h1 hc
    go_enter Tryz.func54, Tryz.ntmps54
    go_wp2_with fail
    refine (checkCh_any ac ar sq (.slice a1 ds.length c1) kd nc nr pc pr fc fr nm vl ds hs _ (H1.out.below K0.2.2)).mono ?_
    rintro e w1 ⟨rfl, hb1⟩
    have K1 := K0.step hb1
    clear hb1 K0
    generalize checkCh ⟨ac, ar, sq, ds, kd, nc, nr, pc, pr, fc, fr, nm, vl⟩ = z at *
    go_wp2
    go_ret2
    rw [HE.out]
    exact ⟨_, rfl, OwnB.nil0 _ _, K1.2.2⟩
theorem KeptC.own {w W W' : World} {cs : List Value} {r : Option Nat} (h : KeptC w w.heap.size cs W) (hg : W.grownBy W' r) (hr : ∀ j, r = some j → w.heap.size + 1 ≤ j) : KeptC w w.heap.size cs W' := by
  have hlt := h.2.1
  have hz := h.2.2.size
  refine ⟨fun i v hv => ?_, Nat.lt_of_lt_of_le hlt hg.size, h.2.2.trans (grownBy.toBelow hg hz (fun j e => by have := hr j e; omega))⟩
  rw [World.cell?_of_block (hg.block w.heap.size hlt (fun e => by have := hr _ e.symm; omega))]
  exact h.1 i v hv
def headD (fm : Int) (cl : List Int) (mo : Bool) (m : Nat) : List Int := ([fm, (cl.length : Int)] ++ cl) ++ [flagI mo, (m : Int)]
def textsF (L : List Ch) : List ByteArray := L.map fun c => txt (bytesCh c)
theorem textsF_snoc {L : List Ch} {k : Nat} (h : k < L.length) : textsF (L.take (k + 1)) = textsF (L.take k) ++ [txt (bytesCh L[k])] := by
  rw [List.take_succ_eq_append_getElem h]; simp only [textsF, List.map_append, List.map_cons, List.map_nil]
theorem texts_chs (L : List Ch) : textsB (textsF L) = chsP L := by
  induction L with
  | nil => rfl
  | cons c l ih =>
    rw [chsP_cons, ← ih]
    simp [textsF, textsB, textB, textP, txt, ByteArray.size]
theorem load_parts (kd fm : Int) (cl : List Int) (mo : Bool) (L : List Ch) : ([] ++ putsL (headD fm cl mo L.length)) ++ textsB (textsF L) = loadFr ⟨kd, fm, cl, mo, L⟩ := by
  rw [texts_chs]
  unfold headD loadFr listP
  have e : putL (flagI mo).toNat = putL (if mo = true then 1 else 0) := by cases mo <;> rfl
  simp [putsL, putI, ← putsL_nums, e]
theorem headD_small {fm : Int} {cl : List Int} {mo : Bool} {m : Nat} (h1 : fm < 64) (h2 : cl.length ≤ 64) (h3 : ∀ a ∈ cl, Lays a) (h4 : m ≤ 64) : ∀ x ∈ headD fm cl mo m, x < 9223372036854775808 := by
  intro x hx
  simp only [headD, List.mem_append, List.mem_cons, List.not_mem_nil, or_false] at hx
  rcases hx with ((rfl | rfl) | hx) | (rfl | rfl)
  · omega
  · omega
  · exact (h3 x hx).2
  · cases mo <;> decide
  · omega
theorem seal_ok {kd : Int} {load : List UInt8} (h1 : 1 ≤ kd) (h2 : kd ≤ 3) (h3 : load.length ≤ 65536) : sealL kd load = (frameL kd.toNat load, 0) := by
  unfold sealL
  rw [if_pos (by omega), if_pos h3]

set_option maxRecDepth 100000 in
set_option maxHeartbeats 8000000 in
theorem writeOk_any (kd fm : Int) (a1 : Option Addr) (cl : List Int) (cc : Nat) (mo : Bool) (a2 : Option Addr) (L : List Ch) (ch : Nat) (w : World) (h1 : IsI w (.slice a1 cl.length cc) cl) (h2 : IsH w (.slice a2 L.length ch) L) (hc : checkFr ⟨kd, fm, cl, mo, L⟩ = 0) :
    Calls Tryz.prog 26 #[.agg #[.int .i64 kd, .int .i64 fm, .slice a1 cl.length cc, .bool mo, .slice a2 L.length ch]] w fun e w' => ∃ v, e = .returned (.tuple #[v, .int .i64 0]) ∧ OwnB w.heap.size w' v (frameL kd.toNat (loadFr ⟨kd, fm, cl, mo, L⟩)) ∧ Below w.heap.size w w' := by
  obtain ⟨⟨q1, q2, q3, q4⟩, q5, _, q6, _, q7⟩ := checkFr_ok hc
  simp only at q1 q2 q3 q4 q5 q6 q7
  have hcl := clock_lays q5
  have hl64 : cl.length ≤ 64 := hcl.1
  have HSM : Hid (∀ x ∈ headD fm cl mo L.length, x < 9223372036854775808) := headD_small q4 hcl.1 hcl.2 q6
  have hload := loadFr_len hc
  have HLP : Hid (([] ++ putsL (headD fm cl mo L.length)) ++ textsB (textsF L) = loadFr ⟨kd, fm, cl, mo, L⟩) := load_parts kd fm cl mo L
  have HSE : Hid (sealL kd (loadFr ⟨kd, fm, cl, mo, L⟩) = (frameL kd.toNat (loadFr ⟨kd, fm, cl, mo, L⟩), 0)) := seal_ok q1 q2 (by omega)
  have HLT : Hid (([] ++ putsL (headD fm cl mo L.length)).length + (textsB (textsF L)).length ≤ 140737488355328) := by show _ ≤ _; rw [← List.length_append, HLP.out]; omega
  have HLS : Hid (([] : List UInt8).length + (putsL (headD fm cl mo L.length)).length ≤ 140737488355328) := by have h0 := HLT.out; rw [List.length_append] at h0; show _ ≤ _; omega
  have HQ7 : Hid (∀ c ∈ L, checkCh c = 0) := q7
  have HC : Hid (checkFr ⟨kd, fm, cl, mo, L⟩ = 0) := hc
  have K0 := KeptC.start w [.int .i64 kd, .int .i64 fm, .slice a1 cl.length cc, .bool mo, .slice a2 L.length ch] 26
  have H1 : Hid (IsI w (.slice a1 cl.length cc) cl) := h1
  have H2 : Hid (IsH w (.slice a2 L.length ch) L) := h2
  obtain ⟨a2', ch', e2, hc2, hl2, r2⟩ := h2
  cases e2
  have HR : Hid (L = [] ∨ ∃ b o, a2 = some ⟨b, o, none⟩ ∧ ChsAt w b o L) := r2
  obtain ⟨i0, hi, hz0, hz1, hz2⟩ := info_parts infoStr
  have HI : Hid (Tryz.prog.info? 9 = some i0 ∧ i0.zero = some (.string ⟨#[]⟩) ∧ i0.size = 1 ∧ i0.bytes = 16) := ⟨hi, hz0, hz1, hz2⟩
  clear h1 r2 q3 q5 q7 hcl hc hi hz0 hz1 hz2
  go_enter Tryz.func26, Tryz.ntmps26
  go_wp2_with fail
  refine (checkFr_any kd fm a1 cl cc mo a2 L ch _ (H1.out.below K0.2.2) (H2.out.below K0.2.2)).mono ?_
  rintro e w1 ⟨rfl, hb1⟩
  rw [HC.out]
  have K1 := K0.step hb1
  clear hb1 K0
  have hs1 : w.heap.size < w1.heap.size := K1.2.1
  obtain ⟨k_0, k_1, k_2, k_3, k_4⟩ := K1.five
  have BA : Hid (Below w1.heap.size w1 (w1.alloc (.cells #[.int .i64 fm, .int .i64 (cl.length : Int)] 3))) := (Below.refl _ _).alloc (Nat.le_refl _) _
  have HO2 : Hid (OwnI (w.heap.size + 1) (w1.alloc (.cells #[.int .i64 fm, .int .i64 (cl.length : Int)] 3)) (.slice (some ⟨w1.heap.size, 0, none⟩) 2 2) [fm, (cl.length : Int)]) := OwnI.made2 w1 _ _ hs1
  have KA := K1.step BA.out
  have HIA : Hid (IsI _ (.slice a1 cl.length cc) cl) := H1.out.below KA.2.2
  go_wp2_with (at_builtin; refine wpList_appI rfl _ _ rfl (w.heap.size + 1) _ [fm, (cl.length : Int)] rfl HO2.out (by simp; omega) _ cl rfl HIA.out (by simp; omega) ?_; intro v2 w2 ho2 hg2)
  have K2 := KA.own hg2 (fun j e => HO2.out.block j e)
  have O2 : Hid (OwnI (w.heap.size + 1) w2 v2 ([fm, (cl.length : Int)] ++ cl)) := ho2
  clear ho2 hg2 KA HIA HO2 BA K1 k_0 k_1 k_2 k_3 k_4
  obtain ⟨a3, c3, e3⟩ := O2.out.form
  subst e3
  obtain ⟨k_0, k_1, k_2, k_3, k_4⟩ := K2.five
  go_upto_region 5 with fail
  clear k_0 k_1 k_2 k_3 k_4
  have OH : Hid (OwnI (w.heap.size + 1) w2 (.slice a3 ([fm, (cl.length : Int)] ++ cl).length c3) ([fm, (cl.length : Int)] ++ cl)) := O2.out
  clear O2
  refine wp_region_held_drew (S := fun W' => KeptC w w.heap.size [.int .i64 kd, .int .i64 fm, .slice a1 cl.length cc, .bool mo, .slice a2 L.length ch] W') (by kernel_rfl) K2.drew (fun hHeld => ?_)
  obtain ⟨Ub0, eW⟩ : ∃ X, X = w2.drew := ⟨_, rfl⟩
  have OH : Hid (OwnI (w.heap.size + 1) Ub0 (.slice a3 ([fm, (cl.length : Int)] ++ cl).length c3) ([fm, (cl.length : Int)] ++ cl)) := by rw [eW]; exact OH.out.below ((Below.refl _ _).drew)
  rw [← eW] at hHeld ⊢
  clear eW
  refine wpAnyH_take (i := 0) (oi := ⟨some 25, _, _, _, _, _⟩) (v := ?vbx0) rfl (by kernel_rfl) (by kernel_rfl) (by kernel_rfl) (fun _ _ _ h => h) (Or.inl ⟨by rfl, ?hybx0⟩) hHeld ?restbx0
  case hybx0 => (intro w hSw; (try dsimp only at hSw); obtain ⟨hc0, hc1, hc2, hc3, hc4⟩ := hSw.five; go_simp; try with_reducible rfl)
  simp only [Act.put, List.setIfInBounds_toArray, List.set_cons_zero, List.set_cons_succ]
  refine wpAnyH_take (i := 1) (oi := ⟨some 26, _, _, _, _, _⟩) (v := ?vbx1) rfl (by kernel_rfl) (by kernel_rfl) (by kernel_rfl) (fun _ _ _ h => h) (Or.inl ⟨by rfl, ?hybx1⟩) hHeld ?restbx1
  case hybx1 => (intro w hSw; (try dsimp only at hSw); obtain ⟨hc0, hc1, hc2, hc3, hc4⟩ := hSw.five; go_simp; try with_reducible rfl)
  simp only [Act.put, List.setIfInBounds_toArray, List.set_cons_zero, List.set_cons_succ]
  refine wpAnyH_take (i := 2) (oi := ⟨some 27, _, _, _, _, _⟩) (v := ?vbx2) rfl (by kernel_rfl) (by kernel_rfl) (by kernel_rfl) (fun _ _ _ h => h) (Or.inl ⟨by rfl, ?hybx2⟩) hHeld ?restbx2
  case hybx2 => (intro w hSw; (try dsimp only at hSw); obtain ⟨hc0, hc1, hc2, hc3, hc4⟩ := hSw.five; go_simp; try with_reducible rfl)
  simp only [Act.put, List.setIfInBounds_toArray, List.set_cons_zero, List.set_cons_succ]
  refine wpAnyH_take (i := 4) (oi := ⟨some 29, _, _, _, _, _⟩) (v := ?vbx4) rfl (by kernel_rfl) (by kernel_rfl) (by kernel_rfl) (fun _ _ _ h => h) (Or.inl ⟨by rfl, ?hybx4⟩) hHeld ?restbx4
  case hybx4 => (intro w hSw; (try dsimp only at hSw); obtain ⟨hc0, hc1, hc2, hc3, hc4⟩ := hSw.five; go_simp; try with_reducible rfl)
  simp only [Act.put, List.setIfInBounds_toArray, List.set_cons_zero, List.set_cons_succ]
  refine wpAnyH_take (i := 5) (oi := ⟨some 30, _, _, _, _, _⟩) (v := ?vbx5) rfl (by kernel_rfl) (by kernel_rfl) (by kernel_rfl) (fun _ _ _ h => h) (Or.inl ⟨by rfl, ?hybx5⟩) hHeld ?restbx5
  case hybx5 => (intro w hSw; (try dsimp only at hSw); obtain ⟨hc0, hc1, hc2, hc3, hc4⟩ := hSw.five; go_simp; try with_reducible rfl)
  simp only [Act.put, List.setIfInBounds_toArray, List.set_cons_zero, List.set_cons_succ]
  refine wpAnyH_take (i := 6) (oi := ⟨some 31, _, _, _, _, _⟩) (v := ?vbx6) rfl (by kernel_rfl) (by kernel_rfl) (by kernel_rfl) (fun _ _ _ h => h) (Or.inl ⟨by rfl, ?hybx6⟩) hHeld ?restbx6
  case hybx6 => (intro w hSw; (try dsimp only at hSw); obtain ⟨hc0, hc1, hc2, hc3, hc4⟩ := hSw.five; go_simp; try with_reducible rfl)
  simp only [Act.put, List.setIfInBounds_toArray, List.set_cons_zero, List.set_cons_succ]
  refine wpAnyH_ready (rs := [3]) (by kernel_rfl) (by simp) ?_
  refine AllReadyH.cons (o := ⟨some 28, _, _, _, _, _⟩) rfl (fun K hK => ?_) AllReadyH.nil
  go_simp
  refine (flag_any mo _).mono ?_
  rintro e w' ⟨rfl, hw⟩
  replace hw := hw.symm
  subst hw
  (try go_wp2_with fail)
  refine hK.out _ _ hHeld (fun hHeld2 => ?_)
  clear hK K hHeld
  have hHeld := hHeld2
  clear hHeld2
  (try simp only [Act.put, List.setIfInBounds_toArray, List.set_cons_zero, List.set_cons_succ])
  refine wpAnyH_ready (rs := [7]) (by kernel_rfl) (by simp) ?_
  refine AllReadyH.cons (o := ⟨some 32, _, _, _, _, _⟩) rfl (fun K hK => ?_) AllReadyH.nil
  go_simp
  refine hK.out _ _ (hHeld.step ((Below.refl _ _).alloc (Nat.le_refl _) _)) (fun hHeld2 => ?_)
  clear hK K hHeld
  have hHeld := hHeld2
  clear hHeld2
  (try simp only [Act.put, List.setIfInBounds_toArray, List.set_cons_zero, List.set_cons_succ])
  obtain ⟨Ub1, eW⟩ : ∃ X, X = Ub0.alloc (.cells #[.int .i64 (flagI mo), .int .i64 (L.length : Int)] 3) := ⟨_, rfl⟩
  have BW : Hid (Below Ub0.heap.size Ub0 Ub1) := by rw [eW]; exact (Below.refl _ _).alloc (Nat.le_refl _) _
  replace OH : Hid (OwnI (w.heap.size + 1) Ub1 (.slice a3 ([fm, (cl.length : Int)] ++ cl).length c3) ([fm, (cl.length : Int)] ++ cl)) := OH.out.below BW.out
  have I7 : Hid (IsI Ub1 (.slice (some ⟨Ub0.heap.size, 0, none⟩) 2 2) [flagI mo, (L.length : Int)]) := by rw [eW]; exact IsI.two Ub0 _ _
  rw [← eW] at hHeld ⊢
  clear eW BW
  refine wpAnyH_ready (rs := [8]) (by kernel_rfl) (by simp) ?_
  refine AllReadyH.cons (o := ⟨some 33, _, _, _, _, _⟩) rfl (fun K hK => ?_) AllReadyH.nil
  have hszA := hHeld.2.2.size
  have hltA := hHeld.2.1
  refine step_appI (by rfl) _ _ (by rfl) (w.heap.size + 1) (.slice a3 ([fm, (cl.length : Int)] ++ cl).length c3) ([fm, (cl.length : Int)] ++ cl) (by rfl) OH.out (by omega) ⟨Ub0.heap.size, 0, none⟩ 2 2 [flagI mo, (L.length : Int)] (by rfl) I7.out (by simp; omega) ?_
  intro v8 Vb2 ho8 hg8
  (try go_wp2_with fail)
  refine hK.out _ _ (hHeld.own hg8 (fun j e => OH.out.block j e)) (fun hHeld2 => ?_)
  clear hK K hHeld
  have hHeld := hHeld2
  clear hHeld2
  (try simp only [Act.put, List.setIfInBounds_toArray, List.set_cons_zero, List.set_cons_succ])
  have O8 : Hid (OwnI (w.heap.size + 1) Vb2 v8 (headD fm cl mo L.length)) := ho8
  clear ho8 hg8 OH I7 hszA hltA
  refine wpAnyH_take (i := 9) (oi := ⟨some 5, _, _, _, _, _⟩) (v := ?vb_3_7_8x9) rfl (by kernel_rfl) (by kernel_rfl) (by kernel_rfl) (fun _ _ _ h => h) (Or.inl ⟨by rfl, ?hyb_3_7_8x9⟩) hHeld ?restb_3_7_8x9
  case hyb_3_7_8x9 => (intro w hSw; (try dsimp only at hSw); obtain ⟨hc0, hc1, hc2, hc3, hc4⟩ := hSw.five; go_simp; try with_reducible rfl)
  simp only [Act.put, List.setIfInBounds_toArray, List.set_cons_zero, List.set_cons_succ]
  refine wpAnyH_done (by kernel_rfl) ?_ _
  have K8 := hHeld
  clear hHeld
  obtain ⟨k_0, k_1, k_2, k_3, k_4⟩ := K8.five
  have hs8 : w.heap.size < Vb2.heap.size := K8.2.1
  clear K2 hs1
  go_wp2
  clear k_0 k_1 k_2 k_3 k_4
  go_loopw [6, 37] (fun u i wr => ∃ k : Nat, k ≤ L.length ∧ i = .int .i64 (k : Int) ∧ Hid (OwnT Vb2.heap.size wr u (textsF (L.take k)) ∧ Below Vb2.heap.size Vb2 wr)) (fun _ i _ => L.length - (intOf i).toNat)
  case atStart => exact ⟨0, Nat.zero_le _, rfl, OwnT.nil0 _ _, Below.refl _ _⟩
  case round =>
    obtain ⟨k, hk, rfl, HO⟩ := hrel
    have KR := K8.step HO.out.2
    by_cases hlt : k < L.length
    · obtain ⟨b1, o1, rfl, g1⟩ := HR.out.resolve_left (by intro e; subst e; simp at hlt)
      obtain ⟨a4, c4, i4, hs4, hx⟩ := ((g1.below KR.2.2) k hlt).open
      have k1 : (k : Int) < (L.length : Int) := by omega
      have k0 : (0 : Int) ≤ (k : Int) := by omega
      have HCK : Hid (checkCh L[k] = 0) := HQ7.out _ (List.getElem_mem hlt)
      have HTS : Hid (textsF (L.take (k + 1)) = textsF (L.take k) ++ [txt (bytesCh L[k])]) := textsF_snoc hlt
      have htl : (textsF (L.take k)).length ≤ 64 := by simp [textsF]; omega
      generalize L[k] = c at *
      have HX : Hid (wr.rangeAt b1 (o1 + k * 13) (chCells c (.slice a4 c.deps.length c4))) := hx
      have I4 : Hid (IsI wr (.slice a4 c.deps.length c4) c.deps) := i4
      have HS : Hid (Sized c) := hs4
      clear g1 i4 hs4 hx
      go_upto_region 9 with fail
      go_cut [8] from 61 (fun v w2 => ∃ g, v = .pointer (some ⟨g, 0, none⟩) ∧ w2.heap[g]? = some (.cells #[.int .i64 c.ac, .int .i64 c.ar, .int .i64 c.seq, .slice a4 c.deps.length c4, .int .i64 c.kind, .int .i64 c.nc, .int .i64 c.nr, .int .i64 c.pc, .int .i64 c.pr, .int .i64 c.fc, .int .i64 c.fr, .string c.name, .string c.value] 57) ∧ Below wr.heap.size wr w2)
      case first =>
        go_step
        refine wpList_plain rfl (fun K hK => ?_)
        go_simp
        refine hK _ _ ?_
        clear hK K
        refine wpList_load_mid rfl 57 (.tmp 39) rfl b1 (o1 + k * 13) rfl (chCells c (.slice a4 c.deps.length c4)) _ HX.out Tryz.underlying57 rfl sizeChange ?_
        (try simp only [Act.put, List.setIfInBounds_toArray, List.set_cons_zero, List.set_cons_succ])
        refine wpList_plain rfl (fun K hK => ?_)
        go_simp
        refine hK _ _ ?_
        clear hK K
        refine wpList_store_new rfl 57 (.tmp 8) (.tmp 40) rfl _ _ rfl rfl sizeChange rfl (chCells_one c _ _ _) ?_
        (try simp only [Act.put, List.setIfInBounds_toArray, List.set_cons_zero, List.set_cons_succ])
        go_wp2
        go_meet
        case rel => exact ⟨_, rfl, heap_alloc_new _ _, (Below.refl _ _).alloc (Nat.le_refl _) _⟩
      case rest =>
        obtain ⟨g, rfl, hg, hbc⟩ := hcut
        have HO3 : Hid (OwnT Vb2.heap.size wc u6 (textsF (L.take k)) ∧ Below Vb2.heap.size Vb2 wc) := ⟨HO.out.1.below hbc, HO.out.2.trans (hbc.mono HO.out.2.size)⟩
        have I5 : Hid (IsI wc (.slice a4 c.deps.length c4) c.deps) := I4.out.below hbc
        have KC := row_keptC hg (Below.refl wc.heap.size wc)
        obtain ⟨y0, y1, y2, y3, y4, y5, y6, y7, y8, y9, y10, y11, y12⟩ := KC.all
        clear KC hg hbc I4 KR HO
        go_wp2_with fail
        refine (putOk_any c.ac c.ar c.seq a4 c.deps c4 c.kind c.nc c.nr c.pc c.pr c.fc c.fr c.name c.value HS.out.1 _ I5.out HCK.out).mono ?_
        rintro e w3 ⟨v3, rfl, o3, hb3⟩
        clear y0 y1 y2 y3 y4 y5 y6 y7 y8 y9 y10 y11 y12
        have HO4 : Hid (OwnT Vb2.heap.size w3 u6 (textsF (L.take k)) ∧ Below Vb2.heap.size Vb2 w3) := ⟨HO3.out.1.below hb3, HO3.out.2.trans (hb3.mono HO3.out.2.size)⟩
        have hbl := bytesCh_len HCK.out
        have o4 : OwnB wc.heap.size w3 v3 (bytesCh c) := o3
        have cv := conv_txt (o4.isB (by omega))
        clear o3 o4 hb3 HO3 I5
        have BW : Hid (Below w3.heap.size w3 (w3.alloc (.cells #[.string (txt (bytesCh c))] 9))) := (Below.refl _ _).alloc (Nat.le_refl _) _
        have hs3 := HO4.out.2.size
        go_wp2_with (at_builtin; refine wpList_append_own _ rfl _ _ 93 rfl Vb2.heap.size 9 i0 (.string ⟨#[]⟩) 1 16 Tryz.underlying93 HI.out.1 HI.out.2.1 HI.out.2.2.1 HI.out.2.2.2 rfl (by decide) _ _ _ rfl (World.ownsRow.alloc HO4.out.1 _) ⟨w3.heap.size, 0, none⟩ 1 1 [.string (txt (bytesCh c))] rfl rfl (cell_one_new _ _ _) (fun x hx => by simp at hx; subst hx; rfl) (by unfold maxLen; omega) (by omega) (by simp; omega) ?_; intro v4 w4 hown4 hgrow4 hnil4)
        have HN4 : Hid (OwnT Vb2.heap.size w4 v4 (textsF (L.take (k + 1))) ∧ Below Vb2.heap.size Vb2 w4) := by
          show _ ∧ _
          rw [HTS.out]
          exact ⟨OwnT.snoc hown4, (HO4.out.2.trans (BW.out.mono hs3)).trans (grownBy.toBelow hgrow4 (by simp; omega) (fun z hz => HO4.out.1.block z hz))⟩
        clear hown4 hgrow4 hnil4 HO4 BW cv HTS
        go_wp2
        go_roundw
        case rel => exact ⟨k + 1, by omega, by go_num, HN4⟩
        case measure => simp [intOf]; omega
    · obtain rfl : k = L.length := by omega
      have HTK : Hid (L.take L.length = L) := List.take_length
      rw [HTK.out] at HO
      have IT : Hid (IsT wr u6 (textsF L)) := HO.out.1.isT (by simp [textsF]; omega)
      have II : Hid (IsI wr v8 (headD fm cl mo L.length)) := (O8.out.isI (by simp [headD]; omega)).below HO.out.2
      obtain ⟨k_0, k_1, k_2, k_3, k_4⟩ := KR.five
      clear HO HTK
      go_upto_region 13 with fail
      clear k_0 k_1 k_2 k_3 k_4
      refine wp_region_held_drew (S := fun W' => KeptC w w.heap.size [.int .i64 kd, .int .i64 fm, .slice a1 cl.length cc, .bool mo, .slice a2 L.length ch] W') (by kernel_rfl) KR.drew (fun hHeld => ?_)
      obtain ⟨Uc0, eW⟩ : ∃ X, X = wr.drew := ⟨_, rfl⟩
      have IT : Hid (IsT Uc0 u6 (textsF L)) := by rw [eW]; exact IT.out.below ((Below.refl _ _).drew)
      have II : Hid (IsI Uc0 v8 (headD fm cl mo L.length)) := by rw [eW]; exact II.out.below ((Below.refl _ _).drew)
      rw [← eW] at hHeld ⊢
      clear eW
      refine wpAnyH_take (i := 0) (oi := ⟨some 52, _, _, _, _, _⟩) (v := ?vcx0) rfl (by kernel_rfl) (by kernel_rfl) (by kernel_rfl) (fun _ _ _ h => h) (Or.inl ⟨by rfl, ?hycx0⟩) hHeld ?restcx0
      case hycx0 => (intro w hSw; (try dsimp only at hSw); obtain ⟨hc0, hc1, hc2, hc3, hc4⟩ := hSw.five; go_simp; try with_reducible rfl)
      simp only [Act.put, List.setIfInBounds_toArray, List.set_cons_zero, List.set_cons_succ]
      refine wpAnyH_take (i := 1) (oi := ⟨some 53, _, _, _, _, _⟩) (v := ?vcx1) rfl (by kernel_rfl) (by kernel_rfl) (by kernel_rfl) (fun _ _ _ h => h) (Or.inl ⟨by rfl, ?hycx1⟩) hHeld ?restcx1
      case hycx1 => (intro w hSw; (try dsimp only at hSw); obtain ⟨hc0, hc1, hc2, hc3, hc4⟩ := hSw.five; go_simp; try with_reducible rfl)
      simp only [Act.put, List.setIfInBounds_toArray, List.set_cons_zero, List.set_cons_succ]
      refine wpAnyH_take (i := 2) (oi := ⟨some 54, _, _, _, _, _⟩) (v := ?vcx2) rfl (by kernel_rfl) (by kernel_rfl) (by kernel_rfl) (fun _ _ _ h => h) (Or.inl ⟨by rfl, ?hycx2⟩) hHeld ?restcx2
      case hycx2 => (intro w hSw; (try dsimp only at hSw); obtain ⟨hc0, hc1, hc2, hc3, hc4⟩ := hSw.five; go_simp; try with_reducible rfl)
      simp only [Act.put, List.setIfInBounds_toArray, List.set_cons_zero, List.set_cons_succ]
      refine wpAnyH_take (i := 4) (oi := ⟨some 56, _, _, _, _, _⟩) (v := ?vcx4) rfl (by kernel_rfl) (by kernel_rfl) (by kernel_rfl) (fun _ _ _ h => h) (Or.inl ⟨by rfl, ?hycx4⟩) hHeld ?restcx4
      case hycx4 => (intro w hSw; (try dsimp only at hSw); obtain ⟨hc0, hc1, hc2, hc3, hc4⟩ := hSw.five; go_simp; try with_reducible rfl)
      simp only [Act.put, List.setIfInBounds_toArray, List.set_cons_zero, List.set_cons_succ]
      refine wpAnyH_ready (rs := [3]) (by kernel_rfl) (by simp) ?_
      refine AllReadyH.cons (o := ⟨some 55, _, _, _, _, _⟩) rfl (fun K hK => ?_) AllReadyH.nil
      go_simp
      refine (put_any _ _ [] (headD fm cl mo L.length) _ (IsB.non 0) II.out HSM.out HLS.out).mono ?_
      rintro e Vc1 ⟨v3, rfl, ho, hb⟩
      (try go_wp2_with fail)
      refine hK.out _ _ (hHeld.step hb) (fun hHeld2 => ?_)
      clear hK K hHeld
      have hHeld := hHeld2
      clear hHeld2
      (try simp only [Act.put, List.setIfInBounds_toArray, List.set_cons_zero, List.set_cons_succ])
      replace IT : Hid (IsT Vc1 u6 (textsF L)) := IT.out.below hb
      replace II : Hid (IsI Vc1 v8 (headD fm cl mo L.length)) := II.out.below hb
      have P3 : Hid (IsB Vc1 v3 ([] ++ putsL (headD fm cl mo L.length))) := ho.isB (by have := HLS.out; rw [List.length_append]; omega)
      clear ho hb
      refine wpAnyH_ready (rs := [5]) (by kernel_rfl) (by simp) ?_
      refine AllReadyH.cons (o := ⟨some 57, _, _, _, _, _⟩) rfl (fun K hK => ?_) AllReadyH.nil
      go_simp
      refine (putText_any _ _ _ (textsF L) _ P3.out IT.out HLT.out).mono ?_
      rintro e Vc2 ⟨v5, rfl, ho, hb⟩
      (try go_wp2_with fail)
      refine hK.out _ _ (hHeld.step hb) (fun hHeld2 => ?_)
      clear hK K hHeld
      have hHeld := hHeld2
      clear hHeld2
      (try simp only [Act.put, List.setIfInBounds_toArray, List.set_cons_zero, List.set_cons_succ])
      replace IT : Hid (IsT Vc2 u6 (textsF L)) := IT.out.below hb
      replace II : Hid (IsI Vc2 v8 (headD fm cl mo L.length)) := II.out.below hb
      replace P3 : Hid (IsB Vc2 v3 ([] ++ putsL (headD fm cl mo L.length))) := P3.out.below hb
      have P5 : Hid (IsB Vc2 v5 (loadFr ⟨kd, fm, cl, mo, L⟩)) := by
        have h0 := ho
        rw [HLP.out] at h0
        exact h0.isB (by omega)
      clear ho hb
      refine wpAnyH_ready (rs := [6]) (by kernel_rfl) (by simp) ?_
      refine AllReadyH.cons (o := ⟨some 58, _, _, _, _, _⟩) rfl (fun K hK => ?_) AllReadyH.nil
      go_simp
      have hsz := hHeld.2.2.size
      refine (seal_any kd _ (loadFr ⟨kd, fm, cl, mo, L⟩) _ P5.out).mono ?_
      rintro e Vc3 ⟨v6, rfl, ho, hb⟩
      (try go_wp2_with fail)
      refine hK.out _ _ (hHeld.step hb) (fun hHeld2 => ?_)
      clear hK K hHeld
      have hHeld := hHeld2
      clear hHeld2
      (try simp only [Act.put, List.setIfInBounds_toArray, List.set_cons_zero, List.set_cons_succ])
      replace IT : Hid (IsT Vc3 u6 (textsF L)) := IT.out.below hb
      replace II : Hid (IsI Vc3 v8 (headD fm cl mo L.length)) := II.out.below hb
      replace P3 : Hid (IsB Vc3 v3 ([] ++ putsL (headD fm cl mo L.length))) := P3.out.below hb
      replace P5 : Hid (IsB Vc3 v5 (loadFr ⟨kd, fm, cl, mo, L⟩)) := P5.out.below hb
      have OZ : Hid (OwnB w.heap.size Vc3 v6 (frameL kd.toNat (loadFr ⟨kd, fm, cl, mo, L⟩))) := by
        have h0 := ho.cut hsz
        rw [HSE.out] at h0
        exact h0
      clear ho hb
      refine wpAnyH_take (i := 7) (oi := ⟨some 59, _, _, _, _, _⟩) (v := ?vc_3_5_6x7) rfl (by kernel_rfl) (by kernel_rfl) (by kernel_rfl) (fun _ _ _ h => h) (Or.inl ⟨by rfl, ?hyc_3_5_6x7⟩) hHeld ?restc_3_5_6x7
      case hyc_3_5_6x7 => (intro w hSw; (try dsimp only at hSw); obtain ⟨hc0, hc1, hc2, hc3, hc4⟩ := hSw.five; go_simp; try with_reducible rfl)
      simp only [Act.put, List.setIfInBounds_toArray, List.set_cons_zero, List.set_cons_succ]
      refine wpAnyH_take (i := 8) (oi := ⟨some 60, _, _, _, _, _⟩) (v := ?vc_3_5_6x8) rfl (by kernel_rfl) (by kernel_rfl) (by kernel_rfl) (fun _ _ _ h => h) (Or.inl ⟨by rfl, ?hyc_3_5_6x8⟩) hHeld ?restc_3_5_6x8
      case hyc_3_5_6x8 => (intro w hSw; (try dsimp only at hSw); obtain ⟨hc0, hc1, hc2, hc3, hc4⟩ := hSw.five; go_simp; try with_reducible rfl)
      simp only [Act.put, List.setIfInBounds_toArray, List.set_cons_zero, List.set_cons_succ]
      refine wpAnyH_take (i := 9) (oi := ⟨some 2, _, _, _, _, _⟩) (v := ?vc_3_5_6x9) rfl (by kernel_rfl) (by kernel_rfl) (by kernel_rfl) (fun _ _ _ h => h) (Or.inl ⟨by rfl, ?hyc_3_5_6x9⟩) hHeld ?restc_3_5_6x9
      case hyc_3_5_6x9 => (intro w hSw; (try dsimp only at hSw); obtain ⟨hc0, hc1, hc2, hc3, hc4⟩ := hSw.five; go_simp; try with_reducible rfl)
      simp only [Act.put, List.setIfInBounds_toArray, List.set_cons_zero, List.set_cons_succ]
      refine wpAnyH_take (i := 10) (oi := ⟨some 3, _, _, _, _, _⟩) (v := ?vc_3_5_6x10) rfl (by kernel_rfl) (by kernel_rfl) (by kernel_rfl) (fun _ _ _ h => h) (Or.inl ⟨by rfl, ?hyc_3_5_6x10⟩) hHeld ?restc_3_5_6x10
      case hyc_3_5_6x10 => (intro w hSw; (try dsimp only at hSw); obtain ⟨hc0, hc1, hc2, hc3, hc4⟩ := hSw.five; go_simp; try with_reducible rfl)
      simp only [Act.put, List.setIfInBounds_toArray, List.set_cons_zero, List.set_cons_succ]
      refine wpAnyH_done (by kernel_rfl) ?_ _
      have KZ := hHeld
      clear hHeld
      rw [HSE.out]
      go_wp2
      go_ret2
      exact ⟨_, rfl, OZ.out, KZ.2.2⟩

set_option maxRecDepth 100000 in
set_option maxHeartbeats 2000000 in
theorem write_any (kd fm : Int) (a1 : Option Addr) (cl : List Int) (cc : Nat) (mo : Bool) (a2 : Option Addr) (L : List Ch) (ch : Nat) (w : World) (h1 : IsI w (.slice a1 cl.length cc) cl) (h2 : IsH w (.slice a2 L.length ch) L) :
    Calls Tryz.prog 26 #[.agg #[.int .i64 kd, .int .i64 fm, .slice a1 cl.length cc, .bool mo, .slice a2 L.length ch]] w fun e w' => ∃ v, e = .returned (.tuple #[v, .int .i64 (writeF ⟨kd, fm, cl, mo, L⟩).2]) ∧ OwnB w.heap.size w' v (writeF ⟨kd, fm, cl, mo, L⟩).1 ∧ Below w.heap.size w w' := by
  by_cases hc : checkFr ⟨kd, fm, cl, mo, L⟩ = 0
  · have e : writeF ⟨kd, fm, cl, mo, L⟩ = (frameL kd.toNat (loadFr ⟨kd, fm, cl, mo, L⟩), 0) := if_pos hc
    rw [e]
    exact writeOk_any kd fm a1 cl cc mo a2 L ch w h1 h2 hc
  · have HE : Hid (writeF ⟨kd, fm, cl, mo, L⟩ = ([], checkFr ⟨kd, fm, cl, mo, L⟩)) := if_neg hc
    have K0 := KeptC.start w [.int .i64 kd, .int .i64 fm, .slice a1 cl.length cc, .bool mo, .slice a2 L.length ch] 26
    have H1 : Hid (IsI w (.slice a1 cl.length cc) cl) := h1
    have H2 : Hid (IsH w (.slice a2 L.length ch) L) := h2
    have q : (checkFr ⟨kd, fm, cl, mo, L⟩ != 0) = true := by simp [hc]
    clear h1 h2 hc
    go_enter Tryz.func26, Tryz.ntmps26
    go_wp2_with fail
    refine (checkFr_any kd fm a1 cl cc mo a2 L ch _ (H1.out.below K0.2.2) (H2.out.below K0.2.2)).mono ?_
    rintro e w1 ⟨rfl, hb1⟩
    have K1 := K0.step hb1
    clear hb1 K0
    generalize checkFr ⟨kd, fm, cl, mo, L⟩ = z at *
    go_wp2
    go_ret2
    rw [HE.out]
    exact ⟨_, rfl, OwnB.nil0 _ _, K1.2.2⟩

end Go.Proofs.YtlioiblpcpaejaaGreat
