/- Counts, Above. -/
import Derived.Test.YtljepindfdhbbaaTrK
namespace Go.Proofs.Ytljepindfdhbbaa
open Go.RowKit
set_option linter.unusedVariables false
set_option linter.unusedSimpArgs false

/-- Does a stamp's move count, when all are done? -/
def cntF (T : List Pl) : List Mv → St → Bool
  | [], _ => false
  | m :: L, s => if m.ts = s then cntB T m else cntF (doM T m) L s
def cntS (L : List Mv) (s : St) : Bool := cntF [] L s
theorem cntF_at (s : St) : ∀ (L : List Mv) (T : List Pl) (i : Nat) (h : i < L.length), (∀ j (hj : j < L.length), j < i → L[j].ts ≠ s) → L[i].ts = s → cntF T L s = cntB ((L.take i).foldl doM T) L[i]
  | [], _, _, h, _, _ => by simp at h
  | m :: L, T, 0, h, _, e => by simp only [cntF, List.take_zero, List.foldl_nil, List.getElem_cons_zero] at *; rw [if_pos e]
  | m :: L, T, i + 1, h, hj, e => by
    have h0 := hj 0 (by simp) (by omega)
    rw [List.getElem_cons_zero] at h0
    simp only [cntF]
    rw [if_neg h0, List.take_succ_cons, List.foldl_cons, List.getElem_cons_succ]
    exact cntF_at s L (doM T m) i (by simpa using h) (fun j hj2 hji => by have := hj (j + 1) (by simpa using hj2) (by omega); rwa [List.getElem_cons_succ] at this) (by simpa using e)
theorem cntF_no (s : St) : ∀ (L : List Mv) (T : List Pl), (∀ m ∈ L, m.ts ≠ s) → cntF T L s = false
  | [], _, _ => rfl
  | m :: L, T, h => by
    simp only [cntF]
    rw [if_neg (h m (List.mem_cons_self ..))]
    exact cntF_no s L _ fun x hx => h x (List.mem_cons_of_mem _ hx)
theorem cntS_at {L : List Mv} (hs : SrtM L) {i : Nat} (h : i < L.length) : cntS L L[i].ts = cntB (doneT (L.take i)) L[i] :=
  cntF_at _ L [] i h (fun j hj hji => ltS_ne (hs.lt hj h hji)) rfl
theorem cntS_no {L : List Mv} {s : St} (h : hasM L s = false) : cntS L s = false := cntF_no s L [] (hasM_no.1 h)

set_option maxRecDepth 100000 in
set_option maxHeartbeats 4000000 in
theorem counts_any (F : Nat → Prop) (v : Value) (L : List Mv) (s : St) (w : World) (h : TreeV F w v L) (hF : ∀ j, F j → j < w.heap.size) :
    Calls Try.prog 27 #[v, .agg #[.int .i64 s.1, .int .i64 s.2]] w fun e w' => e = .returned (.bool (cntS L s)) ∧ AskP F w v L w' := by
  obtain ⟨W0, eW⟩ : ∃ X, X = w.alloc (.cells (stCells s).toArray 27) := ⟨_, rfl⟩
  have hb0 : Below w.heap.size w W0 := by rw [eW]; exact (Below.refl _ _).alloc (Nat.le_refl _) _
  have hr0 : W0.heap[w.heap.size]? = some (.cells (stCells s).toArray 27) := by rw [eW]; exact heap_alloc_new _ _
  have HR0 : Hid (W0.heap[w.heap.size]? = some (.cells (stCells s).toArray 27)) := hr0
  have HV : Hid (TreeV F W0 v L) := h.below hb0
  have HTo : Hid (Touch F w W0) := Touch.of_below hb0
  have HFl : Hid (∀ j, F j → j < w.heap.size) := hF
  obtain ⟨p, rfl⟩ : ∃ p, v = .pointer p := by rcases h with ⟨tb, rfl, _⟩ | ⟨rfl, _⟩ <;> exact ⟨_, rfl⟩
  clear h hb0 hr0 hF
  go_enter Try.func27, Try.ntmps27
  go_wp2_with fail
  have eW2 := eW
  simp only [stCells] at eW2
  rw [← eW2]
  clear eW2 eW
  refine (redone_v F (.pointer p) L _ HV.out).mono ?_
  rintro e w1 ⟨tb, F2, P, lv, sb, kb, rfl, h1, h2, h3, h4, h5⟩
  have HT : Hid (TrIs F2 w1 tb P P.length lv sb kb) := h1
  have HPm : Hid (mvs P = L) := h2
  have HV1 : Hid (TreeV F w1 (.pointer p) L) := h4
  have HTo1 : Hid (Touch F w w1) := HTo.out.trans h3 (fun j hj => .inl hj)
  have hr1 : w1.heap[w.heap.size]? = some (.cells (stCells s).toArray 27) := (h3.block _ (row_lt HR0.out) (fun hj => by have := HFl.out _ hj; omega)).trans HR0.out
  have n0 : w1.cell? ⟨w.heap.size, 0, none⟩ = some (.int .i64 s.1) := by rw [cell_of_row w1 _ 0 _ _ _ hr1]; rfl
  have n1 : w1.cell? ⟨w.heap.size, 1, none⟩ = some (.int .i64 s.2) := by rw [cell_of_row w1 _ 1 _ _ _ hr1]; rfl
  clear h1 h2 h3 h4 h5 HV HTo HR0 hr1
  go_wp2_with fail
  clear n0 n1
  refine (find_any F2 tb P P.length lv sb kb s.1 s.2 _ HT.out).mono ?_
  rintro e w2 ⟨i, b, rfl, hpl, hbb, hb⟩
  have HT2 : Hid (TrIs F2 w2 tb P P.length lv sb kb) := HT.out.below hb
  have HV2 : Hid (TreeV F w2 (.pointer p) L) := HV1.out.below hb
  have HTo2 : Hid (Touch F w w2) := HTo1.out.trans (Touch.of_below (F := fun _ => False) hb) (fun j h => h.elim)
  have HPl : Hid (PlcM L s i) := by (rw [← HPm.out]; exact hpl)
  have HHs : Hid (b = hasM L s) := by (rw [← HPm.out]; exact hbb)
  clear hpl hbb hb HT HV1 HTo1
  cases b with
  | false =>
    have HE : Hid (cntS L s = false) := cntS_no HHs.out.symm
    clear HHs
    go_wp2
    go_ret
    exact ⟨by (rw [HE.out]; rfl), HV2.out, HTo2.out⟩
  | true =>
    have hex : ∃ h : i < P.length, P[i].m.ts = s := by
      have h1 := HHs.out
      rw [← HPm.out] at h1
      have hp : PlcM (mvs P) s i := by rw [HPm.out]; exact HPl.out
      rw [hp.has HT2.out.ls.srt] at h1
      obtain ⟨h2, h3⟩ := of_decide_eq_true h1.symm
      have h4 : i < P.length := by simpa using h2
      exact ⟨h4, by rw [mvs_get h4] at h3; exact h3⟩
    obtain ⟨hi, hts⟩ := hex
    obtain ⟨g, cap, elv, hcap, hrg, hFg⟩ := HT2.out.at hi
    subst elv
    have t0 := HT2.out.t0
    have hc6 : w2.cell? ⟨g, i * 13 + 6, none⟩ = some (.bool P[i].cn) := hrg 6 _ rfl
    have HE : Hid (cntS L s = P[i].cn) := by
      show _ = _
      have hl : i < L.length := by rw [← HPm.out]; simpa using hi
      have e1 : L[i].ts = s := by rw [← hts]; congr 1; simp only [← HPm.out]; exact mvs_get hi
      rw [← e1, cntS_at (by rw [← HPm.out]; exact HT2.out.ls.srt) hl, (HT2.out.ls.ok i hi hi).1]
      congr 1
      · rw [HPm.out]
      · simp only [← HPm.out]; exact mvs_get hi
    have km : (i : Int) < (P.length : Int) := by omega
    have km0 : (0 : Int) ≤ (i : Int) := by omega
    generalize P[i].cn = cn at hc6 HE
    clear HHs hts hrg
    go_wp2
    go_ret
    exact ⟨by (rw [HE.out]; rfl), HV2.out, HTo2.out⟩

theorem upStart2 {T : List Pl} (ha : Acy T) {n : St} {p : Pl} (h : whT T n = some p) : ∃ l, Up T p.pr l ∧ upL T n = [] ++ p.pr :: l := by
  obtain ⟨l, hl⟩ := ha p.pr
  exact ⟨l, hl, upL_of (Up.step h hl)⟩
theorem upStep2 {T : List Pl} {n : St} {p p2 : Pl} {D l : List St} (hu : Up T p.pr l ∧ upL T n = D ++ p.pr :: l) (h : whT T p.pr = some p2) : ∃ l2, l = p2.pr :: l2 ∧ Up T p2.pr l2 ∧ upL T n = (D ++ [p.pr]) ++ p2.pr :: l2 := by
  obtain ⟨h1, h2⟩ := hu
  cases h1 with
  | top h3 => rw [h] at h3; cases h3
  | step h3 h4 =>
    rw [h] at h3
    cases h3
    exact ⟨_, rfl, h4, by rw [h2]; simp⟩
theorem upTop2 {T : List Pl} {n : St} {p : Pl} {D l : List St} (hu : Up T p.pr l ∧ upL T n = D ++ p.pr :: l) (h : whT T p.pr = none) : upL T n = D ++ [p.pr] := by
  obtain ⟨h1, h2⟩ := hu
  cases h1 with
  | top h3 => exact h2
  | step h3 h4 => rw [h] at h3; cases h3
theorem own_succ {B : Nat} {w : World} {e : TypeId} {size : Nat} {v : Value} {n : Nat} {xs : List Value} (h : w.ownsRow B e size v (n + 1) xs) : ∃ g cap, v = .slice (some ⟨g, 0, none⟩) (n + 1) cap := by
  rcases h.2 with ⟨_, hn⟩ | ⟨g, cap, cur, rfl, _⟩
  · omega
  · exact ⟨g, cap, rfl⟩
theorem infoStamp : (Try.prog.info? 27).map (fun i => (i.zero, i.size, i.bytes)) = some (some (.agg #[.int .i64 0, .int .i64 0]), 2, 16) := by kernel_rfl
/-- What stands while one goes up: those that were passed, and a place. -/
structure AbS (W1 : World) (ov : Value) (D : List St) (pb : Nat) (p : Pl) (W : World) : Prop where
  bel : Below W1.heap.size W1 W
  own : OwnE stCells 2 27 W1.heap.size W ov D
  box : W.heap[pb]? = some (.cells (plCells p).toArray 43)
  pbl : W1.heap.size ≤ pb
section
variable {W1 : World} {ov : Value} {D : List St} {pb : Nat} {p : Pl} {W W' : World}
theorem AbS.apart (h : AbS W1 ov D pb p W) : ov.ownBlock ≠ some pb := fun e => by
  obtain ⟨cur, hc⟩ := ownsRow_type h.own pb e
  rw [h.box] at hc
  simp at hc
theorem AbS.push (h : AbS W1 ov D pb p W) {v : Value} {x : St} (ho : W'.ownsRow W1.heap.size 27 2 v (D.length + 1) (flatE stCells D ++ [.int .i64 x.1, .int .i64 x.2])) (hg : W.grownBy W' ov.ownBlock) : AbS W1 v (D ++ [x]) pb p W' := by
  refine ⟨⟨hg.os.trans h.bel.os, hg.tape.trans h.bel.tape, hg.output.trans h.bel.output, Nat.le_trans h.bel.size hg.size, fun k hk => (hg.block k (Nat.lt_of_lt_of_le hk h.bel.size) (fun e => by have := (h.own.lt k e.symm).1; omega)).trans (h.bel.block k hk)⟩, OwnE.snoc (x := x) rfl ho, (hg.block _ (row_lt h.box) (fun e => h.apart e.symm)).trans h.box, h.pbl⟩
theorem AbS.box_ (h : AbS W1 ov D pb p W) (q : Pl) : AbS W1 ov D W.heap.size q ((W.alloc (.cells #[.int .i64 0, .int .i64 0, .int .i64 0, .int .i64 0, .int .i64 0, .int .i64 0] 43)).setRow W.heap.size (plCells q).toArray) := by
  have hb : Below W.heap.size W ((W.alloc (.cells #[.int .i64 0, .int .i64 0, .int .i64 0, .int .i64 0, .int .i64 0, .int .i64 0] 43)).setRow W.heap.size (plCells q).toArray) := below_setRow ((Below.refl _ _).alloc (Nat.le_refl _) _) (Nat.le_refl _) _
  exact ⟨h.bel.trans (hb.mono h.bel.size), h.own.below hb, setRow_same (heap_alloc_new W _), h.bel.size⟩
theorem AbS.over (h : AbS W1 ov D pb p W) (q : Pl) : AbS W1 ov D pb q (W.setRow pb (plCells q).toArray) :=
  ⟨below_setRow h.bel h.pbl _, h.own.keep fun k e => setRow_other W pb k _ (fun e2 => h.apart (by rw [e, e2])), setRow_same h.box, h.pbl⟩
theorem AbS.below (h : AbS W1 ov D pb p W) (hb : Below W.heap.size W W') : AbS W1 ov D pb p W' := ⟨h.bel.trans (hb.mono h.bel.size), h.own.below hb, (hb.block _ (row_lt h.box)).trans h.box, h.pbl⟩
theorem AbS.p0 (h : AbS W1 ov D pb p W) : W.cell? ⟨pb, 0, none⟩ = some (.int .i64 p.nd.1) := by rw [cell_of_row W _ 0 _ _ _ h.box]; rfl
theorem AbS.p1 (h : AbS W1 ov D pb p W) : W.cell? ⟨pb, 1, none⟩ = some (.int .i64 p.nd.2) := by rw [cell_of_row W _ 1 _ _ _ h.box]; rfl
theorem AbS.p2 (h : AbS W1 ov D pb p W) : W.cell? ⟨pb, 2, none⟩ = some (.int .i64 p.pr.1) := by rw [cell_of_row W _ 2 _ _ _ h.box]; rfl
theorem AbS.p3 (h : AbS W1 ov D pb p W) : W.cell? ⟨pb, 3, none⟩ = some (.int .i64 p.pr.2) := by rw [cell_of_row W _ 3 _ _ _ h.box]; rfl
theorem AbS.p4 (h : AbS W1 ov D pb p W) : W.cell? ⟨pb, 4, none⟩ = some (.int .i64 p.sl.1) := by rw [cell_of_row W _ 4 _ _ _ h.box]; rfl
theorem AbS.p5 (h : AbS W1 ov D pb p W) : W.cell? ⟨pb, 5, none⟩ = some (.int .i64 p.sl.2) := by rw [cell_of_row W _ 5 _ _ _ h.box]; rfl
end

set_option maxRecDepth 100000 in
set_option maxHeartbeats 4000000 in
theorem above_any (F : Nat → Prop) (v : Value) (L : List Mv) (s : St) (w : World) (h : TreeV F w v L) (hF : ∀ j, F j → j < w.heap.size) :
    Calls Try.prog 20 #[v, .agg #[.int .i64 s.1, .int .i64 s.2]] w fun e w' => ∃ v', e = .returned v' ∧ OwnE stCells 2 27 w.heap.size w' v' (upL (doneT L) s) ∧ AskP F w v L w' := by
  obtain ⟨i0, hi, hz0, hz1, hz2⟩ := info_parts infoStamp
  obtain ⟨W0, eW⟩ : ∃ X, X = w.alloc (.cells (stCells s).toArray 27) := ⟨_, rfl⟩
  have hb0 : Below w.heap.size w W0 := by rw [eW]; exact (Below.refl _ _).alloc (Nat.le_refl _) _
  have hr0 : W0.heap[w.heap.size]? = some (.cells (stCells s).toArray 27) := by rw [eW]; exact heap_alloc_new _ _
  have HR0 : Hid (W0.heap[w.heap.size]? = some (.cells (stCells s).toArray 27)) := hr0
  have HV : Hid (TreeV F W0 v L) := h.below hb0
  have HTo : Hid (Touch F w W0) := Touch.of_below hb0
  have HFl : Hid (∀ j, F j → j < w.heap.size) := hF
  obtain ⟨p, rfl⟩ : ∃ p, v = .pointer p := by rcases h with ⟨tb, rfl, _⟩ | ⟨rfl, _⟩ <;> exact ⟨_, rfl⟩
  clear h hb0 hr0 hF
  obtain ⟨T, eT⟩ : ∃ T, T = doneT L := ⟨_, rfl⟩
  rw [← eT]
  have HeT : Hid (T = doneT L) := eT
  clear eT
  go_enter Try.func20, Try.ntmps20
  go_wp2_with fail
  have eW2 := eW
  simp only [stCells] at eW2
  rw [← eW2]
  clear eW2 eW
  refine (redone_v F (.pointer p) L _ HV.out).mono ?_
  rintro e W1 ⟨tb, F2, P, lv, sb, kb, rfl, h1, h2, h3, h4, h5⟩
  have eT := HeT.out
  have t2 := h1.t2
  have HM : Hid (SMap W1 sb T) := by (have h9 := h1.st; rw [List.take_of_length_le (by simp), h2, ← eT] at h9; exact h9)
  have HSr : Hid (SrtT T) := by rw [eT]; exact (goodT L).srt
  have HAc : Hid (Acy T) := by rw [eT]; exact (goodT L).acy
  have HTs : Hid (T.length ≤ 4096) := by (rw [eT]; have h8 := doneT_length L; have h9 := h1.small; rw [← h2] at h8 ⊢; simp only [List.length_map] at h8; exact Nat.le_trans h8 h9)
  have HV1 : Hid (TreeV F W1 (.pointer p) L) := h4
  have HTo1 : Hid (Touch F w W1) := HTo.out.trans h3 (fun j hj => .inl hj)
  have hr1 : W1.heap[w.heap.size]? = some (.cells (stCells s).toArray 27) := (h3.block _ (row_lt HR0.out) (fun hj => by have := HFl.out _ hj; omega)).trans HR0.out
  have n0 : W1.cell? ⟨w.heap.size, 0, none⟩ = some (.int .i64 s.1) := by rw [cell_of_row W1 _ 0 _ _ _ hr1]; rfl
  have n1 : W1.cell? ⟨w.heap.size, 1, none⟩ = some (.int .i64 s.2) := by rw [cell_of_row W1 _ 1 _ _ _ hr1]; rfl
  clear h1 h2 h3 h4 h5 HV HTo HR0 hr1 eT
  cases hw : whT T s with
  | some p =>
    obtain ⟨l, hl⟩ := upStart2 HAc.out hw
    have HUp : Hid (Up T p.pr l ∧ upL T s = [] ++ p.pr :: l) := hl
    have HW : Hid (whT T s = some p) := hw
    clear hw hl
    have hlk : (Instr.lookup 62 (.map (some sb)) (.agg #[.int .i64 s.1, .int .i64 s.2]) true).run Try.prog W1 = .ok (.tuple #[plV p, .bool true]) W1 := by (have h0 := HM.out.look HSr.out s; rw [HW.out] at h0; exact h0)
    obtain ⟨W3, eW3⟩ : ∃ X, X = (W1.alloc (.cells #[.int .i64 0, .int .i64 0, .int .i64 0, .int .i64 0, .int .i64 0, .int .i64 0] 43)).setRow W1.heap.size (plCells p).toArray := ⟨_, rfl⟩
    have hb3 : Below W1.heap.size W1 W3 := by rw [eW3]; exact below_setRow ((Below.refl _ _).alloc (Nat.le_refl _) _) (Nat.le_refl _) _
    have HA5 : Hid (AbS W1 (.slice none 0 0) [] W1.heap.size p W3) := ⟨hb3, OwnE.nil0 _ _, by rw [eW3]; exact setRow_same (heap_alloc_new W1 _), Nat.le_refl _⟩
    clear hb3
    go_wp2_with (refine wpList_store_row rfl 43 (.tmp 7) (.tmp 18) rfl _ 43 #[.int .i64 0, .int .i64 0, .int .i64 0, .int .i64 0, .int .i64 0, .int .i64 0] (plCells p).toArray rfl rfl (heap_alloc_new _ _) sizePlaced rfl (by simp [Value.oneCell', plCells]) ?_)
    rw [← eW3]
    clear eW3 hlk n0 n1
    go_wp2
    go_loopg [5, 7, 8] (l.length + 1) (fun gk av pv ov wq => ∃ (pb : Nat) (p : Pl) (D : List St), pv = .pointer (some ⟨pb, 0, none⟩) ∧ Hid (AbS W1 av D pb p wq) ∧ ((∃ l, ov = .bool true ∧ gk = l.length + 1 ∧ Hid (Up T p.pr l ∧ upL T s = D ++ p.pr :: l)) ∨ (ov = .bool false ∧ gk = 0 ∧ Hid (upL T s = D))))
    case atStart => exact ⟨_, p, [], rfl, HA5, .inl ⟨l, rfl, rfl, HUp⟩⟩
    case round =>
      rename World => wq
      clear HA5 HUp HW
      obtain ⟨pb, p, D, rfl, HA, hcase⟩ := hrel
      rcases hcase with ⟨l, rfl, hgk, HUp⟩ | ⟨rfl, hgk, HUp⟩
      · have HGk : Hid (gk = l.length + 1) := hgk
        clear hgk
        have hDl : D.length ≤ 8192 := by
          have h1 := congrArg List.length HUp.out.2
          have h2 := (HAc.out.up s).short
          have h3 := HTs.out
          simp at h1
          omega
        obtain ⟨a0, c0, e0⟩ := HA.out.own.form
        subst e0
        have p0 := HA.out.p0
        have p1 := HA.out.p1
        have p2 := HA.out.p2
        have p3 := HA.out.p3
        have p4 := HA.out.p4
        have p5 := HA.out.p5
        obtain ⟨W5, eW5⟩ : ∃ X, X = wq.alloc (.cells #[.int .i64 p.pr.1, .int .i64 p.pr.2] 27) := ⟨_, rfl⟩
        have hb5 : Below wq.heap.size wq W5 := by rw [eW5]; exact (Below.refl _ _).alloc (Nat.le_refl _) _
        have HA5 : Hid (AbS W1 (.slice a0 D.length c0) D pb p W5) := HA.out.below hb5
        have HN5 : Hid (∀ j u, [Value.int .i64 p.pr.1, .int .i64 p.pr.2][j]? = some u → W5.cell? ((⟨wq.heap.size, 0, none⟩ : Addr).add j) = some u) := fun j u hj => by
          rw [Addr.add_lit, cell_of_row W5 _ _ _ _ _ (by rw [eW5]; exact heap_alloc_new wq _)]
          simpa using hj
        have hsz5 : W1.heap.size ≤ W5.heap.size := HA5.out.bel.size
        have HeW : Hid (W5 = wq.alloc (.cells #[.int .i64 p.pr.1, .int .i64 p.pr.2] 27)) := eW5
        clear hb5 eW5 HA
        have p2_ := p2
        clear p2
        cases hw2 : whT T p.pr with
        | some p2 =>
          have HW2 : Hid (whT T p.pr = some p2) := hw2
          obtain ⟨l2, hl2⟩ := upStep2 HUp.out hw2
          have HL2 : Hid (l = p2.pr :: l2 ∧ Up T p2.pr l2 ∧ upL T s = (D ++ [p.pr]) ++ p2.pr :: l2) := hl2
          clear hw2 hl2
          have p2c := p2_
          clear p2_
          go_wp2_with (first
            | (at_builtin; rw [← HeW.out]; refine wpList_append_own_at _ rfl _ _ 48 rfl W1.heap.size 27 i0 (.agg #[.int .i64 0, .int .i64 0]) 2 16 Try.underlying48 hi hz0 hz1 hz2 rfl (by decide) _ _ _ rfl HA5.out.own ⟨wq.heap.size, 0, none⟩ 1 1 [.int .i64 p.pr.1, .int .i64 p.pr.2] rfl rfl HN5.out (fun x hx => by simp at hx; rcases hx with rfl | rfl <;> rfl) (by unfold maxLen; omega) (by omega) hsz5 ?_; intro v3 w3 hown3 hgrow3 hnil3 hat3; obtain ⟨g3, c3, e3⟩ := own_succ hown3; subst e3; have HA6 : Hid (AbS W1 (.slice (some ⟨g3, 0, none⟩) (D.length + 1) c3) (D ++ [p.pr]) pb p w3) := HA5.out.push hown3 hgrow3; clear hown3 hgrow3 hnil3 hat3 p0 p1 p2c p3 p4 p5; have p0 := HA6.out.p0; have p1 := HA6.out.p1; have p2c := HA6.out.p2; have p3 := HA6.out.p3; have p4 := HA6.out.p4; have p5 := HA6.out.p5)
            | (refine wpList_store_row rfl 43 (.tmp 7) (.tmp 33) rfl _ 43 #[.int .i64 0, .int .i64 0, .int .i64 0, .int .i64 0, .int .i64 0, .int .i64 0] (plCells p).toArray rfl rfl (heap_alloc_new _ _) sizePlaced rfl (by simp [Value.oneCell', plCells]) ?_; clear p0 p1 p2c p3 p4 p5; obtain ⟨W7, eW7⟩ : ∃ X, X = (w3.alloc (.cells #[.int .i64 0, .int .i64 0, .int .i64 0, .int .i64 0, .int .i64 0, .int .i64 0] 43)).setRow w3.heap.size (plCells p).toArray := ⟨_, rfl⟩; rw [← eW7]; have HA7 : Hid (AbS W1 (.slice (some ⟨g3, 0, none⟩) (D.length + 1) c3) (D ++ [p.pr]) w3.heap.size p W7) := (by rw [eW7]; exact HA6.out.box_ p); have HPs : Hid (w3.heap.size < W7.heap.size) := (row_lt HA7.out.box); have p2c := HA7.out.p2; have p3 := HA7.out.p3; have hlk : (Instr.lookup 62 (.map (some sb)) (.agg #[.int .i64 p.pr.1, .int .i64 p.pr.2]) true).run Try.prog W7 = .ok (.tuple #[plV p2, .bool true]) W7 := (by have h0 := (HM.out.keep (HA7.out.bel.block _ HM.out.lt)).look HSr.out p.pr; rw [HW2.out] at h0; exact h0); clear eW7)
            | (refine wpList_store_row rfl 43 (.tmp 7) (.tmp 26) rfl _ 43 (plCells p).toArray (plCells p2).toArray rfl rfl HA7.out.box sizePlaced rfl (by simp [Value.oneCell', plCells]) ?_; have HA8 : Hid (AbS W1 (.slice (some ⟨g3, 0, none⟩) (D.length + 1) c3) (D ++ [p.pr]) w3.heap.size p2 (W7.setRow w3.heap.size (plCells p2).toArray)) := HA7.out.over _))
          go_roundg (l2.length + 1)
          case measure => rw [HGk.out, HL2.out.1]; simp
          case rel => exact ⟨_, p2, D ++ [p.pr], rfl, HA8, .inl ⟨l2, rfl, rfl, HL2.out.2⟩⟩
        | none =>
          have p2 := p2_
          clear p2_
          have HW2 : Hid (whT T p.pr = none) := hw2
          have HL2 : Hid (upL T s = D ++ [p.pr]) := upTop2 HUp.out hw2
          clear hw2
          go_wp2_with (first
            | (at_builtin; rw [← HeW.out]; refine wpList_append_own_at _ rfl _ _ 48 rfl W1.heap.size 27 i0 (.agg #[.int .i64 0, .int .i64 0]) 2 16 Try.underlying48 hi hz0 hz1 hz2 rfl (by decide) _ _ _ rfl HA5.out.own ⟨wq.heap.size, 0, none⟩ 1 1 [.int .i64 p.pr.1, .int .i64 p.pr.2] rfl rfl HN5.out (fun x hx => by simp at hx; rcases hx with rfl | rfl <;> rfl) (by unfold maxLen; omega) (by omega) hsz5 ?_; intro v3 w3 hown3 hgrow3 hnil3 hat3; obtain ⟨g3, c3, e3⟩ := own_succ hown3; subst e3; have HA6 : Hid (AbS W1 (.slice (some ⟨g3, 0, none⟩) (D.length + 1) c3) (D ++ [p.pr]) pb p w3) := HA5.out.push hown3 hgrow3; clear hown3 hgrow3 hnil3 hat3 p0 p1 p2 p3 p4 p5; have p0 := HA6.out.p0; have p1 := HA6.out.p1; have p2 := HA6.out.p2; have p3 := HA6.out.p3; have p4 := HA6.out.p4; have p5 := HA6.out.p5)
            | (refine wpList_store_row rfl 43 (.tmp 7) (.tmp 33) rfl _ 43 #[.int .i64 0, .int .i64 0, .int .i64 0, .int .i64 0, .int .i64 0, .int .i64 0] (plCells p).toArray rfl rfl (heap_alloc_new _ _) sizePlaced rfl (by simp [Value.oneCell', plCells]) ?_; clear p0 p1 p2 p3 p4 p5; obtain ⟨W7, eW7⟩ : ∃ X, X = (w3.alloc (.cells #[.int .i64 0, .int .i64 0, .int .i64 0, .int .i64 0, .int .i64 0, .int .i64 0] 43)).setRow w3.heap.size (plCells p).toArray := ⟨_, rfl⟩; rw [← eW7]; have HA7 : Hid (AbS W1 (.slice (some ⟨g3, 0, none⟩) (D.length + 1) c3) (D ++ [p.pr]) w3.heap.size p W7) := (by rw [eW7]; exact HA6.out.box_ p); have HPs : Hid (w3.heap.size < W7.heap.size) := (row_lt HA7.out.box); have p2 := HA7.out.p2; have p3 := HA7.out.p3; have hlk : (Instr.lookup 62 (.map (some sb)) (.agg #[.int .i64 p.pr.1, .int .i64 p.pr.2]) true).run Try.prog W7 = .ok (.tuple #[plV zeroPl, .bool false]) W7 := (by have h0 := (HM.out.keep (HA7.out.bel.block _ HM.out.lt)).look HSr.out p.pr; rw [HW2.out] at h0; exact h0); clear eW7)
            | (refine wpList_store_row rfl 43 (.tmp 7) (.tmp 26) rfl _ 43 (plCells p).toArray (plCells zeroPl).toArray rfl rfl HA7.out.box sizePlaced rfl (by simp [Value.oneCell', plCells]) ?_; have HA8 : Hid (AbS W1 (.slice (some ⟨g3, 0, none⟩) (D.length + 1) c3) (D ++ [p.pr]) w3.heap.size zeroPl (W7.setRow w3.heap.size (plCells zeroPl).toArray)) := HA7.out.over _))
          go_roundg 0
          case measure => rw [HGk.out]; omega
          case rel => exact ⟨_, zeroPl, D ++ [p.pr], rfl, HA8, .inr ⟨rfl, rfl, HL2⟩⟩
      · clear hgk
        obtain ⟨a0, c0, e0⟩ := HA.out.own.form
        subst e0
        have HR : Hid (OwnE stCells 2 27 w.heap.size wq (.slice a0 D.length c0) (upL T s)) := by (rw [HUp.out]; exact HA.out.own.low HTo1.out.size)
        have HBe : Hid (Below W1.heap.size W1 wq) := HA.out.bel
        go_wp2
        go_ret
        exact ⟨_, rfl, HR.out, HV1.out.below HBe.out, HTo1.out.trans (Touch.of_below (F := fun _ => False) HBe.out) (fun j h => h.elim)⟩
  | none =>
    have HUp : Hid (upL T s = []) := upL_of (Up.top hw)
    have HW : Hid (whT T s = none) := hw
    clear hw 
    have hlk : (Instr.lookup 62 (.map (some sb)) (.agg #[.int .i64 s.1, .int .i64 s.2]) true).run Try.prog W1 = .ok (.tuple #[plV zeroPl, .bool false]) W1 := by (have h0 := HM.out.look HSr.out s; rw [HW.out] at h0; exact h0)
    obtain ⟨W3, eW3⟩ : ∃ X, X = (W1.alloc (.cells #[.int .i64 0, .int .i64 0, .int .i64 0, .int .i64 0, .int .i64 0, .int .i64 0] 43)).setRow W1.heap.size (plCells zeroPl).toArray := ⟨_, rfl⟩
    have hb3 : Below W1.heap.size W1 W3 := by rw [eW3]; exact below_setRow ((Below.refl _ _).alloc (Nat.le_refl _) _) (Nat.le_refl _) _
    have HA5 : Hid (AbS W1 (.slice none 0 0) [] W1.heap.size zeroPl W3) := ⟨hb3, OwnE.nil0 _ _, by rw [eW3]; exact setRow_same (heap_alloc_new W1 _), Nat.le_refl _⟩
    clear hb3
    go_wp2_with (refine wpList_store_row rfl 43 (.tmp 7) (.tmp 18) rfl _ 43 #[.int .i64 0, .int .i64 0, .int .i64 0, .int .i64 0, .int .i64 0, .int .i64 0] (plCells zeroPl).toArray rfl rfl (heap_alloc_new _ _) sizePlaced rfl (by simp [Value.oneCell', plCells]) ?_)
    rw [← eW3]
    clear eW3 hlk n0 n1
    go_wp2
    go_loopg [5, 7, 8] (0) (fun gk av pv ov wq => ∃ (pb : Nat) (p : Pl) (D : List St), pv = .pointer (some ⟨pb, 0, none⟩) ∧ Hid (AbS W1 av D pb p wq) ∧ ((∃ l, ov = .bool true ∧ gk = l.length + 1 ∧ Hid (Up T p.pr l ∧ upL T s = D ++ p.pr :: l)) ∨ (ov = .bool false ∧ gk = 0 ∧ Hid (upL T s = D))))
    case atStart => exact ⟨_, zeroPl, [], rfl, HA5, .inr ⟨rfl, rfl, HUp⟩⟩
    case round =>
      rename World => wq
      clear HA5 HUp HW
      obtain ⟨pb, p, D, rfl, HA, hcase⟩ := hrel
      rcases hcase with ⟨l, rfl, hgk, HUp⟩ | ⟨rfl, hgk, HUp⟩
      · have HGk : Hid (gk = l.length + 1) := hgk
        clear hgk
        have hDl : D.length ≤ 8192 := by
          have h1 := congrArg List.length HUp.out.2
          have h2 := (HAc.out.up s).short
          have h3 := HTs.out
          simp at h1
          omega
        obtain ⟨a0, c0, e0⟩ := HA.out.own.form
        subst e0
        have p0 := HA.out.p0
        have p1 := HA.out.p1
        have p2 := HA.out.p2
        have p3 := HA.out.p3
        have p4 := HA.out.p4
        have p5 := HA.out.p5
        obtain ⟨W5, eW5⟩ : ∃ X, X = wq.alloc (.cells #[.int .i64 p.pr.1, .int .i64 p.pr.2] 27) := ⟨_, rfl⟩
        have hb5 : Below wq.heap.size wq W5 := by rw [eW5]; exact (Below.refl _ _).alloc (Nat.le_refl _) _
        have HA5 : Hid (AbS W1 (.slice a0 D.length c0) D pb p W5) := HA.out.below hb5
        have HN5 : Hid (∀ j u, [Value.int .i64 p.pr.1, .int .i64 p.pr.2][j]? = some u → W5.cell? ((⟨wq.heap.size, 0, none⟩ : Addr).add j) = some u) := fun j u hj => by
          rw [Addr.add_lit, cell_of_row W5 _ _ _ _ _ (by rw [eW5]; exact heap_alloc_new wq _)]
          simpa using hj
        have hsz5 : W1.heap.size ≤ W5.heap.size := HA5.out.bel.size
        have HeW : Hid (W5 = wq.alloc (.cells #[.int .i64 p.pr.1, .int .i64 p.pr.2] 27)) := eW5
        clear hb5 eW5 HA
        have p2_ := p2
        clear p2
        cases hw2 : whT T p.pr with
        | some p2 =>
          have HW2 : Hid (whT T p.pr = some p2) := hw2
          obtain ⟨l2, hl2⟩ := upStep2 HUp.out hw2
          have HL2 : Hid (l = p2.pr :: l2 ∧ Up T p2.pr l2 ∧ upL T s = (D ++ [p.pr]) ++ p2.pr :: l2) := hl2
          clear hw2 hl2
          have p2c := p2_
          clear p2_
          go_wp2_with (first
            | (at_builtin; rw [← HeW.out]; refine wpList_append_own_at _ rfl _ _ 48 rfl W1.heap.size 27 i0 (.agg #[.int .i64 0, .int .i64 0]) 2 16 Try.underlying48 hi hz0 hz1 hz2 rfl (by decide) _ _ _ rfl HA5.out.own ⟨wq.heap.size, 0, none⟩ 1 1 [.int .i64 p.pr.1, .int .i64 p.pr.2] rfl rfl HN5.out (fun x hx => by simp at hx; rcases hx with rfl | rfl <;> rfl) (by unfold maxLen; omega) (by omega) hsz5 ?_; intro v3 w3 hown3 hgrow3 hnil3 hat3; obtain ⟨g3, c3, e3⟩ := own_succ hown3; subst e3; have HA6 : Hid (AbS W1 (.slice (some ⟨g3, 0, none⟩) (D.length + 1) c3) (D ++ [p.pr]) pb p w3) := HA5.out.push hown3 hgrow3; clear hown3 hgrow3 hnil3 hat3 p0 p1 p2c p3 p4 p5; have p0 := HA6.out.p0; have p1 := HA6.out.p1; have p2c := HA6.out.p2; have p3 := HA6.out.p3; have p4 := HA6.out.p4; have p5 := HA6.out.p5)
            | (refine wpList_store_row rfl 43 (.tmp 7) (.tmp 33) rfl _ 43 #[.int .i64 0, .int .i64 0, .int .i64 0, .int .i64 0, .int .i64 0, .int .i64 0] (plCells p).toArray rfl rfl (heap_alloc_new _ _) sizePlaced rfl (by simp [Value.oneCell', plCells]) ?_; clear p0 p1 p2c p3 p4 p5; obtain ⟨W7, eW7⟩ : ∃ X, X = (w3.alloc (.cells #[.int .i64 0, .int .i64 0, .int .i64 0, .int .i64 0, .int .i64 0, .int .i64 0] 43)).setRow w3.heap.size (plCells p).toArray := ⟨_, rfl⟩; rw [← eW7]; have HA7 : Hid (AbS W1 (.slice (some ⟨g3, 0, none⟩) (D.length + 1) c3) (D ++ [p.pr]) w3.heap.size p W7) := (by rw [eW7]; exact HA6.out.box_ p); have HPs : Hid (w3.heap.size < W7.heap.size) := (row_lt HA7.out.box); have p2c := HA7.out.p2; have p3 := HA7.out.p3; have hlk : (Instr.lookup 62 (.map (some sb)) (.agg #[.int .i64 p.pr.1, .int .i64 p.pr.2]) true).run Try.prog W7 = .ok (.tuple #[plV p2, .bool true]) W7 := (by have h0 := (HM.out.keep (HA7.out.bel.block _ HM.out.lt)).look HSr.out p.pr; rw [HW2.out] at h0; exact h0); clear eW7)
            | (refine wpList_store_row rfl 43 (.tmp 7) (.tmp 26) rfl _ 43 (plCells p).toArray (plCells p2).toArray rfl rfl HA7.out.box sizePlaced rfl (by simp [Value.oneCell', plCells]) ?_; have HA8 : Hid (AbS W1 (.slice (some ⟨g3, 0, none⟩) (D.length + 1) c3) (D ++ [p.pr]) w3.heap.size p2 (W7.setRow w3.heap.size (plCells p2).toArray)) := HA7.out.over _))
          go_roundg (l2.length + 1)
          case measure => rw [HGk.out, HL2.out.1]; simp
          case rel => exact ⟨_, p2, D ++ [p.pr], rfl, HA8, .inl ⟨l2, rfl, rfl, HL2.out.2⟩⟩
        | none =>
          have p2 := p2_
          clear p2_
          have HW2 : Hid (whT T p.pr = none) := hw2
          have HL2 : Hid (upL T s = D ++ [p.pr]) := upTop2 HUp.out hw2
          clear hw2
          go_wp2_with (first
            | (at_builtin; rw [← HeW.out]; refine wpList_append_own_at _ rfl _ _ 48 rfl W1.heap.size 27 i0 (.agg #[.int .i64 0, .int .i64 0]) 2 16 Try.underlying48 hi hz0 hz1 hz2 rfl (by decide) _ _ _ rfl HA5.out.own ⟨wq.heap.size, 0, none⟩ 1 1 [.int .i64 p.pr.1, .int .i64 p.pr.2] rfl rfl HN5.out (fun x hx => by simp at hx; rcases hx with rfl | rfl <;> rfl) (by unfold maxLen; omega) (by omega) hsz5 ?_; intro v3 w3 hown3 hgrow3 hnil3 hat3; obtain ⟨g3, c3, e3⟩ := own_succ hown3; subst e3; have HA6 : Hid (AbS W1 (.slice (some ⟨g3, 0, none⟩) (D.length + 1) c3) (D ++ [p.pr]) pb p w3) := HA5.out.push hown3 hgrow3; clear hown3 hgrow3 hnil3 hat3 p0 p1 p2 p3 p4 p5; have p0 := HA6.out.p0; have p1 := HA6.out.p1; have p2 := HA6.out.p2; have p3 := HA6.out.p3; have p4 := HA6.out.p4; have p5 := HA6.out.p5)
            | (refine wpList_store_row rfl 43 (.tmp 7) (.tmp 33) rfl _ 43 #[.int .i64 0, .int .i64 0, .int .i64 0, .int .i64 0, .int .i64 0, .int .i64 0] (plCells p).toArray rfl rfl (heap_alloc_new _ _) sizePlaced rfl (by simp [Value.oneCell', plCells]) ?_; clear p0 p1 p2 p3 p4 p5; obtain ⟨W7, eW7⟩ : ∃ X, X = (w3.alloc (.cells #[.int .i64 0, .int .i64 0, .int .i64 0, .int .i64 0, .int .i64 0, .int .i64 0] 43)).setRow w3.heap.size (plCells p).toArray := ⟨_, rfl⟩; rw [← eW7]; have HA7 : Hid (AbS W1 (.slice (some ⟨g3, 0, none⟩) (D.length + 1) c3) (D ++ [p.pr]) w3.heap.size p W7) := (by rw [eW7]; exact HA6.out.box_ p); have HPs : Hid (w3.heap.size < W7.heap.size) := (row_lt HA7.out.box); have p2 := HA7.out.p2; have p3 := HA7.out.p3; have hlk : (Instr.lookup 62 (.map (some sb)) (.agg #[.int .i64 p.pr.1, .int .i64 p.pr.2]) true).run Try.prog W7 = .ok (.tuple #[plV zeroPl, .bool false]) W7 := (by have h0 := (HM.out.keep (HA7.out.bel.block _ HM.out.lt)).look HSr.out p.pr; rw [HW2.out] at h0; exact h0); clear eW7)
            | (refine wpList_store_row rfl 43 (.tmp 7) (.tmp 26) rfl _ 43 (plCells p).toArray (plCells zeroPl).toArray rfl rfl HA7.out.box sizePlaced rfl (by simp [Value.oneCell', plCells]) ?_; have HA8 : Hid (AbS W1 (.slice (some ⟨g3, 0, none⟩) (D.length + 1) c3) (D ++ [p.pr]) w3.heap.size zeroPl (W7.setRow w3.heap.size (plCells zeroPl).toArray)) := HA7.out.over _))
          go_roundg 0
          case measure => rw [HGk.out]; omega
          case rel => exact ⟨_, zeroPl, D ++ [p.pr], rfl, HA8, .inr ⟨rfl, rfl, HL2⟩⟩
      · clear hgk
        obtain ⟨a0, c0, e0⟩ := HA.out.own.form
        subst e0
        have HR : Hid (OwnE stCells 2 27 w.heap.size wq (.slice a0 D.length c0) (upL T s)) := by (rw [HUp.out]; exact HA.out.own.low HTo1.out.size)
        have HBe : Hid (Below W1.heap.size W1 wq) := HA.out.bel
        go_wp2
        go_ret
        exact ⟨_, rfl, HR.out, HV1.out.below HBe.out, HTo1.out.trans (Touch.of_below (F := fun _ => False) HBe.out) (fun j h => h.elim)⟩

end Go.Proofs.Ytljepindfdhbbaa
