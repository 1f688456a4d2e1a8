/- LwwApart. -/
import Derived.Test.YtoljacnipkibiabLwL
import Derived.Test.YtoljacnipkibiabLwG
import Derived.Test.YtoljacnipkibiabLwH
namespace Go.Proofs.Ytoljacnipkibiab
open Go.RowKit
set_option linter.unusedVariables false
set_option linter.unusedSimpArgs false

theorem txt_inj {a b : ByteArray} (h : a.toList = b.toList) : a = b := of_decide_eq_true (by rw [← txt_eq]; simp [h])
/-- Is it another register than r's? -/
def nek (r y : Rg) : Bool := !decide (keyR y = keyR r)
theorem keyR_eq {x r : Rg} (h : x.nd.1 = r.nd.1 ∧ x.nd.2 = r.nd.2) (h2 : x.nm = r.nm) : nek r x = false := by
  have h1 : x.nd = r.nd := Prod.ext h.1 h.2
  simp [nek, keyR, h1, h2]
theorem nek_nm {x r : Rg} (h : ¬ x.nm = r.nm) : nek r x = true := by
  unfold nek
  rw [decide_eq_false (fun e : keyR x = keyR r => h (congrArg Prod.snd e))]
  rfl
theorem nek_nd {x r : Rg} (h : ¬ (x.nd.1 = r.nd.1 ∧ x.nd.2 = r.nd.2)) : nek r x = true := by
  unfold nek
  rw [decide_eq_false (fun e : keyR x = keyR r => h ⟨congrArg (fun z : Ky => z.1.1) e, congrArg (fun z : Ky => z.1.2) e⟩)]
  rfl
theorem skip_at {p : Rg → Bool} {L : List Rg} {k : Nat} {y : Rg} (h : L[k]? = some y) (hp : p y = false) : (L.take (k + 1)).filter p = (L.take k).filter p := by
  obtain ⟨h1, e⟩ := List.getElem?_eq_some_iff.1 h
  rw [List.take_succ_eq_append_getElem h1, List.filter_append, e]
  simp [hp]
theorem drops_same {p : Rg → Bool} {A R : List Rg} (h : A.filter p = R.filter p) {i k : Nat} (he : (A.take i).filter p = (R.take k).filter p) : (A.drop i).filter p = (R.drop k).filter p := by
  have h1 : A.filter p = (A.take i).filter p ++ (A.drop i).filter p := by rw [← List.filter_append, List.take_append_drop]
  have h2 : R.filter p = (R.take k).filter p ++ (R.drop k).filter p := by rw [← List.filter_append, List.take_append_drop]
  rw [h1, h2, he] at h
  exact List.append_cancel_left h
theorem next_same {p : Rg → Bool} {A R : List Rg} (h : A.filter p = R.filter p) {i k : Nat} (hi : i < A.length) (he : (A.take i).filter p = (R.take k).filter p) (hp : p A[i] = true) (hk : ∀ y, R[k]? = some y → p y = true) : ∃ h : k < R.length, R[k] = A[i] ∧ (A.take (i + 1)).filter p = (R.take (k + 1)).filter p := by
  have hd := drops_same h he
  rw [List.drop_eq_getElem_cons hi, List.filter_cons_of_pos hp] at hd
  by_cases hl : k < R.length
  · have hpk := hk R[k] (List.getElem?_eq_getElem hl)
    rw [List.drop_eq_getElem_cons hl, List.filter_cons_of_pos hpk] at hd
    injection hd with h1 h2
    refine ⟨hl, h1.symm, ?_⟩
    rw [List.take_succ_eq_append_getElem hi, List.take_succ_eq_append_getElem hl, List.filter_append, List.filter_append, he, h1]
  · rw [show R.drop k = [] from List.drop_eq_nil_of_le (by omega)] at hd
    cases hd
theorem end_same {p : Rg → Bool} {A R : List Rg} (h : A.filter p = R.filter p) {k : Nat} (he : A.filter p = (R.take k).filter p) (hl : k < R.length) : p R[k] = false := by
  have hd := drops_same (i := A.length) h (by rw [List.take_length]; exact he)
  rw [List.drop_length, List.drop_eq_getElem_cons hl] at hd
  cases hp : p R[k] with
  | false => rfl
  | true => rw [List.filter_cons_of_pos hp] at hd; cases hd
theorem apart_same {R : List Rg} (hs : SrtR R) (r : Rg) : (putC R r).filter (nek r) = R.filter (nek r) := by
  unfold putC
  by_cases h : okR r = true
  · rw [if_pos h]
    refine SrtR.ext (List.Pairwise.filter _ (insR_srt hs r)) (List.Pairwise.filter _ hs) fun x => ?_
    rw [List.mem_filter, List.mem_filter]
    constructor
    · rintro ⟨h1, h2⟩
      refine ⟨(insR_key h1).resolve_left fun e => ?_, h2⟩
      simp [nek, e] at h2
    · rintro ⟨h1, h2⟩
      exact ⟨insR_other h1 (fun e => by simp [nek, e] at h2), h2⟩
  · rw [if_neg h]

set_option maxRecDepth 100000 in
set_option maxHeartbeats 16000000 in
theorem lwwApart_walk (v : Value) (l : List Rg) (r : Rg) (w : World) (h : IsRg w v l) (hs : smR r) :
    Calls Try.prog 3 #[v, .agg #[.int .i64 r.nd.1, .int .i64 r.nd.2, .string r.nm, .int .i64 r.at_.1, .int .i64 r.at_.2, .string r.vl, .bool r.gn]] w fun e w' => e = .returned (.bool true) ∧ Below w.heap.size w w' := by
  obtain ⟨a1, c1, e1⟩ := h.1.form
  subst e1
  obtain ⟨W0, eW⟩ : ∃ X, X = w.alloc (.cells (rgCells r).toArray 26) := ⟨_, rfl⟩
  have hb0 : Below w.heap.size w W0 := by rw [eW]; exact (Below.refl _ _).alloc (Nat.le_refl _) _
  have HX : Hid (BxC w.heap.size (rgCells r) 26 W0) := by rw [eW]; exact BxC.new w _ _
  have HLs : Hid (IsRg W0 (.slice a1 l.length c1) l) := h.below hb0
  have HB0 : Hid (Below w.heap.size w W0) := hb0
  have HSm : Hid (r.nm.size ≤ 281474976710656) := Nat.le_trans hs.1 (by decide)
  have HE : Hid (W0 = w.alloc (.cells (rgCells r).toArray 26)) := eW
  clear h hb0 eW hs
  go_enter Try.func3, Try.ntmps3
  go_wp2_with fail
  have HE2 := HE.out
  simp only [rgCells] at HE2
  rw [← HE2]
  clear HE2 HE
  refine (laid_any _ l _ HLs.out).mono ?_
  rintro e w1 ⟨rb, F1, ad, cd, rfl, hM⟩
  have HR0 : Hid (SrtR (laidL l)) := (laidT_best _).srt
  have HLn : Hid ((laidL l).length ≤ 200) := laidL_len l
  obtain ⟨R, eR⟩ : ∃ R, R = laidL l := ⟨_, rfl⟩
  rw [← eR] at hM HR0 HLn ⊢
  clear eR
  obtain ⟨b3, eb3⟩ : ∃ b, b = w.heap.size := ⟨_, rfl⟩
  have HM : Hid (LdS W0 rb F1 (.slice ad R.length cd) R R w1) := hM
  have HX1 : Hid (BxC b3 (rgCells r) 26 w1) := by rw [eb3]; exact HX.out.keep (hM.bel.block _ HX.out.lt)
  have HNF : Hid (¬ F1 b3) := fun hF => (by have h1 := hM.hi _ hF; have h2 := HX.out.lt; omega)
  rw [← eb3]
  clear hM eb3 HX HLs
  have x0 : w1.cell? ⟨b3, 0, none⟩ = some (.int .i64 r.nd.1) := HX1.out.cell 0 _ rfl
  have x1 : w1.cell? ⟨b3, 1, none⟩ = some (.int .i64 r.nd.2) := HX1.out.cell 1 _ rfl
  have x2 : w1.cell? ⟨b3, 2, none⟩ = some (.string r.nm) := HX1.out.cell 2 _ rfl
  have x3 : w1.cell? ⟨b3, 3, none⟩ = some (.int .i64 r.at_.1) := HX1.out.cell 3 _ rfl
  have x4 : w1.cell? ⟨b3, 4, none⟩ = some (.int .i64 r.at_.2) := HX1.out.cell 4 _ rfl
  have x5 : w1.cell? ⟨b3, 5, none⟩ = some (.string r.vl) := HX1.out.cell 5 _ rfl
  have x6 : w1.cell? ⟨b3, 6, none⟩ = some (.bool r.gn) := HX1.out.cell 6 _ rfl
  go_wp2_with fail
  clear x0 x1 x2 x3 x4 x5 x6
  refine (put_any F1 rb R r _ HM.out.row (by have := HLn.out; omega) HSm.out).mono ?_
  rintro e w2 ⟨rfl, hd⟩
  obtain ⟨F2, hM2, hto⟩ := HM.out.did hd
  have HFl : Hid ((putC R r).filter (nek r) = R.filter (nek r)) := apart_same HR0.out r
  have HAl : Hid ((putC R r).length ≤ 201) := (by have h1 := putC_length R r; have := HLn.out; show _ ≤ _; omega)
  obtain ⟨A, eA⟩ : ∃ A, A = putC R r := ⟨_, rfl⟩
  rw [← eA] at hM2 HFl HAl
  clear eA
  have HM2 : Hid (LdS W0 rb F2 (.slice ad R.length cd) A R w2) := hM2
  have HX2 : Hid (BxC b3 (rgCells r) 26 w2) := HX1.out.touch hto HNF.out
  clear hd hM2 hto HM HX1 HNF
  go_wp2_with fail
  refine (all_v F2 _ A _ HM2.out.rv).mono ?_
  rintro e wA ⟨u, rfl, ho, hb⟩
  obtain ⟨aA, cA, eu⟩ := ho.form
  subst eu
  have HRA : Hid (LsE rgCells 7 (fun _ => True) wA (.slice aA A.length cA) A) := ho.lsE rgCells_len (by have := HAl.out; omega) (fun _ _ => trivial)
  have HRD : Hid (LsE rgCells 7 (fun _ => True) wA (.slice ad R.length cd) R) := (HM2.out.doc.below hb).mono fun _ _ => trivial
  have HQ : Hid (BxC b3 (rgCells r) 26 wA) := HX2.out.below hb
  have h9 : Below w.heap.size w w2 := HB0.out.trans (HM2.out.bel.mono HB0.out.size)
  have HBA : Hid (Below w.heap.size w wA) := h9.trans (hb.mono h9.size)
  have hAl : A.length ≤ 201 := HAl.out
  have hRl : R.length ≤ 200 := HLn.out
  clear ho hb h9 HM2 HX2 HB0 HSm
  go_wp2_with fail
  go_loopw [8, 9] (fun kv iv wr => ∃ i k : Nat, kv = .int .i64 (k : Int) ∧ iv = .int .i64 (i : Int) ∧ i ≤ A.length ∧ k ≤ R.length ∧ Hid (Below wA.heap.size wA wr) ∧ Hid ((A.take i).filter (nek r) = (R.take k).filter (nek r))) (fun _ iv _ => A.length - (intOf iv).toNat)
  case atStart => exact ⟨0, 0, rfl, rfl, Nat.zero_le _, Nat.zero_le _, Below.refl _ _, rfl⟩
  case round =>
    obtain ⟨i, k, rfl, rfl, hil, hk, HB, HIv⟩ := hrel
    by_cases hlt : i < A.length
    · obtain ⟨bA, oA, capA, ev, _, hbl, hrow⟩ := HRA.out.row7 (i := i) hlt
      injection ev with ev1 ev2 ev3
      subst ev1
      subst ev3
      obtain ⟨x, ex⟩ : ∃ x, x = A[i] := ⟨_, rfl⟩
      rw [← ex] at hrow
      have HGA : Hid (bA < wA.heap.size) := hbl
      have HX0 : Hid (wA.cell? ⟨bA, oA + i * 7, none⟩ = some (.int .i64 x.nd.1)) := hrow 0 _ rfl
      have HX1 : Hid (wA.cell? ⟨bA, oA + i * 7 + 1, none⟩ = some (.int .i64 x.nd.2)) := hrow 1 _ rfl
      have HX2 : Hid (wA.cell? ⟨bA, oA + i * 7 + 2, none⟩ = some (.string x.nm)) := hrow 2 _ rfl
      have HX3 : Hid (wA.cell? ⟨bA, oA + i * 7 + 3, none⟩ = some (.int .i64 x.at_.1)) := hrow 3 _ rfl
      have HX4 : Hid (wA.cell? ⟨bA, oA + i * 7 + 4, none⟩ = some (.int .i64 x.at_.2)) := hrow 4 _ rfl
      have HX5 : Hid (wA.cell? ⟨bA, oA + i * 7 + 5, none⟩ = some (.string x.vl)) := hrow 5 _ rfl
      have HX6 : Hid (wA.cell? ⟨bA, oA + i * 7 + 6, none⟩ = some (.bool x.gn)) := hrow 6 _ rfl
      have HxE : Hid (x = A[i]) := ex
      have a1 : (i : Int) < (A.length : Int) := by omega
      have a0 : (0 : Int) ≤ (i : Int) := by omega
      clear hrow hbl ex ev2
      by_cases hnd : x.nd.1 = r.nd.1 ∧ x.nd.2 = r.nd.2
      · have HNx : Hid (x.nd.1 = r.nd.1 ∧ x.nd.2 = r.nd.2) := hnd
        by_cases hnm : x.nm = r.nm
        · have HMx : Hid (x.nm = r.nm) := hnm
          clear hnd hnm
          go_wp2_with fail
          refine wp_region_held_drew (S := fun W' => Below wA.heap.size wA W') (by kernel_rfl) HB.out.drew (fun hHeld => ?_)
          obtain ⟨Up10u0, eW⟩ : ∃ X, X = wr.drew := ⟨_, rfl⟩
          have hb : Below wr.heap.size wr Up10u0 := by rw [eW]; exact (Below.refl _ _).drew
          replace HB : Hid (Below wA.heap.size wA Up10u0) := HB.out.trans (hb.mono HB.out.size)
          rw [← eW] at hHeld ⊢
          clear eW hb
          refine tkW 0 (some 26) (v := ?_) ?_ hHeld ?_
          rotate_left
          · (intro ww _; go_simp; try with_reducible rfl)
          refine tkW 1 (some 27) (v := ?_) ?_ hHeld ?_
          rotate_left
          · (intro ww _; go_simp; try with_reducible rfl)
          refine tkW 2 (some 28) (v := ?_) ?_ hHeld ?_
          rotate_left
          · (intro ww hSw; (try dsimp only at hSw); go_simp; try with_reducible rfl)
          refine tkW 3 (some 29) (v := ?_) ?_ hHeld ?_
          rotate_left
          · (intro ww _; go_simp; try with_reducible rfl)
          refine tkW 4 (some 30) (v := ?_) ?_ hHeld ?_
          rotate_left
          · (intro ww hSw; (try dsimp only at hSw); have a0 : ww.cell? ⟨bA, oA + i * 7, none⟩ = some (.int .i64 x.nd.1) := (hSw.cell (p := ⟨bA, oA + i * 7, none⟩) HGA.out).trans HX0.out; have a1 : ww.cell? ⟨bA, oA + i * 7 + 1, none⟩ = some (.int .i64 x.nd.2) := (hSw.cell (p := ⟨bA, oA + i * 7 + 1, none⟩) HGA.out).trans HX1.out; go_simp; try with_reducible rfl)
          refine tkW 5 (some 31) (v := ?_) ?_ hHeld ?_
          rotate_left
          · (intro ww _; go_simp; try with_reducible rfl)
          refine tkW 6 (some 32) (v := ?_) ?_ hHeld ?_
          rotate_left
          · (intro ww hSw; (try dsimp only at hSw); have q0 : ww.cell? ⟨b3, 0, none⟩ = some (.int .i64 r.nd.1) := (hSw.cell (p := ⟨b3, 0, none⟩) HQ.out.lt).trans (HQ.out.cell 0 _ rfl); have q1 : ww.cell? ⟨b3, 1, none⟩ = some (.int .i64 r.nd.2) := (hSw.cell (p := ⟨b3, 1, none⟩) HQ.out.lt).trans (HQ.out.cell 1 _ rfl); go_simp; try with_reducible rfl)
          refine tkW 7 (some 33) (v := .bool true) ?_ hHeld ?_
          · (intro ww hSw; (try dsimp only at hSw); have e1 := HNx.out.1; have e2 := HNx.out.2; go_simp; try simp [e1, e2])
          refine tkW 8 (some 34) (v := ?_) ?_ hHeld ?_
          rotate_left
          · (intro ww _; go_simp; try with_reducible rfl)
          refine tkW 9 (some 35) (v := ?_) ?_ hHeld ?_
          rotate_left
          · (intro ww _; go_simp; try with_reducible rfl)
          refine tkW 10 (some 36) (v := ?_) ?_ hHeld ?_
          rotate_left
          · (intro ww _; go_simp; try with_reducible rfl)
          refine tkW 11 (some 37) (v := ?_) ?_ hHeld ?_
          rotate_left
          · (intro ww hSw; (try dsimp only at hSw); go_simp; try with_reducible rfl)
          refine tkW 12 (some 38) (v := ?_) ?_ hHeld ?_
          rotate_left
          · (intro ww _; go_simp; try with_reducible rfl)
          refine tkW 13 (some 39) (v := ?_) ?_ hHeld ?_
          rotate_left
          · (intro ww hSw; (try dsimp only at hSw); have a2 : ww.cell? ⟨bA, oA + i * 7 + 2, none⟩ = some (.string x.nm) := (hSw.cell (p := ⟨bA, oA + i * 7 + 2, none⟩) HGA.out).trans HX2.out; go_simp; try with_reducible rfl)
          refine tkW 14 (some 40) (v := ?_) ?_ hHeld ?_
          rotate_left
          · (intro ww _; go_simp; try with_reducible rfl)
          refine tkW 15 (some 41) (v := ?_) ?_ hHeld ?_
          rotate_left
          · (intro ww hSw; (try dsimp only at hSw); have q2 : ww.cell? ⟨b3, 2, none⟩ = some (.string r.nm) := (hSw.cell (p := ⟨b3, 2, none⟩) HQ.out.lt).trans (HQ.out.cell 2 _ rfl); go_simp; try with_reducible rfl)
          refine tkW 16 (some 42) (v := .bool true) ?_ hHeld ?_
          · (intro ww hSw; (try dsimp only at hSw); have hn := HMx.out; go_simp)
          refine tkW 17 (some 43) (v := ?_) ?_ hHeld ?_
          rotate_left
          · (intro ww _; go_simp; try with_reducible rfl)
          refine wpAnyH_done (by kernel_rfl) ?_ _
          clear hHeld
          go_wp2
          go_roundw
          case rel => exact ⟨i + 1, k, by go_num, by go_num, by omega, by omega, HB, by (show (A.take (i + 1)).filter (nek r) = (R.take k).filter (nek r); rw [skip_at (List.getElem?_eq_getElem hlt) (by rw [← HxE.out]; exact keyR_eq HNx.out HMx.out)]; exact HIv.out)⟩
          case measure => simp [intOf]; omega
        · have HMx : Hid (¬ x.nm = r.nm) := hnm
          have HPx0 : Hid (nek r x = true) := nek_nm hnm
          clear hnd hnm
          go_wp2_with fail
          refine wp_region_held_drew (S := fun W' => Below wA.heap.size wA W') (by kernel_rfl) HB.out.drew (fun hHeld => ?_)
          obtain ⟨Uq11u0, eW⟩ : ∃ X, X = wr.drew := ⟨_, rfl⟩
          have hb : Below wr.heap.size wr Uq11u0 := by rw [eW]; exact (Below.refl _ _).drew
          replace HB : Hid (Below wA.heap.size wA Uq11u0) := HB.out.trans (hb.mono HB.out.size)
          rw [← eW] at hHeld ⊢
          clear eW hb
          refine tkW 0 (some 26) (v := ?_) ?_ hHeld ?_
          rotate_left
          · (intro ww _; go_simp; try with_reducible rfl)
          refine tkW 1 (some 27) (v := ?_) ?_ hHeld ?_
          rotate_left
          · (intro ww _; go_simp; try with_reducible rfl)
          refine tkW 2 (some 28) (v := ?_) ?_ hHeld ?_
          rotate_left
          · (intro ww hSw; (try dsimp only at hSw); go_simp; try with_reducible rfl)
          refine tkW 3 (some 29) (v := ?_) ?_ hHeld ?_
          rotate_left
          · (intro ww _; go_simp; try with_reducible rfl)
          refine tkW 4 (some 30) (v := ?_) ?_ hHeld ?_
          rotate_left
          · (intro ww hSw; (try dsimp only at hSw); have a0 : ww.cell? ⟨bA, oA + i * 7, none⟩ = some (.int .i64 x.nd.1) := (hSw.cell (p := ⟨bA, oA + i * 7, none⟩) HGA.out).trans HX0.out; have a1 : ww.cell? ⟨bA, oA + i * 7 + 1, none⟩ = some (.int .i64 x.nd.2) := (hSw.cell (p := ⟨bA, oA + i * 7 + 1, none⟩) HGA.out).trans HX1.out; go_simp; try with_reducible rfl)
          refine tkW 5 (some 31) (v := ?_) ?_ hHeld ?_
          rotate_left
          · (intro ww _; go_simp; try with_reducible rfl)
          refine tkW 6 (some 32) (v := ?_) ?_ hHeld ?_
          rotate_left
          · (intro ww hSw; (try dsimp only at hSw); have q0 : ww.cell? ⟨b3, 0, none⟩ = some (.int .i64 r.nd.1) := (hSw.cell (p := ⟨b3, 0, none⟩) HQ.out.lt).trans (HQ.out.cell 0 _ rfl); have q1 : ww.cell? ⟨b3, 1, none⟩ = some (.int .i64 r.nd.2) := (hSw.cell (p := ⟨b3, 1, none⟩) HQ.out.lt).trans (HQ.out.cell 1 _ rfl); go_simp; try with_reducible rfl)
          refine tkW 7 (some 33) (v := .bool true) ?_ hHeld ?_
          · (intro ww hSw; (try dsimp only at hSw); have e1 := HNx.out.1; have e2 := HNx.out.2; go_simp; try simp [e1, e2])
          refine tkW 8 (some 34) (v := ?_) ?_ hHeld ?_
          rotate_left
          · (intro ww _; go_simp; try with_reducible rfl)
          refine tkW 9 (some 35) (v := ?_) ?_ hHeld ?_
          rotate_left
          · (intro ww _; go_simp; try with_reducible rfl)
          refine tkW 10 (some 36) (v := ?_) ?_ hHeld ?_
          rotate_left
          · (intro ww _; go_simp; try with_reducible rfl)
          refine tkW 11 (some 37) (v := ?_) ?_ hHeld ?_
          rotate_left
          · (intro ww hSw; (try dsimp only at hSw); go_simp; try with_reducible rfl)
          refine tkW 12 (some 38) (v := ?_) ?_ hHeld ?_
          rotate_left
          · (intro ww _; go_simp; try with_reducible rfl)
          refine tkW 13 (some 39) (v := ?_) ?_ hHeld ?_
          rotate_left
          · (intro ww hSw; (try dsimp only at hSw); have a2 : ww.cell? ⟨bA, oA + i * 7 + 2, none⟩ = some (.string x.nm) := (hSw.cell (p := ⟨bA, oA + i * 7 + 2, none⟩) HGA.out).trans HX2.out; go_simp; try with_reducible rfl)
          refine tkW 14 (some 40) (v := ?_) ?_ hHeld ?_
          rotate_left
          · (intro ww _; go_simp; try with_reducible rfl)
          refine tkW 15 (some 41) (v := ?_) ?_ hHeld ?_
          rotate_left
          · (intro ww hSw; (try dsimp only at hSw); have q2 : ww.cell? ⟨b3, 2, none⟩ = some (.string r.nm) := (hSw.cell (p := ⟨b3, 2, none⟩) HQ.out.lt).trans (HQ.out.cell 2 _ rfl); go_simp; try with_reducible rfl)
          refine tkW 16 (some 42) (v := .bool false) ?_ hHeld ?_
          · (intro ww hSw; (try dsimp only at hSw); have hn := HMx.out; go_simp; exact fun e => hn (txt_inj e))
          refine tkW 17 (some 43) (v := ?_) ?_ hHeld ?_
          rotate_left
          · (intro ww _; go_simp; try with_reducible rfl)
          refine wpAnyH_done (by kernel_rfl) ?_ _
          clear hHeld
          have HPx : Hid (nek r A[i] = true) := (by show _ = _; rw [← HxE.out]; exact HPx0.out)
          go_wp2_with fail
          go_loopw [8] (fun kv wr2 => ∃ k : Nat, kv = .int .i64 (k : Int) ∧ k ≤ R.length ∧ Hid (Below wA.heap.size wA wr2) ∧ Hid ((A.take i).filter (nek r) = (R.take k).filter (nek r))) (fun kv _ => R.length - (intOf kv).toNat)
          case atStart => exact ⟨k, rfl, hk, HB, HIv⟩
          case round =>
            rename World => wq
            clear HB HIv hk
            obtain ⟨k, rfl, hk, HB, HIv⟩ := hrel
            by_cases hkt : k < R.length
            · obtain ⟨bD, oD, capD, ev, _, hbl, hrow⟩ := HRD.out.row7 (i := k) hkt
              injection ev with ev1 ev2 ev3
              subst ev1
              subst ev3
              obtain ⟨y, ey⟩ : ∃ y, y = R[k] := ⟨_, rfl⟩
              rw [← ey] at hrow
              have HGD : Hid (bD < wA.heap.size) := hbl
              have HY0 : Hid (wA.cell? ⟨bD, oD + k * 7, none⟩ = some (.int .i64 y.nd.1)) := hrow 0 _ rfl
              have HY1 : Hid (wA.cell? ⟨bD, oD + k * 7 + 1, none⟩ = some (.int .i64 y.nd.2)) := hrow 1 _ rfl
              have HY2 : Hid (wA.cell? ⟨bD, oD + k * 7 + 2, none⟩ = some (.string y.nm)) := hrow 2 _ rfl
              have HY3 : Hid (wA.cell? ⟨bD, oD + k * 7 + 3, none⟩ = some (.int .i64 y.at_.1)) := hrow 3 _ rfl
              have HY4 : Hid (wA.cell? ⟨bD, oD + k * 7 + 4, none⟩ = some (.int .i64 y.at_.2)) := hrow 4 _ rfl
              have HY5 : Hid (wA.cell? ⟨bD, oD + k * 7 + 5, none⟩ = some (.string y.vl)) := hrow 5 _ rfl
              have HY6 : Hid (wA.cell? ⟨bD, oD + k * 7 + 6, none⟩ = some (.bool y.gn)) := hrow 6 _ rfl
              have HyE : Hid (R[k]? = some y) := (by show _ = _; rw [ey]; exact List.getElem?_eq_getElem hkt)
              have d1 : (k : Int) < (R.length : Int) := by omega
              have d0 : (0 : Int) ≤ (k : Int) := by omega
              clear hrow hbl ey ev2
              by_cases hnd : y.nd.1 = r.nd.1 ∧ y.nd.2 = r.nd.2
              · have HNy : Hid (y.nd.1 = r.nd.1 ∧ y.nd.2 = r.nd.2) := hnd
                by_cases hnm : y.nm = r.nm
                · have HMy : Hid (y.nm = r.nm) := hnm
                  clear hnd hnm
                  go_wp2_with fail
                  refine wp_region_held_drew (S := fun W' => Below wA.heap.size wA W') (by kernel_rfl) HB.out.drew (fun hHeld => ?_)
                  obtain ⟨Ui0t12u0, eW⟩ : ∃ X, X = wq.drew := ⟨_, rfl⟩
                  have hb : Below wq.heap.size wq Ui0t12u0 := by rw [eW]; exact (Below.refl _ _).drew
                  replace HB : Hid (Below wA.heap.size wA Ui0t12u0) := HB.out.trans (hb.mono HB.out.size)
                  rw [← eW] at hHeld ⊢
                  clear eW hb
                  refine tkW 0 (some 44) (v := ?_) ?_ hHeld ?_
                  rotate_left
                  · (intro ww _; go_simp; try with_reducible rfl)
                  refine tkW 1 (some 45) (v := ?_) ?_ hHeld ?_
                  rotate_left
                  · (intro ww _; go_simp; try with_reducible rfl)
                  refine tkW 2 (some 46) (v := ?_) ?_ hHeld ?_
                  rotate_left
                  · (intro ww hSw; (try dsimp only at hSw); go_simp; try with_reducible rfl)
                  refine tkW 3 (some 47) (v := ?_) ?_ hHeld ?_
                  rotate_left
                  · (intro ww hSw; (try dsimp only at hSw); go_simp; try with_reducible rfl)
                  refine tkW 4 (some 48) (v := ?_) ?_ hHeld ?_
                  rotate_left
                  · (intro ww _; go_simp; try with_reducible rfl)
                  refine tkW 5 (some 49) (v := ?_) ?_ hHeld ?_
                  rotate_left
                  · (intro ww _; go_simp; try with_reducible rfl)
                  refine tkW 6 (some 50) (v := ?_) ?_ hHeld ?_
                  rotate_left
                  · (intro ww _; go_simp; try with_reducible rfl)
                  refine tkW 7 (some 51) (v := ?_) ?_ hHeld ?_
                  rotate_left
                  · (intro ww hSw; (try dsimp only at hSw); go_simp; try with_reducible rfl)
                  refine tkW 8 (some 52) (v := ?_) ?_ hHeld ?_
                  rotate_left
                  · (intro ww _; go_simp; try with_reducible rfl)
                  refine tkW 9 (some 53) (v := ?_) ?_ hHeld ?_
                  rotate_left
                  · (intro ww hSw; (try dsimp only at hSw); have d0 : ww.cell? ⟨bD, oD + k * 7, none⟩ = some (.int .i64 y.nd.1) := (hSw.cell (p := ⟨bD, oD + k * 7, none⟩) HGD.out).trans HY0.out; have d1 : ww.cell? ⟨bD, oD + k * 7 + 1, none⟩ = some (.int .i64 y.nd.2) := (hSw.cell (p := ⟨bD, oD + k * 7 + 1, none⟩) HGD.out).trans HY1.out; go_simp; try with_reducible rfl)
                  refine tkW 10 (some 54) (v := ?_) ?_ hHeld ?_
                  rotate_left
                  · (intro ww _; go_simp; try with_reducible rfl)
                  refine tkW 11 (some 55) (v := ?_) ?_ hHeld ?_
                  rotate_left
                  · (intro ww hSw; (try dsimp only at hSw); have q0 : ww.cell? ⟨b3, 0, none⟩ = some (.int .i64 r.nd.1) := (hSw.cell (p := ⟨b3, 0, none⟩) HQ.out.lt).trans (HQ.out.cell 0 _ rfl); have q1 : ww.cell? ⟨b3, 1, none⟩ = some (.int .i64 r.nd.2) := (hSw.cell (p := ⟨b3, 1, none⟩) HQ.out.lt).trans (HQ.out.cell 1 _ rfl); go_simp; try with_reducible rfl)
                  refine tkW 12 (some 56) (v := .bool true) ?_ hHeld ?_
                  · (intro ww hSw; (try dsimp only at hSw); have e1 := HNy.out.1; have e2 := HNy.out.2; go_simp; try simp [e1, e2])
                  refine tkW 13 (some 57) (v := ?_) ?_ hHeld ?_
                  rotate_left
                  · (intro ww _; go_simp; try with_reducible rfl)
                  refine tkW 14 (some 58) (v := ?_) ?_ hHeld ?_
                  rotate_left
                  · (intro ww _; go_simp; try with_reducible rfl)
                  refine tkW 15 (some 59) (v := ?_) ?_ hHeld ?_
                  rotate_left
                  · (intro ww _; go_simp; try with_reducible rfl)
                  refine tkW 16 (some 60) (v := ?_) ?_ hHeld ?_
                  rotate_left
                  · (intro ww _; go_simp; try with_reducible rfl)
                  refine tkW 17 (some 61) (v := ?_) ?_ hHeld ?_
                  rotate_left
                  · (intro ww hSw; (try dsimp only at hSw); go_simp; try with_reducible rfl)
                  refine tkW 18 (some 62) (v := ?_) ?_ hHeld ?_
                  rotate_left
                  · (intro ww _; go_simp; try with_reducible rfl)
                  refine tkW 19 (some 63) (v := ?_) ?_ hHeld ?_
                  rotate_left
                  · (intro ww hSw; (try dsimp only at hSw); have d2 : ww.cell? ⟨bD, oD + k * 7 + 2, none⟩ = some (.string y.nm) := (hSw.cell (p := ⟨bD, oD + k * 7 + 2, none⟩) HGD.out).trans HY2.out; go_simp; try with_reducible rfl)
                  refine tkW 20 (some 64) (v := ?_) ?_ hHeld ?_
                  rotate_left
                  · (intro ww _; go_simp; try with_reducible rfl)
                  refine tkW 21 (some 65) (v := ?_) ?_ hHeld ?_
                  rotate_left
                  · (intro ww hSw; (try dsimp only at hSw); have q2 : ww.cell? ⟨b3, 2, none⟩ = some (.string r.nm) := (hSw.cell (p := ⟨b3, 2, none⟩) HQ.out.lt).trans (HQ.out.cell 2 _ rfl); go_simp; try with_reducible rfl)
                  refine tkW 22 (some 66) (v := .bool true) ?_ hHeld ?_
                  · (intro ww hSw; (try dsimp only at hSw); have hn := HMy.out; go_simp)
                  refine tkW 23 (some 67) (v := ?_) ?_ hHeld ?_
                  rotate_left
                  · (intro ww _; go_simp; try with_reducible rfl)
                  refine wpAnyH_done (by kernel_rfl) ?_ _
                  clear hHeld
                  go_wp2
                  go_roundw
                  case rel => exact ⟨k + 1, by go_num, by omega, HB, by (show (A.take i).filter (nek r) = (R.take (k + 1)).filter (nek r); rw [skip_at HyE.out (keyR_eq HNy.out HMy.out)]; exact HIv.out)⟩
                  case measure => simp [intOf]; omega
                · have HMy : Hid (¬ y.nm = r.nm) := hnm
                  clear hnd hnm
                  go_wp2_with fail
                  refine wp_region_held_drew (S := fun W' => Below wA.heap.size wA W') (by kernel_rfl) HB.out.drew (fun hHeld => ?_)
                  obtain ⟨Ui0m13u0, eW⟩ : ∃ X, X = wq.drew := ⟨_, rfl⟩
                  have hb : Below wq.heap.size wq Ui0m13u0 := by rw [eW]; exact (Below.refl _ _).drew
                  replace HB : Hid (Below wA.heap.size wA Ui0m13u0) := HB.out.trans (hb.mono HB.out.size)
                  rw [← eW] at hHeld ⊢
                  clear eW hb
                  refine tkW 0 (some 44) (v := ?_) ?_ hHeld ?_
                  rotate_left
                  · (intro ww _; go_simp; try with_reducible rfl)
                  refine tkW 1 (some 45) (v := ?_) ?_ hHeld ?_
                  rotate_left
                  · (intro ww _; go_simp; try with_reducible rfl)
                  refine tkW 2 (some 46) (v := ?_) ?_ hHeld ?_
                  rotate_left
                  · (intro ww hSw; (try dsimp only at hSw); go_simp; try with_reducible rfl)
                  refine tkW 3 (some 47) (v := ?_) ?_ hHeld ?_
                  rotate_left
                  · (intro ww hSw; (try dsimp only at hSw); go_simp; try with_reducible rfl)
                  refine tkW 4 (some 48) (v := ?_) ?_ hHeld ?_
                  rotate_left
                  · (intro ww _; go_simp; try with_reducible rfl)
                  refine tkW 5 (some 49) (v := ?_) ?_ hHeld ?_
                  rotate_left
                  · (intro ww _; go_simp; try with_reducible rfl)
                  refine tkW 6 (some 50) (v := ?_) ?_ hHeld ?_
                  rotate_left
                  · (intro ww _; go_simp; try with_reducible rfl)
                  refine tkW 7 (some 51) (v := ?_) ?_ hHeld ?_
                  rotate_left
                  · (intro ww hSw; (try dsimp only at hSw); go_simp; try with_reducible rfl)
                  refine tkW 8 (some 52) (v := ?_) ?_ hHeld ?_
                  rotate_left
                  · (intro ww _; go_simp; try with_reducible rfl)
                  refine tkW 9 (some 53) (v := ?_) ?_ hHeld ?_
                  rotate_left
                  · (intro ww hSw; (try dsimp only at hSw); have d0 : ww.cell? ⟨bD, oD + k * 7, none⟩ = some (.int .i64 y.nd.1) := (hSw.cell (p := ⟨bD, oD + k * 7, none⟩) HGD.out).trans HY0.out; have d1 : ww.cell? ⟨bD, oD + k * 7 + 1, none⟩ = some (.int .i64 y.nd.2) := (hSw.cell (p := ⟨bD, oD + k * 7 + 1, none⟩) HGD.out).trans HY1.out; go_simp; try with_reducible rfl)
                  refine tkW 10 (some 54) (v := ?_) ?_ hHeld ?_
                  rotate_left
                  · (intro ww _; go_simp; try with_reducible rfl)
                  refine tkW 11 (some 55) (v := ?_) ?_ hHeld ?_
                  rotate_left
                  · (intro ww hSw; (try dsimp only at hSw); have q0 : ww.cell? ⟨b3, 0, none⟩ = some (.int .i64 r.nd.1) := (hSw.cell (p := ⟨b3, 0, none⟩) HQ.out.lt).trans (HQ.out.cell 0 _ rfl); have q1 : ww.cell? ⟨b3, 1, none⟩ = some (.int .i64 r.nd.2) := (hSw.cell (p := ⟨b3, 1, none⟩) HQ.out.lt).trans (HQ.out.cell 1 _ rfl); go_simp; try with_reducible rfl)
                  refine tkW 12 (some 56) (v := .bool true) ?_ hHeld ?_
                  · (intro ww hSw; (try dsimp only at hSw); have e1 := HNy.out.1; have e2 := HNy.out.2; go_simp; try simp [e1, e2])
                  refine tkW 13 (some 57) (v := ?_) ?_ hHeld ?_
                  rotate_left
                  · (intro ww _; go_simp; try with_reducible rfl)
                  refine tkW 14 (some 58) (v := ?_) ?_ hHeld ?_
                  rotate_left
                  · (intro ww _; go_simp; try with_reducible rfl)
                  refine tkW 15 (some 59) (v := ?_) ?_ hHeld ?_
                  rotate_left
                  · (intro ww _; go_simp; try with_reducible rfl)
                  refine tkW 16 (some 60) (v := ?_) ?_ hHeld ?_
                  rotate_left
                  · (intro ww _; go_simp; try with_reducible rfl)
                  refine tkW 17 (some 61) (v := ?_) ?_ hHeld ?_
                  rotate_left
                  · (intro ww hSw; (try dsimp only at hSw); go_simp; try with_reducible rfl)
                  refine tkW 18 (some 62) (v := ?_) ?_ hHeld ?_
                  rotate_left
                  · (intro ww _; go_simp; try with_reducible rfl)
                  refine tkW 19 (some 63) (v := ?_) ?_ hHeld ?_
                  rotate_left
                  · (intro ww hSw; (try dsimp only at hSw); have d2 : ww.cell? ⟨bD, oD + k * 7 + 2, none⟩ = some (.string y.nm) := (hSw.cell (p := ⟨bD, oD + k * 7 + 2, none⟩) HGD.out).trans HY2.out; go_simp; try with_reducible rfl)
                  refine tkW 20 (some 64) (v := ?_) ?_ hHeld ?_
                  rotate_left
                  · (intro ww _; go_simp; try with_reducible rfl)
                  refine tkW 21 (some 65) (v := ?_) ?_ hHeld ?_
                  rotate_left
                  · (intro ww hSw; (try dsimp only at hSw); have q2 : ww.cell? ⟨b3, 2, none⟩ = some (.string r.nm) := (hSw.cell (p := ⟨b3, 2, none⟩) HQ.out.lt).trans (HQ.out.cell 2 _ rfl); go_simp; try with_reducible rfl)
                  refine tkW 22 (some 66) (v := .bool false) ?_ hHeld ?_
                  · (intro ww hSw; (try dsimp only at hSw); have hn := HMy.out; go_simp; exact fun e => hn (txt_inj e))
                  refine tkW 23 (some 67) (v := ?_) ?_ hHeld ?_
                  rotate_left
                  · (intro ww _; go_simp; try with_reducible rfl)
                  refine wpAnyH_done (by kernel_rfl) ?_ _
                  clear hHeld
                  have HPk : Hid (∀ y, R[k]? = some y → nek r y = true) := fun z hz => (by rw [HyE.out] at hz; cases hz; exact nek_nm HMy.out)
                  obtain ⟨hkz, ez, hiv2⟩ := next_same HFl.out hlt HIv.out HPx.out HPk.out
                  have HNx2 : Hid ((A.take (i + 1)).filter (nek r) = (R.take (k + 1)).filter (nek r)) := hiv2
                  have hlen2 : R.length ≤ 200 := HLn.out
                  have hyx : y = x := (by have h9 := HyE.out; rw [List.getElem?_eq_getElem hkz] at h9; injection h9 with h9; rw [← h9, ez]; exact HxE.out.symm)
                  have HZ0 : Hid (wA.cell? ⟨bD, oD + k * 7, none⟩ = some (.int .i64 x.nd.1)) := (by rw [← hyx]; exact HY0.out)
                  have HZ1 : Hid (wA.cell? ⟨bD, oD + k * 7 + 1, none⟩ = some (.int .i64 x.nd.2)) := (by rw [← hyx]; exact HY1.out)
                  have HZ2 : Hid (wA.cell? ⟨bD, oD + k * 7 + 2, none⟩ = some (.string x.nm)) := (by rw [← hyx]; exact HY2.out)
                  have HZ3 : Hid (wA.cell? ⟨bD, oD + k * 7 + 3, none⟩ = some (.int .i64 x.at_.1)) := (by rw [← hyx]; exact HY3.out)
                  have HZ4 : Hid (wA.cell? ⟨bD, oD + k * 7 + 4, none⟩ = some (.int .i64 x.at_.2)) := (by rw [← hyx]; exact HY4.out)
                  have HZ5 : Hid (wA.cell? ⟨bD, oD + k * 7 + 5, none⟩ = some (.string x.vl)) := (by rw [← hyx]; exact HY5.out)
                  have HZ6 : Hid (wA.cell? ⟨bD, oD + k * 7 + 6, none⟩ = some (.bool x.gn)) := (by rw [← hyx]; exact HY6.out)
                  have d5 : ¬ (k : Int) ≥ (R.length : Int) := by omega
                  clear ez hiv2 hyx
                  go_wp2_with fail
                  refine wp_region_held_drew (S := fun W' => Below wA.heap.size wA W') (by kernel_rfl) HB.out.drew (fun hHeld => ?_)
                  obtain ⟨Uz114u0, eW⟩ : ∃ X, X = Ui0m13u0.drew := ⟨_, rfl⟩
                  have hb : Below Ui0m13u0.heap.size Ui0m13u0 Uz114u0 := by rw [eW]; exact (Below.refl _ _).drew
                  replace HB : Hid (Below wA.heap.size wA Uz114u0) := HB.out.trans (hb.mono HB.out.size)
                  rw [← eW] at hHeld ⊢
                  clear eW hb
                  refine tkW 0 (some 70) (v := ?_) ?_ hHeld ?_
                  rotate_left
                  · (intro ww _; go_simp; try with_reducible rfl)
                  refine tkW 1 (some 71) (v := ?_) ?_ hHeld ?_
                  rotate_left
                  · (intro ww _; go_simp; try with_reducible rfl)
                  refine tkW 2 (some 72) (v := ?_) ?_ hHeld ?_
                  rotate_left
                  · (intro ww hSw; (try dsimp only at hSw); go_simp; try with_reducible rfl)
                  refine tkW 3 (some 73) (v := .bool false) ?_ hHeld ?_
                  · (intro ww hSw; (try dsimp only at hSw); go_simp; try omega)
                  refine tkW 4 (some 74) (v := ?_) ?_ hHeld ?_
                  rotate_left
                  · (intro ww _; go_simp; try with_reducible rfl)
                  refine tkW 5 (some 75) (v := ?_) ?_ hHeld ?_
                  rotate_left
                  · (intro ww _; go_simp; try with_reducible rfl)
                  refine tkW 6 (some 76) (v := ?_) ?_ hHeld ?_
                  rotate_left
                  · (intro ww _; go_simp; try with_reducible rfl)
                  refine tkW 7 (some 77) (v := ?_) ?_ hHeld ?_
                  rotate_left
                  · (intro ww hSw; (try dsimp only at hSw); go_simp; try with_reducible rfl)
                  refine tkW 8 (some 78) (v := ?_) ?_ hHeld ?_
                  rotate_left
                  · (intro ww hSw; (try dsimp only at hSw); have a0 : ww.cell? ⟨bA, oA + i * 7, none⟩ = some (.int .i64 x.nd.1) := (hSw.cell (p := ⟨bA, oA + i * 7, none⟩) HGA.out).trans HX0.out; have a1 : ww.cell? ⟨bA, oA + i * 7 + 1, none⟩ = some (.int .i64 x.nd.2) := (hSw.cell (p := ⟨bA, oA + i * 7 + 1, none⟩) HGA.out).trans HX1.out; have a2 : ww.cell? ⟨bA, oA + i * 7 + 2, none⟩ = some (.string x.nm) := (hSw.cell (p := ⟨bA, oA + i * 7 + 2, none⟩) HGA.out).trans HX2.out; have a3 : ww.cell? ⟨bA, oA + i * 7 + 3, none⟩ = some (.int .i64 x.at_.1) := (hSw.cell (p := ⟨bA, oA + i * 7 + 3, none⟩) HGA.out).trans HX3.out; have a4 : ww.cell? ⟨bA, oA + i * 7 + 4, none⟩ = some (.int .i64 x.at_.2) := (hSw.cell (p := ⟨bA, oA + i * 7 + 4, none⟩) HGA.out).trans HX4.out; have a5 : ww.cell? ⟨bA, oA + i * 7 + 5, none⟩ = some (.string x.vl) := (hSw.cell (p := ⟨bA, oA + i * 7 + 5, none⟩) HGA.out).trans HX5.out; have a6 : ww.cell? ⟨bA, oA + i * 7 + 6, none⟩ = some (.bool x.gn) := (hSw.cell (p := ⟨bA, oA + i * 7 + 6, none⟩) HGA.out).trans HX6.out; go_simp; try with_reducible rfl)
                  refine tkW 9 (some 79) (v := ?_) ?_ hHeld ?_
                  rotate_left
                  · (intro ww _; go_simp; try with_reducible rfl)
                  refine tkW 10 (some 80) (v := ?_) ?_ hHeld ?_
                  rotate_left
                  · (intro ww _; go_simp; try with_reducible rfl)
                  refine tkW 11 (some 81) (v := ?_) ?_ hHeld ?_
                  rotate_left
                  · (intro ww hSw; (try dsimp only at hSw); go_simp; try with_reducible rfl)
                  refine tkW 12 (some 82) (v := ?_) ?_ hHeld ?_
                  rotate_left
                  · (intro ww hSw; (try dsimp only at hSw); have d0 : ww.cell? ⟨bD, oD + k * 7, none⟩ = some (.int .i64 x.nd.1) := (hSw.cell (p := ⟨bD, oD + k * 7, none⟩) HGD.out).trans HZ0.out; have d1 : ww.cell? ⟨bD, oD + k * 7 + 1, none⟩ = some (.int .i64 x.nd.2) := (hSw.cell (p := ⟨bD, oD + k * 7 + 1, none⟩) HGD.out).trans HZ1.out; have d2 : ww.cell? ⟨bD, oD + k * 7 + 2, none⟩ = some (.string x.nm) := (hSw.cell (p := ⟨bD, oD + k * 7 + 2, none⟩) HGD.out).trans HZ2.out; have d3 : ww.cell? ⟨bD, oD + k * 7 + 3, none⟩ = some (.int .i64 x.at_.1) := (hSw.cell (p := ⟨bD, oD + k * 7 + 3, none⟩) HGD.out).trans HZ3.out; have d4 : ww.cell? ⟨bD, oD + k * 7 + 4, none⟩ = some (.int .i64 x.at_.2) := (hSw.cell (p := ⟨bD, oD + k * 7 + 4, none⟩) HGD.out).trans HZ4.out; have d5 : ww.cell? ⟨bD, oD + k * 7 + 5, none⟩ = some (.string x.vl) := (hSw.cell (p := ⟨bD, oD + k * 7 + 5, none⟩) HGD.out).trans HZ5.out; have d6 : ww.cell? ⟨bD, oD + k * 7 + 6, none⟩ = some (.bool x.gn) := (hSw.cell (p := ⟨bD, oD + k * 7 + 6, none⟩) HGD.out).trans HZ6.out; go_simp; try with_reducible rfl)
                  refine tkW 13 (some 83) (v := .bool false) ?_ hHeld ?_
                  · (intro ww hSw; (try dsimp only at hSw); exact (execNeq (p := x) (q := x) rfl rfl ww).trans (by simp))
                  refine tkW 14 (some 84) (v := ?_) ?_ hHeld ?_
                  rotate_left
                  · (intro ww _; go_simp; try with_reducible rfl)
                  refine wpAnyH_done (by kernel_rfl) ?_ _
                  clear hHeld
                  go_wp2
                  go_roundw
                  case rel => exact ⟨i + 1, k + 1, by go_num, by go_num, by omega, by omega, HB, HNx2⟩
                  case measure => simp [intOf]; omega
              · have HNy : Hid (¬ (y.nd.1 = r.nd.1 ∧ y.nd.2 = r.nd.2)) := hnd
                clear hnd
                go_wp2_with fail
                refine wp_region_held_drew (S := fun W' => Below wA.heap.size wA W') (by kernel_rfl) HB.out.drew (fun hHeld => ?_)
                obtain ⟨Ui0n15u0, eW⟩ : ∃ X, X = wq.drew := ⟨_, rfl⟩
                have hb : Below wq.heap.size wq Ui0n15u0 := by rw [eW]; exact (Below.refl _ _).drew
                replace HB : Hid (Below wA.heap.size wA Ui0n15u0) := HB.out.trans (hb.mono HB.out.size)
                rw [← eW] at hHeld ⊢
                clear eW hb
                refine tkW 0 (some 44) (v := ?_) ?_ hHeld ?_
                rotate_left
                · (intro ww _; go_simp; try with_reducible rfl)
                refine tkW 1 (some 45) (v := ?_) ?_ hHeld ?_
                rotate_left
                · (intro ww _; go_simp; try with_reducible rfl)
                refine tkW 2 (some 46) (v := ?_) ?_ hHeld ?_
                rotate_left
                · (intro ww hSw; (try dsimp only at hSw); go_simp; try with_reducible rfl)
                refine tkW 3 (some 47) (v := ?_) ?_ hHeld ?_
                rotate_left
                · (intro ww hSw; (try dsimp only at hSw); go_simp; try with_reducible rfl)
                refine tkW 4 (some 48) (v := ?_) ?_ hHeld ?_
                rotate_left
                · (intro ww _; go_simp; try with_reducible rfl)
                refine tkW 5 (some 49) (v := ?_) ?_ hHeld ?_
                rotate_left
                · (intro ww _; go_simp; try with_reducible rfl)
                refine tkW 6 (some 50) (v := ?_) ?_ hHeld ?_
                rotate_left
                · (intro ww _; go_simp; try with_reducible rfl)
                refine tkW 7 (some 51) (v := ?_) ?_ hHeld ?_
                rotate_left
                · (intro ww hSw; (try dsimp only at hSw); go_simp; try with_reducible rfl)
                refine tkW 8 (some 52) (v := ?_) ?_ hHeld ?_
                rotate_left
                · (intro ww _; go_simp; try with_reducible rfl)
                refine tkW 9 (some 53) (v := ?_) ?_ hHeld ?_
                rotate_left
                · (intro ww hSw; (try dsimp only at hSw); have d0 : ww.cell? ⟨bD, oD + k * 7, none⟩ = some (.int .i64 y.nd.1) := (hSw.cell (p := ⟨bD, oD + k * 7, none⟩) HGD.out).trans HY0.out; have d1 : ww.cell? ⟨bD, oD + k * 7 + 1, none⟩ = some (.int .i64 y.nd.2) := (hSw.cell (p := ⟨bD, oD + k * 7 + 1, none⟩) HGD.out).trans HY1.out; go_simp; try with_reducible rfl)
                refine tkW 10 (some 54) (v := ?_) ?_ hHeld ?_
                rotate_left
                · (intro ww _; go_simp; try with_reducible rfl)
                refine tkW 11 (some 55) (v := ?_) ?_ hHeld ?_
                rotate_left
                · (intro ww hSw; (try dsimp only at hSw); have q0 : ww.cell? ⟨b3, 0, none⟩ = some (.int .i64 r.nd.1) := (hSw.cell (p := ⟨b3, 0, none⟩) HQ.out.lt).trans (HQ.out.cell 0 _ rfl); have q1 : ww.cell? ⟨b3, 1, none⟩ = some (.int .i64 r.nd.2) := (hSw.cell (p := ⟨b3, 1, none⟩) HQ.out.lt).trans (HQ.out.cell 1 _ rfl); go_simp; try with_reducible rfl)
                refine tkW 12 (some 56) (v := .bool false) ?_ hHeld ?_
                · (intro ww hSw; (try dsimp only at hSw); have hn := HNy.out; go_simp; exact fun e1 e2 => hn ⟨e1, e2⟩)
                refine tkW 13 (some 57) (v := ?_) ?_ hHeld ?_
                rotate_left
                · (intro ww _; go_simp; try with_reducible rfl)
                refine tkW 14 (some 58) (v := ?_) ?_ hHeld ?_
                rotate_left
                · (intro ww _; go_simp; try with_reducible rfl)
                refine tkU 15 (some 59) hHeld ?_
                refine tkU 16 (some 60) hHeld ?_
                refine tkU 17 (some 61) hHeld ?_
                refine tkU 18 (some 62) hHeld ?_
                refine tkU 19 (some 63) hHeld ?_
                refine tkU 20 (some 64) hHeld ?_
                refine tkU 21 (some 65) hHeld ?_
                refine tkU 22 (some 66) hHeld ?_
                refine tkW 23 (some 67) (v := ?_) ?_ hHeld ?_
                rotate_left
                · (intro ww _; go_simp; try with_reducible rfl)
                refine wpAnyH_done (by kernel_rfl) ?_ _
                clear hHeld
                have HPk : Hid (∀ y, R[k]? = some y → nek r y = true) := fun z hz => (by rw [HyE.out] at hz; cases hz; exact nek_nd HNy.out)
                obtain ⟨hkz, ez, hiv2⟩ := next_same HFl.out hlt HIv.out HPx.out HPk.out
                have HNx2 : Hid ((A.take (i + 1)).filter (nek r) = (R.take (k + 1)).filter (nek r)) := hiv2
                have hlen2 : R.length ≤ 200 := HLn.out
                have hyx : y = x := (by have h9 := HyE.out; rw [List.getElem?_eq_getElem hkz] at h9; injection h9 with h9; rw [← h9, ez]; exact HxE.out.symm)
                have HZ0 : Hid (wA.cell? ⟨bD, oD + k * 7, none⟩ = some (.int .i64 x.nd.1)) := (by rw [← hyx]; exact HY0.out)
                have HZ1 : Hid (wA.cell? ⟨bD, oD + k * 7 + 1, none⟩ = some (.int .i64 x.nd.2)) := (by rw [← hyx]; exact HY1.out)
                have HZ2 : Hid (wA.cell? ⟨bD, oD + k * 7 + 2, none⟩ = some (.string x.nm)) := (by rw [← hyx]; exact HY2.out)
                have HZ3 : Hid (wA.cell? ⟨bD, oD + k * 7 + 3, none⟩ = some (.int .i64 x.at_.1)) := (by rw [← hyx]; exact HY3.out)
                have HZ4 : Hid (wA.cell? ⟨bD, oD + k * 7 + 4, none⟩ = some (.int .i64 x.at_.2)) := (by rw [← hyx]; exact HY4.out)
                have HZ5 : Hid (wA.cell? ⟨bD, oD + k * 7 + 5, none⟩ = some (.string x.vl)) := (by rw [← hyx]; exact HY5.out)
                have HZ6 : Hid (wA.cell? ⟨bD, oD + k * 7 + 6, none⟩ = some (.bool x.gn)) := (by rw [← hyx]; exact HY6.out)
                have d5 : ¬ (k : Int) ≥ (R.length : Int) := by omega
                clear ez hiv2 hyx
                go_wp2_with fail
                refine wp_region_held_drew (S := fun W' => Below wA.heap.size wA W') (by kernel_rfl) HB.out.drew (fun hHeld => ?_)
                obtain ⟨Uz216u0, eW⟩ : ∃ X, X = Ui0n15u0.drew := ⟨_, rfl⟩
                have hb : Below Ui0n15u0.heap.size Ui0n15u0 Uz216u0 := by rw [eW]; exact (Below.refl _ _).drew
                replace HB : Hid (Below wA.heap.size wA Uz216u0) := HB.out.trans (hb.mono HB.out.size)
                rw [← eW] at hHeld ⊢
                clear eW hb
                refine tkW 0 (some 70) (v := ?_) ?_ hHeld ?_
                rotate_left
                · (intro ww _; go_simp; try with_reducible rfl)
                refine tkW 1 (some 71) (v := ?_) ?_ hHeld ?_
                rotate_left
                · (intro ww _; go_simp; try with_reducible rfl)
                refine tkW 2 (some 72) (v := ?_) ?_ hHeld ?_
                rotate_left
                · (intro ww hSw; (try dsimp only at hSw); go_simp; try with_reducible rfl)
                refine tkW 3 (some 73) (v := .bool false) ?_ hHeld ?_
                · (intro ww hSw; (try dsimp only at hSw); go_simp; try omega)
                refine tkW 4 (some 74) (v := ?_) ?_ hHeld ?_
                rotate_left
                · (intro ww _; go_simp; try with_reducible rfl)
                refine tkW 5 (some 75) (v := ?_) ?_ hHeld ?_
                rotate_left
                · (intro ww _; go_simp; try with_reducible rfl)
                refine tkW 6 (some 76) (v := ?_) ?_ hHeld ?_
                rotate_left
                · (intro ww _; go_simp; try with_reducible rfl)
                refine tkW 7 (some 77) (v := ?_) ?_ hHeld ?_
                rotate_left
                · (intro ww hSw; (try dsimp only at hSw); go_simp; try with_reducible rfl)
                refine tkW 8 (some 78) (v := ?_) ?_ hHeld ?_
                rotate_left
                · (intro ww hSw; (try dsimp only at hSw); have a0 : ww.cell? ⟨bA, oA + i * 7, none⟩ = some (.int .i64 x.nd.1) := (hSw.cell (p := ⟨bA, oA + i * 7, none⟩) HGA.out).trans HX0.out; have a1 : ww.cell? ⟨bA, oA + i * 7 + 1, none⟩ = some (.int .i64 x.nd.2) := (hSw.cell (p := ⟨bA, oA + i * 7 + 1, none⟩) HGA.out).trans HX1.out; have a2 : ww.cell? ⟨bA, oA + i * 7 + 2, none⟩ = some (.string x.nm) := (hSw.cell (p := ⟨bA, oA + i * 7 + 2, none⟩) HGA.out).trans HX2.out; have a3 : ww.cell? ⟨bA, oA + i * 7 + 3, none⟩ = some (.int .i64 x.at_.1) := (hSw.cell (p := ⟨bA, oA + i * 7 + 3, none⟩) HGA.out).trans HX3.out; have a4 : ww.cell? ⟨bA, oA + i * 7 + 4, none⟩ = some (.int .i64 x.at_.2) := (hSw.cell (p := ⟨bA, oA + i * 7 + 4, none⟩) HGA.out).trans HX4.out; have a5 : ww.cell? ⟨bA, oA + i * 7 + 5, none⟩ = some (.string x.vl) := (hSw.cell (p := ⟨bA, oA + i * 7 + 5, none⟩) HGA.out).trans HX5.out; have a6 : ww.cell? ⟨bA, oA + i * 7 + 6, none⟩ = some (.bool x.gn) := (hSw.cell (p := ⟨bA, oA + i * 7 + 6, none⟩) HGA.out).trans HX6.out; go_simp; try with_reducible rfl)
                refine tkW 9 (some 79) (v := ?_) ?_ hHeld ?_
                rotate_left
                · (intro ww _; go_simp; try with_reducible rfl)
                refine tkW 10 (some 80) (v := ?_) ?_ hHeld ?_
                rotate_left
                · (intro ww _; go_simp; try with_reducible rfl)
                refine tkW 11 (some 81) (v := ?_) ?_ hHeld ?_
                rotate_left
                · (intro ww hSw; (try dsimp only at hSw); go_simp; try with_reducible rfl)
                refine tkW 12 (some 82) (v := ?_) ?_ hHeld ?_
                rotate_left
                · (intro ww hSw; (try dsimp only at hSw); have d0 : ww.cell? ⟨bD, oD + k * 7, none⟩ = some (.int .i64 x.nd.1) := (hSw.cell (p := ⟨bD, oD + k * 7, none⟩) HGD.out).trans HZ0.out; have d1 : ww.cell? ⟨bD, oD + k * 7 + 1, none⟩ = some (.int .i64 x.nd.2) := (hSw.cell (p := ⟨bD, oD + k * 7 + 1, none⟩) HGD.out).trans HZ1.out; have d2 : ww.cell? ⟨bD, oD + k * 7 + 2, none⟩ = some (.string x.nm) := (hSw.cell (p := ⟨bD, oD + k * 7 + 2, none⟩) HGD.out).trans HZ2.out; have d3 : ww.cell? ⟨bD, oD + k * 7 + 3, none⟩ = some (.int .i64 x.at_.1) := (hSw.cell (p := ⟨bD, oD + k * 7 + 3, none⟩) HGD.out).trans HZ3.out; have d4 : ww.cell? ⟨bD, oD + k * 7 + 4, none⟩ = some (.int .i64 x.at_.2) := (hSw.cell (p := ⟨bD, oD + k * 7 + 4, none⟩) HGD.out).trans HZ4.out; have d5 : ww.cell? ⟨bD, oD + k * 7 + 5, none⟩ = some (.string x.vl) := (hSw.cell (p := ⟨bD, oD + k * 7 + 5, none⟩) HGD.out).trans HZ5.out; have d6 : ww.cell? ⟨bD, oD + k * 7 + 6, none⟩ = some (.bool x.gn) := (hSw.cell (p := ⟨bD, oD + k * 7 + 6, none⟩) HGD.out).trans HZ6.out; go_simp; try with_reducible rfl)
                refine tkW 13 (some 83) (v := .bool false) ?_ hHeld ?_
                · (intro ww hSw; (try dsimp only at hSw); exact (execNeq (p := x) (q := x) rfl rfl ww).trans (by simp))
                refine tkW 14 (some 84) (v := ?_) ?_ hHeld ?_
                rotate_left
                · (intro ww _; go_simp; try with_reducible rfl)
                refine wpAnyH_done (by kernel_rfl) ?_ _
                clear hHeld
                go_wp2
                go_roundw
                case rel => exact ⟨i + 1, k + 1, by go_num, by go_num, by omega, by omega, HB, HNx2⟩
                case measure => simp [intOf]; omega
            · have d1 : ¬ (k : Int) < (R.length : Int) := by omega
              go_wp2_with fail
              refine wp_region_held_drew (S := fun W' => Below wA.heap.size wA W') (by kernel_rfl) HB.out.drew (fun hHeld => ?_)
              obtain ⟨Ui0e17u0, eW⟩ : ∃ X, X = wq.drew := ⟨_, rfl⟩
              have hb : Below wq.heap.size wq Ui0e17u0 := by rw [eW]; exact (Below.refl _ _).drew
              replace HB : Hid (Below wA.heap.size wA Ui0e17u0) := HB.out.trans (hb.mono HB.out.size)
              rw [← eW] at hHeld ⊢
              clear eW hb
              refine tkW 0 (some 44) (v := ?_) ?_ hHeld ?_
              rotate_left
              · (intro ww _; go_simp; try with_reducible rfl)
              refine tkW 1 (some 45) (v := ?_) ?_ hHeld ?_
              rotate_left
              · (intro ww _; go_simp; try with_reducible rfl)
              refine tkW 2 (some 46) (v := ?_) ?_ hHeld ?_
              rotate_left
              · (intro ww hSw; (try dsimp only at hSw); go_simp; try with_reducible rfl)
              refine tkW 3 (some 47) (v := ?_) ?_ hHeld ?_
              rotate_left
              · (intro ww hSw; (try dsimp only at hSw); go_simp; try with_reducible rfl)
              refine tkW 4 (some 48) (v := ?_) ?_ hHeld ?_
              rotate_left
              · (intro ww _; go_simp; try with_reducible rfl)
              refine tkU 5 (some 49) hHeld ?_
              refine tkU 6 (some 50) hHeld ?_
              refine tkU 7 (some 51) hHeld ?_
              refine tkU 8 (some 52) hHeld ?_
              refine tkU 9 (some 53) hHeld ?_
              refine tkU 10 (some 54) hHeld ?_
              refine tkU 11 (some 55) hHeld ?_
              refine tkU 12 (some 56) hHeld ?_
              refine tkW 13 (some 57) (v := ?_) ?_ hHeld ?_
              rotate_left
              · (intro ww _; go_simp; try with_reducible rfl)
              refine tkW 14 (some 58) (v := ?_) ?_ hHeld ?_
              rotate_left
              · (intro ww _; go_simp; try with_reducible rfl)
              refine tkU 15 (some 59) hHeld ?_
              refine tkU 16 (some 60) hHeld ?_
              refine tkU 17 (some 61) hHeld ?_
              refine tkU 18 (some 62) hHeld ?_
              refine tkU 19 (some 63) hHeld ?_
              refine tkU 20 (some 64) hHeld ?_
              refine tkU 21 (some 65) hHeld ?_
              refine tkU 22 (some 66) hHeld ?_
              refine tkW 23 (some 67) (v := ?_) ?_ hHeld ?_
              rotate_left
              · (intro ww _; go_simp; try with_reducible rfl)
              refine wpAnyH_done (by kernel_rfl) ?_ _
              clear hHeld
              have HPk : Hid (∀ y, R[k]? = some y → nek r y = true) := fun z hz => (by rw [List.getElem?_eq_none (by omega)] at hz; cases hz)
              obtain ⟨hkz, ez, hiv2⟩ := next_same HFl.out hlt HIv.out HPx.out HPk.out
              exact absurd hkz hkt
      · have HNx : Hid (¬ (x.nd.1 = r.nd.1 ∧ x.nd.2 = r.nd.2)) := hnd
        have HPx0 : Hid (nek r x = true) := nek_nd hnd
        clear hnd
        go_wp2_with fail
        refine wp_region_held_drew (S := fun W' => Below wA.heap.size wA W') (by kernel_rfl) HB.out.drew (fun hHeld => ?_)
        obtain ⟨Us18u0, eW⟩ : ∃ X, X = wr.drew := ⟨_, rfl⟩
        have hb : Below wr.heap.size wr Us18u0 := by rw [eW]; exact (Below.refl _ _).drew
        replace HB : Hid (Below wA.heap.size wA Us18u0) := HB.out.trans (hb.mono HB.out.size)
        rw [← eW] at hHeld ⊢
        clear eW hb
        refine tkW 0 (some 26) (v := ?_) ?_ hHeld ?_
        rotate_left
        · (intro ww _; go_simp; try with_reducible rfl)
        refine tkW 1 (some 27) (v := ?_) ?_ hHeld ?_
        rotate_left
        · (intro ww _; go_simp; try with_reducible rfl)
        refine tkW 2 (some 28) (v := ?_) ?_ hHeld ?_
        rotate_left
        · (intro ww hSw; (try dsimp only at hSw); go_simp; try with_reducible rfl)
        refine tkW 3 (some 29) (v := ?_) ?_ hHeld ?_
        rotate_left
        · (intro ww _; go_simp; try with_reducible rfl)
        refine tkW 4 (some 30) (v := ?_) ?_ hHeld ?_
        rotate_left
        · (intro ww hSw; (try dsimp only at hSw); have a0 : ww.cell? ⟨bA, oA + i * 7, none⟩ = some (.int .i64 x.nd.1) := (hSw.cell (p := ⟨bA, oA + i * 7, none⟩) HGA.out).trans HX0.out; have a1 : ww.cell? ⟨bA, oA + i * 7 + 1, none⟩ = some (.int .i64 x.nd.2) := (hSw.cell (p := ⟨bA, oA + i * 7 + 1, none⟩) HGA.out).trans HX1.out; go_simp; try with_reducible rfl)
        refine tkW 5 (some 31) (v := ?_) ?_ hHeld ?_
        rotate_left
        · (intro ww _; go_simp; try with_reducible rfl)
        refine tkW 6 (some 32) (v := ?_) ?_ hHeld ?_
        rotate_left
        · (intro ww hSw; (try dsimp only at hSw); have q0 : ww.cell? ⟨b3, 0, none⟩ = some (.int .i64 r.nd.1) := (hSw.cell (p := ⟨b3, 0, none⟩) HQ.out.lt).trans (HQ.out.cell 0 _ rfl); have q1 : ww.cell? ⟨b3, 1, none⟩ = some (.int .i64 r.nd.2) := (hSw.cell (p := ⟨b3, 1, none⟩) HQ.out.lt).trans (HQ.out.cell 1 _ rfl); go_simp; try with_reducible rfl)
        refine tkW 7 (some 33) (v := .bool false) ?_ hHeld ?_
        · (intro ww hSw; (try dsimp only at hSw); have hn := HNx.out; go_simp; exact fun e1 e2 => hn ⟨e1, e2⟩)
        refine tkW 8 (some 34) (v := ?_) ?_ hHeld ?_
        rotate_left
        · (intro ww _; go_simp; try with_reducible rfl)
        refine tkU 9 (some 35) hHeld ?_
        refine tkU 10 (some 36) hHeld ?_
        refine tkU 11 (some 37) hHeld ?_
        refine tkU 12 (some 38) hHeld ?_
        refine tkU 13 (some 39) hHeld ?_
        refine tkU 14 (some 40) hHeld ?_
        refine tkU 15 (some 41) hHeld ?_
        refine tkU 16 (some 42) hHeld ?_
        refine tkW 17 (some 43) (v := ?_) ?_ hHeld ?_
        rotate_left
        · (intro ww _; go_simp; try with_reducible rfl)
        refine wpAnyH_done (by kernel_rfl) ?_ _
        clear hHeld
        have HPx : Hid (nek r A[i] = true) := (by show _ = _; rw [← HxE.out]; exact HPx0.out)
        go_wp2_with fail
        go_loopw [8] (fun kv wr2 => ∃ k : Nat, kv = .int .i64 (k : Int) ∧ k ≤ R.length ∧ Hid (Below wA.heap.size wA wr2) ∧ Hid ((A.take i).filter (nek r) = (R.take k).filter (nek r))) (fun kv _ => R.length - (intOf kv).toNat)
        case atStart => exact ⟨k, rfl, hk, HB, HIv⟩
        case round =>
          rename World => wq
          clear HB HIv hk
          obtain ⟨k, rfl, hk, HB, HIv⟩ := hrel
          by_cases hkt : k < R.length
          · obtain ⟨bD, oD, capD, ev, _, hbl, hrow⟩ := HRD.out.row7 (i := k) hkt
            injection ev with ev1 ev2 ev3
            subst ev1
            subst ev3
            obtain ⟨y, ey⟩ : ∃ y, y = R[k] := ⟨_, rfl⟩
            rw [← ey] at hrow
            have HGD : Hid (bD < wA.heap.size) := hbl
            have HY0 : Hid (wA.cell? ⟨bD, oD + k * 7, none⟩ = some (.int .i64 y.nd.1)) := hrow 0 _ rfl
            have HY1 : Hid (wA.cell? ⟨bD, oD + k * 7 + 1, none⟩ = some (.int .i64 y.nd.2)) := hrow 1 _ rfl
            have HY2 : Hid (wA.cell? ⟨bD, oD + k * 7 + 2, none⟩ = some (.string y.nm)) := hrow 2 _ rfl
            have HY3 : Hid (wA.cell? ⟨bD, oD + k * 7 + 3, none⟩ = some (.int .i64 y.at_.1)) := hrow 3 _ rfl
            have HY4 : Hid (wA.cell? ⟨bD, oD + k * 7 + 4, none⟩ = some (.int .i64 y.at_.2)) := hrow 4 _ rfl
            have HY5 : Hid (wA.cell? ⟨bD, oD + k * 7 + 5, none⟩ = some (.string y.vl)) := hrow 5 _ rfl
            have HY6 : Hid (wA.cell? ⟨bD, oD + k * 7 + 6, none⟩ = some (.bool y.gn)) := hrow 6 _ rfl
            have HyE : Hid (R[k]? = some y) := (by show _ = _; rw [ey]; exact List.getElem?_eq_getElem hkt)
            have d1 : (k : Int) < (R.length : Int) := by omega
            have d0 : (0 : Int) ≤ (k : Int) := by omega
            clear hrow hbl ey ev2
            by_cases hnd : y.nd.1 = r.nd.1 ∧ y.nd.2 = r.nd.2
            · have HNy : Hid (y.nd.1 = r.nd.1 ∧ y.nd.2 = r.nd.2) := hnd
              by_cases hnm : y.nm = r.nm
              · have HMy : Hid (y.nm = r.nm) := hnm
                clear hnd hnm
                go_wp2_with fail
                refine wp_region_held_drew (S := fun W' => Below wA.heap.size wA W') (by kernel_rfl) HB.out.drew (fun hHeld => ?_)
                obtain ⟨Ui3t19u0, eW⟩ : ∃ X, X = wq.drew := ⟨_, rfl⟩
                have hb : Below wq.heap.size wq Ui3t19u0 := by rw [eW]; exact (Below.refl _ _).drew
                replace HB : Hid (Below wA.heap.size wA Ui3t19u0) := HB.out.trans (hb.mono HB.out.size)
                rw [← eW] at hHeld ⊢
                clear eW hb
                refine tkW 0 (some 44) (v := ?_) ?_ hHeld ?_
                rotate_left
                · (intro ww _; go_simp; try with_reducible rfl)
                refine tkW 1 (some 45) (v := ?_) ?_ hHeld ?_
                rotate_left
                · (intro ww _; go_simp; try with_reducible rfl)
                refine tkW 2 (some 46) (v := ?_) ?_ hHeld ?_
                rotate_left
                · (intro ww hSw; (try dsimp only at hSw); go_simp; try with_reducible rfl)
                refine tkW 3 (some 47) (v := ?_) ?_ hHeld ?_
                rotate_left
                · (intro ww hSw; (try dsimp only at hSw); go_simp; try with_reducible rfl)
                refine tkW 4 (some 48) (v := ?_) ?_ hHeld ?_
                rotate_left
                · (intro ww _; go_simp; try with_reducible rfl)
                refine tkW 5 (some 49) (v := ?_) ?_ hHeld ?_
                rotate_left
                · (intro ww _; go_simp; try with_reducible rfl)
                refine tkW 6 (some 50) (v := ?_) ?_ hHeld ?_
                rotate_left
                · (intro ww _; go_simp; try with_reducible rfl)
                refine tkW 7 (some 51) (v := ?_) ?_ hHeld ?_
                rotate_left
                · (intro ww hSw; (try dsimp only at hSw); go_simp; try with_reducible rfl)
                refine tkW 8 (some 52) (v := ?_) ?_ hHeld ?_
                rotate_left
                · (intro ww _; go_simp; try with_reducible rfl)
                refine tkW 9 (some 53) (v := ?_) ?_ hHeld ?_
                rotate_left
                · (intro ww hSw; (try dsimp only at hSw); have d0 : ww.cell? ⟨bD, oD + k * 7, none⟩ = some (.int .i64 y.nd.1) := (hSw.cell (p := ⟨bD, oD + k * 7, none⟩) HGD.out).trans HY0.out; have d1 : ww.cell? ⟨bD, oD + k * 7 + 1, none⟩ = some (.int .i64 y.nd.2) := (hSw.cell (p := ⟨bD, oD + k * 7 + 1, none⟩) HGD.out).trans HY1.out; go_simp; try with_reducible rfl)
                refine tkW 10 (some 54) (v := ?_) ?_ hHeld ?_
                rotate_left
                · (intro ww _; go_simp; try with_reducible rfl)
                refine tkW 11 (some 55) (v := ?_) ?_ hHeld ?_
                rotate_left
                · (intro ww hSw; (try dsimp only at hSw); have q0 : ww.cell? ⟨b3, 0, none⟩ = some (.int .i64 r.nd.1) := (hSw.cell (p := ⟨b3, 0, none⟩) HQ.out.lt).trans (HQ.out.cell 0 _ rfl); have q1 : ww.cell? ⟨b3, 1, none⟩ = some (.int .i64 r.nd.2) := (hSw.cell (p := ⟨b3, 1, none⟩) HQ.out.lt).trans (HQ.out.cell 1 _ rfl); go_simp; try with_reducible rfl)
                refine tkW 12 (some 56) (v := .bool true) ?_ hHeld ?_
                · (intro ww hSw; (try dsimp only at hSw); have e1 := HNy.out.1; have e2 := HNy.out.2; go_simp; try simp [e1, e2])
                refine tkW 13 (some 57) (v := ?_) ?_ hHeld ?_
                rotate_left
                · (intro ww _; go_simp; try with_reducible rfl)
                refine tkW 14 (some 58) (v := ?_) ?_ hHeld ?_
                rotate_left
                · (intro ww _; go_simp; try with_reducible rfl)
                refine tkW 15 (some 59) (v := ?_) ?_ hHeld ?_
                rotate_left
                · (intro ww _; go_simp; try with_reducible rfl)
                refine tkW 16 (some 60) (v := ?_) ?_ hHeld ?_
                rotate_left
                · (intro ww _; go_simp; try with_reducible rfl)
                refine tkW 17 (some 61) (v := ?_) ?_ hHeld ?_
                rotate_left
                · (intro ww hSw; (try dsimp only at hSw); go_simp; try with_reducible rfl)
                refine tkW 18 (some 62) (v := ?_) ?_ hHeld ?_
                rotate_left
                · (intro ww _; go_simp; try with_reducible rfl)
                refine tkW 19 (some 63) (v := ?_) ?_ hHeld ?_
                rotate_left
                · (intro ww hSw; (try dsimp only at hSw); have d2 : ww.cell? ⟨bD, oD + k * 7 + 2, none⟩ = some (.string y.nm) := (hSw.cell (p := ⟨bD, oD + k * 7 + 2, none⟩) HGD.out).trans HY2.out; go_simp; try with_reducible rfl)
                refine tkW 20 (some 64) (v := ?_) ?_ hHeld ?_
                rotate_left
                · (intro ww _; go_simp; try with_reducible rfl)
                refine tkW 21 (some 65) (v := ?_) ?_ hHeld ?_
                rotate_left
                · (intro ww hSw; (try dsimp only at hSw); have q2 : ww.cell? ⟨b3, 2, none⟩ = some (.string r.nm) := (hSw.cell (p := ⟨b3, 2, none⟩) HQ.out.lt).trans (HQ.out.cell 2 _ rfl); go_simp; try with_reducible rfl)
                refine tkW 22 (some 66) (v := .bool true) ?_ hHeld ?_
                · (intro ww hSw; (try dsimp only at hSw); have hn := HMy.out; go_simp)
                refine tkW 23 (some 67) (v := ?_) ?_ hHeld ?_
                rotate_left
                · (intro ww _; go_simp; try with_reducible rfl)
                refine wpAnyH_done (by kernel_rfl) ?_ _
                clear hHeld
                go_wp2
                go_roundw
                case rel => exact ⟨k + 1, by go_num, by omega, HB, by (show (A.take i).filter (nek r) = (R.take (k + 1)).filter (nek r); rw [skip_at HyE.out (keyR_eq HNy.out HMy.out)]; exact HIv.out)⟩
                case measure => simp [intOf]; omega
              · have HMy : Hid (¬ y.nm = r.nm) := hnm
                clear hnd hnm
                go_wp2_with fail
                refine wp_region_held_drew (S := fun W' => Below wA.heap.size wA W') (by kernel_rfl) HB.out.drew (fun hHeld => ?_)
                obtain ⟨Ui3m20u0, eW⟩ : ∃ X, X = wq.drew := ⟨_, rfl⟩
                have hb : Below wq.heap.size wq Ui3m20u0 := by rw [eW]; exact (Below.refl _ _).drew
                replace HB : Hid (Below wA.heap.size wA Ui3m20u0) := HB.out.trans (hb.mono HB.out.size)
                rw [← eW] at hHeld ⊢
                clear eW hb
                refine tkW 0 (some 44) (v := ?_) ?_ hHeld ?_
                rotate_left
                · (intro ww _; go_simp; try with_reducible rfl)
                refine tkW 1 (some 45) (v := ?_) ?_ hHeld ?_
                rotate_left
                · (intro ww _; go_simp; try with_reducible rfl)
                refine tkW 2 (some 46) (v := ?_) ?_ hHeld ?_
                rotate_left
                · (intro ww hSw; (try dsimp only at hSw); go_simp; try with_reducible rfl)
                refine tkW 3 (some 47) (v := ?_) ?_ hHeld ?_
                rotate_left
                · (intro ww hSw; (try dsimp only at hSw); go_simp; try with_reducible rfl)
                refine tkW 4 (some 48) (v := ?_) ?_ hHeld ?_
                rotate_left
                · (intro ww _; go_simp; try with_reducible rfl)
                refine tkW 5 (some 49) (v := ?_) ?_ hHeld ?_
                rotate_left
                · (intro ww _; go_simp; try with_reducible rfl)
                refine tkW 6 (some 50) (v := ?_) ?_ hHeld ?_
                rotate_left
                · (intro ww _; go_simp; try with_reducible rfl)
                refine tkW 7 (some 51) (v := ?_) ?_ hHeld ?_
                rotate_left
                · (intro ww hSw; (try dsimp only at hSw); go_simp; try with_reducible rfl)
                refine tkW 8 (some 52) (v := ?_) ?_ hHeld ?_
                rotate_left
                · (intro ww _; go_simp; try with_reducible rfl)
                refine tkW 9 (some 53) (v := ?_) ?_ hHeld ?_
                rotate_left
                · (intro ww hSw; (try dsimp only at hSw); have d0 : ww.cell? ⟨bD, oD + k * 7, none⟩ = some (.int .i64 y.nd.1) := (hSw.cell (p := ⟨bD, oD + k * 7, none⟩) HGD.out).trans HY0.out; have d1 : ww.cell? ⟨bD, oD + k * 7 + 1, none⟩ = some (.int .i64 y.nd.2) := (hSw.cell (p := ⟨bD, oD + k * 7 + 1, none⟩) HGD.out).trans HY1.out; go_simp; try with_reducible rfl)
                refine tkW 10 (some 54) (v := ?_) ?_ hHeld ?_
                rotate_left
                · (intro ww _; go_simp; try with_reducible rfl)
                refine tkW 11 (some 55) (v := ?_) ?_ hHeld ?_
                rotate_left
                · (intro ww hSw; (try dsimp only at hSw); have q0 : ww.cell? ⟨b3, 0, none⟩ = some (.int .i64 r.nd.1) := (hSw.cell (p := ⟨b3, 0, none⟩) HQ.out.lt).trans (HQ.out.cell 0 _ rfl); have q1 : ww.cell? ⟨b3, 1, none⟩ = some (.int .i64 r.nd.2) := (hSw.cell (p := ⟨b3, 1, none⟩) HQ.out.lt).trans (HQ.out.cell 1 _ rfl); go_simp; try with_reducible rfl)
                refine tkW 12 (some 56) (v := .bool true) ?_ hHeld ?_
                · (intro ww hSw; (try dsimp only at hSw); have e1 := HNy.out.1; have e2 := HNy.out.2; go_simp; try simp [e1, e2])
                refine tkW 13 (some 57) (v := ?_) ?_ hHeld ?_
                rotate_left
                · (intro ww _; go_simp; try with_reducible rfl)
                refine tkW 14 (some 58) (v := ?_) ?_ hHeld ?_
                rotate_left
                · (intro ww _; go_simp; try with_reducible rfl)
                refine tkW 15 (some 59) (v := ?_) ?_ hHeld ?_
                rotate_left
                · (intro ww _; go_simp; try with_reducible rfl)
                refine tkW 16 (some 60) (v := ?_) ?_ hHeld ?_
                rotate_left
                · (intro ww _; go_simp; try with_reducible rfl)
                refine tkW 17 (some 61) (v := ?_) ?_ hHeld ?_
                rotate_left
                · (intro ww hSw; (try dsimp only at hSw); go_simp; try with_reducible rfl)
                refine tkW 18 (some 62) (v := ?_) ?_ hHeld ?_
                rotate_left
                · (intro ww _; go_simp; try with_reducible rfl)
                refine tkW 19 (some 63) (v := ?_) ?_ hHeld ?_
                rotate_left
                · (intro ww hSw; (try dsimp only at hSw); have d2 : ww.cell? ⟨bD, oD + k * 7 + 2, none⟩ = some (.string y.nm) := (hSw.cell (p := ⟨bD, oD + k * 7 + 2, none⟩) HGD.out).trans HY2.out; go_simp; try with_reducible rfl)
                refine tkW 20 (some 64) (v := ?_) ?_ hHeld ?_
                rotate_left
                · (intro ww _; go_simp; try with_reducible rfl)
                refine tkW 21 (some 65) (v := ?_) ?_ hHeld ?_
                rotate_left
                · (intro ww hSw; (try dsimp only at hSw); have q2 : ww.cell? ⟨b3, 2, none⟩ = some (.string r.nm) := (hSw.cell (p := ⟨b3, 2, none⟩) HQ.out.lt).trans (HQ.out.cell 2 _ rfl); go_simp; try with_reducible rfl)
                refine tkW 22 (some 66) (v := .bool false) ?_ hHeld ?_
                · (intro ww hSw; (try dsimp only at hSw); have hn := HMy.out; go_simp; exact fun e => hn (txt_inj e))
                refine tkW 23 (some 67) (v := ?_) ?_ hHeld ?_
                rotate_left
                · (intro ww _; go_simp; try with_reducible rfl)
                refine wpAnyH_done (by kernel_rfl) ?_ _
                clear hHeld
                have HPk : Hid (∀ y, R[k]? = some y → nek r y = true) := fun z hz => (by rw [HyE.out] at hz; cases hz; exact nek_nm HMy.out)
                obtain ⟨hkz, ez, hiv2⟩ := next_same HFl.out hlt HIv.out HPx.out HPk.out
                have HNx2 : Hid ((A.take (i + 1)).filter (nek r) = (R.take (k + 1)).filter (nek r)) := hiv2
                have hlen2 : R.length ≤ 200 := HLn.out
                have hyx : y = x := (by have h9 := HyE.out; rw [List.getElem?_eq_getElem hkz] at h9; injection h9 with h9; rw [← h9, ez]; exact HxE.out.symm)
                have HZ0 : Hid (wA.cell? ⟨bD, oD + k * 7, none⟩ = some (.int .i64 x.nd.1)) := (by rw [← hyx]; exact HY0.out)
                have HZ1 : Hid (wA.cell? ⟨bD, oD + k * 7 + 1, none⟩ = some (.int .i64 x.nd.2)) := (by rw [← hyx]; exact HY1.out)
                have HZ2 : Hid (wA.cell? ⟨bD, oD + k * 7 + 2, none⟩ = some (.string x.nm)) := (by rw [← hyx]; exact HY2.out)
                have HZ3 : Hid (wA.cell? ⟨bD, oD + k * 7 + 3, none⟩ = some (.int .i64 x.at_.1)) := (by rw [← hyx]; exact HY3.out)
                have HZ4 : Hid (wA.cell? ⟨bD, oD + k * 7 + 4, none⟩ = some (.int .i64 x.at_.2)) := (by rw [← hyx]; exact HY4.out)
                have HZ5 : Hid (wA.cell? ⟨bD, oD + k * 7 + 5, none⟩ = some (.string x.vl)) := (by rw [← hyx]; exact HY5.out)
                have HZ6 : Hid (wA.cell? ⟨bD, oD + k * 7 + 6, none⟩ = some (.bool x.gn)) := (by rw [← hyx]; exact HY6.out)
                have d5 : ¬ (k : Int) ≥ (R.length : Int) := by omega
                clear ez hiv2 hyx
                go_wp2_with fail
                refine wp_region_held_drew (S := fun W' => Below wA.heap.size wA W') (by kernel_rfl) HB.out.drew (fun hHeld => ?_)
                obtain ⟨Uz421u0, eW⟩ : ∃ X, X = Ui3m20u0.drew := ⟨_, rfl⟩
                have hb : Below Ui3m20u0.heap.size Ui3m20u0 Uz421u0 := by rw [eW]; exact (Below.refl _ _).drew
                replace HB : Hid (Below wA.heap.size wA Uz421u0) := HB.out.trans (hb.mono HB.out.size)
                rw [← eW] at hHeld ⊢
                clear eW hb
                refine tkW 0 (some 70) (v := ?_) ?_ hHeld ?_
                rotate_left
                · (intro ww _; go_simp; try with_reducible rfl)
                refine tkW 1 (some 71) (v := ?_) ?_ hHeld ?_
                rotate_left
                · (intro ww _; go_simp; try with_reducible rfl)
                refine tkW 2 (some 72) (v := ?_) ?_ hHeld ?_
                rotate_left
                · (intro ww hSw; (try dsimp only at hSw); go_simp; try with_reducible rfl)
                refine tkW 3 (some 73) (v := .bool false) ?_ hHeld ?_
                · (intro ww hSw; (try dsimp only at hSw); go_simp; try omega)
                refine tkW 4 (some 74) (v := ?_) ?_ hHeld ?_
                rotate_left
                · (intro ww _; go_simp; try with_reducible rfl)
                refine tkW 5 (some 75) (v := ?_) ?_ hHeld ?_
                rotate_left
                · (intro ww _; go_simp; try with_reducible rfl)
                refine tkW 6 (some 76) (v := ?_) ?_ hHeld ?_
                rotate_left
                · (intro ww _; go_simp; try with_reducible rfl)
                refine tkW 7 (some 77) (v := ?_) ?_ hHeld ?_
                rotate_left
                · (intro ww hSw; (try dsimp only at hSw); go_simp; try with_reducible rfl)
                refine tkW 8 (some 78) (v := ?_) ?_ hHeld ?_
                rotate_left
                · (intro ww hSw; (try dsimp only at hSw); have a0 : ww.cell? ⟨bA, oA + i * 7, none⟩ = some (.int .i64 x.nd.1) := (hSw.cell (p := ⟨bA, oA + i * 7, none⟩) HGA.out).trans HX0.out; have a1 : ww.cell? ⟨bA, oA + i * 7 + 1, none⟩ = some (.int .i64 x.nd.2) := (hSw.cell (p := ⟨bA, oA + i * 7 + 1, none⟩) HGA.out).trans HX1.out; have a2 : ww.cell? ⟨bA, oA + i * 7 + 2, none⟩ = some (.string x.nm) := (hSw.cell (p := ⟨bA, oA + i * 7 + 2, none⟩) HGA.out).trans HX2.out; have a3 : ww.cell? ⟨bA, oA + i * 7 + 3, none⟩ = some (.int .i64 x.at_.1) := (hSw.cell (p := ⟨bA, oA + i * 7 + 3, none⟩) HGA.out).trans HX3.out; have a4 : ww.cell? ⟨bA, oA + i * 7 + 4, none⟩ = some (.int .i64 x.at_.2) := (hSw.cell (p := ⟨bA, oA + i * 7 + 4, none⟩) HGA.out).trans HX4.out; have a5 : ww.cell? ⟨bA, oA + i * 7 + 5, none⟩ = some (.string x.vl) := (hSw.cell (p := ⟨bA, oA + i * 7 + 5, none⟩) HGA.out).trans HX5.out; have a6 : ww.cell? ⟨bA, oA + i * 7 + 6, none⟩ = some (.bool x.gn) := (hSw.cell (p := ⟨bA, oA + i * 7 + 6, none⟩) HGA.out).trans HX6.out; go_simp; try with_reducible rfl)
                refine tkW 9 (some 79) (v := ?_) ?_ hHeld ?_
                rotate_left
                · (intro ww _; go_simp; try with_reducible rfl)
                refine tkW 10 (some 80) (v := ?_) ?_ hHeld ?_
                rotate_left
                · (intro ww _; go_simp; try with_reducible rfl)
                refine tkW 11 (some 81) (v := ?_) ?_ hHeld ?_
                rotate_left
                · (intro ww hSw; (try dsimp only at hSw); go_simp; try with_reducible rfl)
                refine tkW 12 (some 82) (v := ?_) ?_ hHeld ?_
                rotate_left
                · (intro ww hSw; (try dsimp only at hSw); have d0 : ww.cell? ⟨bD, oD + k * 7, none⟩ = some (.int .i64 x.nd.1) := (hSw.cell (p := ⟨bD, oD + k * 7, none⟩) HGD.out).trans HZ0.out; have d1 : ww.cell? ⟨bD, oD + k * 7 + 1, none⟩ = some (.int .i64 x.nd.2) := (hSw.cell (p := ⟨bD, oD + k * 7 + 1, none⟩) HGD.out).trans HZ1.out; have d2 : ww.cell? ⟨bD, oD + k * 7 + 2, none⟩ = some (.string x.nm) := (hSw.cell (p := ⟨bD, oD + k * 7 + 2, none⟩) HGD.out).trans HZ2.out; have d3 : ww.cell? ⟨bD, oD + k * 7 + 3, none⟩ = some (.int .i64 x.at_.1) := (hSw.cell (p := ⟨bD, oD + k * 7 + 3, none⟩) HGD.out).trans HZ3.out; have d4 : ww.cell? ⟨bD, oD + k * 7 + 4, none⟩ = some (.int .i64 x.at_.2) := (hSw.cell (p := ⟨bD, oD + k * 7 + 4, none⟩) HGD.out).trans HZ4.out; have d5 : ww.cell? ⟨bD, oD + k * 7 + 5, none⟩ = some (.string x.vl) := (hSw.cell (p := ⟨bD, oD + k * 7 + 5, none⟩) HGD.out).trans HZ5.out; have d6 : ww.cell? ⟨bD, oD + k * 7 + 6, none⟩ = some (.bool x.gn) := (hSw.cell (p := ⟨bD, oD + k * 7 + 6, none⟩) HGD.out).trans HZ6.out; go_simp; try with_reducible rfl)
                refine tkW 13 (some 83) (v := .bool false) ?_ hHeld ?_
                · (intro ww hSw; (try dsimp only at hSw); exact (execNeq (p := x) (q := x) rfl rfl ww).trans (by simp))
                refine tkW 14 (some 84) (v := ?_) ?_ hHeld ?_
                rotate_left
                · (intro ww _; go_simp; try with_reducible rfl)
                refine wpAnyH_done (by kernel_rfl) ?_ _
                clear hHeld
                go_wp2
                go_roundw
                case rel => exact ⟨i + 1, k + 1, by go_num, by go_num, by omega, by omega, HB, HNx2⟩
                case measure => simp [intOf]; omega
            · have HNy : Hid (¬ (y.nd.1 = r.nd.1 ∧ y.nd.2 = r.nd.2)) := hnd
              clear hnd
              go_wp2_with fail
              refine wp_region_held_drew (S := fun W' => Below wA.heap.size wA W') (by kernel_rfl) HB.out.drew (fun hHeld => ?_)
              obtain ⟨Ui3n22u0, eW⟩ : ∃ X, X = wq.drew := ⟨_, rfl⟩
              have hb : Below wq.heap.size wq Ui3n22u0 := by rw [eW]; exact (Below.refl _ _).drew
              replace HB : Hid (Below wA.heap.size wA Ui3n22u0) := HB.out.trans (hb.mono HB.out.size)
              rw [← eW] at hHeld ⊢
              clear eW hb
              refine tkW 0 (some 44) (v := ?_) ?_ hHeld ?_
              rotate_left
              · (intro ww _; go_simp; try with_reducible rfl)
              refine tkW 1 (some 45) (v := ?_) ?_ hHeld ?_
              rotate_left
              · (intro ww _; go_simp; try with_reducible rfl)
              refine tkW 2 (some 46) (v := ?_) ?_ hHeld ?_
              rotate_left
              · (intro ww hSw; (try dsimp only at hSw); go_simp; try with_reducible rfl)
              refine tkW 3 (some 47) (v := ?_) ?_ hHeld ?_
              rotate_left
              · (intro ww hSw; (try dsimp only at hSw); go_simp; try with_reducible rfl)
              refine tkW 4 (some 48) (v := ?_) ?_ hHeld ?_
              rotate_left
              · (intro ww _; go_simp; try with_reducible rfl)
              refine tkW 5 (some 49) (v := ?_) ?_ hHeld ?_
              rotate_left
              · (intro ww _; go_simp; try with_reducible rfl)
              refine tkW 6 (some 50) (v := ?_) ?_ hHeld ?_
              rotate_left
              · (intro ww _; go_simp; try with_reducible rfl)
              refine tkW 7 (some 51) (v := ?_) ?_ hHeld ?_
              rotate_left
              · (intro ww hSw; (try dsimp only at hSw); go_simp; try with_reducible rfl)
              refine tkW 8 (some 52) (v := ?_) ?_ hHeld ?_
              rotate_left
              · (intro ww _; go_simp; try with_reducible rfl)
              refine tkW 9 (some 53) (v := ?_) ?_ hHeld ?_
              rotate_left
              · (intro ww hSw; (try dsimp only at hSw); have d0 : ww.cell? ⟨bD, oD + k * 7, none⟩ = some (.int .i64 y.nd.1) := (hSw.cell (p := ⟨bD, oD + k * 7, none⟩) HGD.out).trans HY0.out; have d1 : ww.cell? ⟨bD, oD + k * 7 + 1, none⟩ = some (.int .i64 y.nd.2) := (hSw.cell (p := ⟨bD, oD + k * 7 + 1, none⟩) HGD.out).trans HY1.out; go_simp; try with_reducible rfl)
              refine tkW 10 (some 54) (v := ?_) ?_ hHeld ?_
              rotate_left
              · (intro ww _; go_simp; try with_reducible rfl)
              refine tkW 11 (some 55) (v := ?_) ?_ hHeld ?_
              rotate_left
              · (intro ww hSw; (try dsimp only at hSw); have q0 : ww.cell? ⟨b3, 0, none⟩ = some (.int .i64 r.nd.1) := (hSw.cell (p := ⟨b3, 0, none⟩) HQ.out.lt).trans (HQ.out.cell 0 _ rfl); have q1 : ww.cell? ⟨b3, 1, none⟩ = some (.int .i64 r.nd.2) := (hSw.cell (p := ⟨b3, 1, none⟩) HQ.out.lt).trans (HQ.out.cell 1 _ rfl); go_simp; try with_reducible rfl)
              refine tkW 12 (some 56) (v := .bool false) ?_ hHeld ?_
              · (intro ww hSw; (try dsimp only at hSw); have hn := HNy.out; go_simp; exact fun e1 e2 => hn ⟨e1, e2⟩)
              refine tkW 13 (some 57) (v := ?_) ?_ hHeld ?_
              rotate_left
              · (intro ww _; go_simp; try with_reducible rfl)
              refine tkW 14 (some 58) (v := ?_) ?_ hHeld ?_
              rotate_left
              · (intro ww _; go_simp; try with_reducible rfl)
              refine tkU 15 (some 59) hHeld ?_
              refine tkU 16 (some 60) hHeld ?_
              refine tkU 17 (some 61) hHeld ?_
              refine tkU 18 (some 62) hHeld ?_
              refine tkU 19 (some 63) hHeld ?_
              refine tkU 20 (some 64) hHeld ?_
              refine tkU 21 (some 65) hHeld ?_
              refine tkU 22 (some 66) hHeld ?_
              refine tkW 23 (some 67) (v := ?_) ?_ hHeld ?_
              rotate_left
              · (intro ww _; go_simp; try with_reducible rfl)
              refine wpAnyH_done (by kernel_rfl) ?_ _
              clear hHeld
              have HPk : Hid (∀ y, R[k]? = some y → nek r y = true) := fun z hz => (by rw [HyE.out] at hz; cases hz; exact nek_nd HNy.out)
              obtain ⟨hkz, ez, hiv2⟩ := next_same HFl.out hlt HIv.out HPx.out HPk.out
              have HNx2 : Hid ((A.take (i + 1)).filter (nek r) = (R.take (k + 1)).filter (nek r)) := hiv2
              have hlen2 : R.length ≤ 200 := HLn.out
              have hyx : y = x := (by have h9 := HyE.out; rw [List.getElem?_eq_getElem hkz] at h9; injection h9 with h9; rw [← h9, ez]; exact HxE.out.symm)
              have HZ0 : Hid (wA.cell? ⟨bD, oD + k * 7, none⟩ = some (.int .i64 x.nd.1)) := (by rw [← hyx]; exact HY0.out)
              have HZ1 : Hid (wA.cell? ⟨bD, oD + k * 7 + 1, none⟩ = some (.int .i64 x.nd.2)) := (by rw [← hyx]; exact HY1.out)
              have HZ2 : Hid (wA.cell? ⟨bD, oD + k * 7 + 2, none⟩ = some (.string x.nm)) := (by rw [← hyx]; exact HY2.out)
              have HZ3 : Hid (wA.cell? ⟨bD, oD + k * 7 + 3, none⟩ = some (.int .i64 x.at_.1)) := (by rw [← hyx]; exact HY3.out)
              have HZ4 : Hid (wA.cell? ⟨bD, oD + k * 7 + 4, none⟩ = some (.int .i64 x.at_.2)) := (by rw [← hyx]; exact HY4.out)
              have HZ5 : Hid (wA.cell? ⟨bD, oD + k * 7 + 5, none⟩ = some (.string x.vl)) := (by rw [← hyx]; exact HY5.out)
              have HZ6 : Hid (wA.cell? ⟨bD, oD + k * 7 + 6, none⟩ = some (.bool x.gn)) := (by rw [← hyx]; exact HY6.out)
              have d5 : ¬ (k : Int) ≥ (R.length : Int) := by omega
              clear ez hiv2 hyx
              go_wp2_with fail
              refine wp_region_held_drew (S := fun W' => Below wA.heap.size wA W') (by kernel_rfl) HB.out.drew (fun hHeld => ?_)
              obtain ⟨Uz523u0, eW⟩ : ∃ X, X = Ui3n22u0.drew := ⟨_, rfl⟩
              have hb : Below Ui3n22u0.heap.size Ui3n22u0 Uz523u0 := by rw [eW]; exact (Below.refl _ _).drew
              replace HB : Hid (Below wA.heap.size wA Uz523u0) := HB.out.trans (hb.mono HB.out.size)
              rw [← eW] at hHeld ⊢
              clear eW hb
              refine tkW 0 (some 70) (v := ?_) ?_ hHeld ?_
              rotate_left
              · (intro ww _; go_simp; try with_reducible rfl)
              refine tkW 1 (some 71) (v := ?_) ?_ hHeld ?_
              rotate_left
              · (intro ww _; go_simp; try with_reducible rfl)
              refine tkW 2 (some 72) (v := ?_) ?_ hHeld ?_
              rotate_left
              · (intro ww hSw; (try dsimp only at hSw); go_simp; try with_reducible rfl)
              refine tkW 3 (some 73) (v := .bool false) ?_ hHeld ?_
              · (intro ww hSw; (try dsimp only at hSw); go_simp; try omega)
              refine tkW 4 (some 74) (v := ?_) ?_ hHeld ?_
              rotate_left
              · (intro ww _; go_simp; try with_reducible rfl)
              refine tkW 5 (some 75) (v := ?_) ?_ hHeld ?_
              rotate_left
              · (intro ww _; go_simp; try with_reducible rfl)
              refine tkW 6 (some 76) (v := ?_) ?_ hHeld ?_
              rotate_left
              · (intro ww _; go_simp; try with_reducible rfl)
              refine tkW 7 (some 77) (v := ?_) ?_ hHeld ?_
              rotate_left
              · (intro ww hSw; (try dsimp only at hSw); go_simp; try with_reducible rfl)
              refine tkW 8 (some 78) (v := ?_) ?_ hHeld ?_
              rotate_left
              · (intro ww hSw; (try dsimp only at hSw); have a0 : ww.cell? ⟨bA, oA + i * 7, none⟩ = some (.int .i64 x.nd.1) := (hSw.cell (p := ⟨bA, oA + i * 7, none⟩) HGA.out).trans HX0.out; have a1 : ww.cell? ⟨bA, oA + i * 7 + 1, none⟩ = some (.int .i64 x.nd.2) := (hSw.cell (p := ⟨bA, oA + i * 7 + 1, none⟩) HGA.out).trans HX1.out; have a2 : ww.cell? ⟨bA, oA + i * 7 + 2, none⟩ = some (.string x.nm) := (hSw.cell (p := ⟨bA, oA + i * 7 + 2, none⟩) HGA.out).trans HX2.out; have a3 : ww.cell? ⟨bA, oA + i * 7 + 3, none⟩ = some (.int .i64 x.at_.1) := (hSw.cell (p := ⟨bA, oA + i * 7 + 3, none⟩) HGA.out).trans HX3.out; have a4 : ww.cell? ⟨bA, oA + i * 7 + 4, none⟩ = some (.int .i64 x.at_.2) := (hSw.cell (p := ⟨bA, oA + i * 7 + 4, none⟩) HGA.out).trans HX4.out; have a5 : ww.cell? ⟨bA, oA + i * 7 + 5, none⟩ = some (.string x.vl) := (hSw.cell (p := ⟨bA, oA + i * 7 + 5, none⟩) HGA.out).trans HX5.out; have a6 : ww.cell? ⟨bA, oA + i * 7 + 6, none⟩ = some (.bool x.gn) := (hSw.cell (p := ⟨bA, oA + i * 7 + 6, none⟩) HGA.out).trans HX6.out; go_simp; try with_reducible rfl)
              refine tkW 9 (some 79) (v := ?_) ?_ hHeld ?_
              rotate_left
              · (intro ww _; go_simp; try with_reducible rfl)
              refine tkW 10 (some 80) (v := ?_) ?_ hHeld ?_
              rotate_left
              · (intro ww _; go_simp; try with_reducible rfl)
              refine tkW 11 (some 81) (v := ?_) ?_ hHeld ?_
              rotate_left
              · (intro ww hSw; (try dsimp only at hSw); go_simp; try with_reducible rfl)
              refine tkW 12 (some 82) (v := ?_) ?_ hHeld ?_
              rotate_left
              · (intro ww hSw; (try dsimp only at hSw); have d0 : ww.cell? ⟨bD, oD + k * 7, none⟩ = some (.int .i64 x.nd.1) := (hSw.cell (p := ⟨bD, oD + k * 7, none⟩) HGD.out).trans HZ0.out; have d1 : ww.cell? ⟨bD, oD + k * 7 + 1, none⟩ = some (.int .i64 x.nd.2) := (hSw.cell (p := ⟨bD, oD + k * 7 + 1, none⟩) HGD.out).trans HZ1.out; have d2 : ww.cell? ⟨bD, oD + k * 7 + 2, none⟩ = some (.string x.nm) := (hSw.cell (p := ⟨bD, oD + k * 7 + 2, none⟩) HGD.out).trans HZ2.out; have d3 : ww.cell? ⟨bD, oD + k * 7 + 3, none⟩ = some (.int .i64 x.at_.1) := (hSw.cell (p := ⟨bD, oD + k * 7 + 3, none⟩) HGD.out).trans HZ3.out; have d4 : ww.cell? ⟨bD, oD + k * 7 + 4, none⟩ = some (.int .i64 x.at_.2) := (hSw.cell (p := ⟨bD, oD + k * 7 + 4, none⟩) HGD.out).trans HZ4.out; have d5 : ww.cell? ⟨bD, oD + k * 7 + 5, none⟩ = some (.string x.vl) := (hSw.cell (p := ⟨bD, oD + k * 7 + 5, none⟩) HGD.out).trans HZ5.out; have d6 : ww.cell? ⟨bD, oD + k * 7 + 6, none⟩ = some (.bool x.gn) := (hSw.cell (p := ⟨bD, oD + k * 7 + 6, none⟩) HGD.out).trans HZ6.out; go_simp; try with_reducible rfl)
              refine tkW 13 (some 83) (v := .bool false) ?_ hHeld ?_
              · (intro ww hSw; (try dsimp only at hSw); exact (execNeq (p := x) (q := x) rfl rfl ww).trans (by simp))
              refine tkW 14 (some 84) (v := ?_) ?_ hHeld ?_
              rotate_left
              · (intro ww _; go_simp; try with_reducible rfl)
              refine wpAnyH_done (by kernel_rfl) ?_ _
              clear hHeld
              go_wp2
              go_roundw
              case rel => exact ⟨i + 1, k + 1, by go_num, by go_num, by omega, by omega, HB, HNx2⟩
              case measure => simp [intOf]; omega
          · have d1 : ¬ (k : Int) < (R.length : Int) := by omega
            go_wp2_with fail
            refine wp_region_held_drew (S := fun W' => Below wA.heap.size wA W') (by kernel_rfl) HB.out.drew (fun hHeld => ?_)
            obtain ⟨Ui3e24u0, eW⟩ : ∃ X, X = wq.drew := ⟨_, rfl⟩
            have hb : Below wq.heap.size wq Ui3e24u0 := by rw [eW]; exact (Below.refl _ _).drew
            replace HB : Hid (Below wA.heap.size wA Ui3e24u0) := HB.out.trans (hb.mono HB.out.size)
            rw [← eW] at hHeld ⊢
            clear eW hb
            refine tkW 0 (some 44) (v := ?_) ?_ hHeld ?_
            rotate_left
            · (intro ww _; go_simp; try with_reducible rfl)
            refine tkW 1 (some 45) (v := ?_) ?_ hHeld ?_
            rotate_left
            · (intro ww _; go_simp; try with_reducible rfl)
            refine tkW 2 (some 46) (v := ?_) ?_ hHeld ?_
            rotate_left
            · (intro ww hSw; (try dsimp only at hSw); go_simp; try with_reducible rfl)
            refine tkW 3 (some 47) (v := ?_) ?_ hHeld ?_
            rotate_left
            · (intro ww hSw; (try dsimp only at hSw); go_simp; try with_reducible rfl)
            refine tkW 4 (some 48) (v := ?_) ?_ hHeld ?_
            rotate_left
            · (intro ww _; go_simp; try with_reducible rfl)
            refine tkU 5 (some 49) hHeld ?_
            refine tkU 6 (some 50) hHeld ?_
            refine tkU 7 (some 51) hHeld ?_
            refine tkU 8 (some 52) hHeld ?_
            refine tkU 9 (some 53) hHeld ?_
            refine tkU 10 (some 54) hHeld ?_
            refine tkU 11 (some 55) hHeld ?_
            refine tkU 12 (some 56) hHeld ?_
            refine tkW 13 (some 57) (v := ?_) ?_ hHeld ?_
            rotate_left
            · (intro ww _; go_simp; try with_reducible rfl)
            refine tkW 14 (some 58) (v := ?_) ?_ hHeld ?_
            rotate_left
            · (intro ww _; go_simp; try with_reducible rfl)
            refine tkU 15 (some 59) hHeld ?_
            refine tkU 16 (some 60) hHeld ?_
            refine tkU 17 (some 61) hHeld ?_
            refine tkU 18 (some 62) hHeld ?_
            refine tkU 19 (some 63) hHeld ?_
            refine tkU 20 (some 64) hHeld ?_
            refine tkU 21 (some 65) hHeld ?_
            refine tkU 22 (some 66) hHeld ?_
            refine tkW 23 (some 67) (v := ?_) ?_ hHeld ?_
            rotate_left
            · (intro ww _; go_simp; try with_reducible rfl)
            refine wpAnyH_done (by kernel_rfl) ?_ _
            clear hHeld
            have HPk : Hid (∀ y, R[k]? = some y → nek r y = true) := fun z hz => (by rw [List.getElem?_eq_none (by omega)] at hz; cases hz)
            obtain ⟨hkz, ez, hiv2⟩ := next_same HFl.out hlt HIv.out HPx.out HPk.out
            exact absurd hkz hkt
    · have a1 : ¬ (i : Int) < (A.length : Int) := by omega
      replace HIv : Hid (A.filter (nek r) = (R.take k).filter (nek r)) := (by have h9 := HIv.out; rw [List.take_of_length_le (by omega)] at h9; exact h9)
      go_wp2_with fail
      go_loopw [8] (fun kv wr2 => ∃ k : Nat, kv = .int .i64 (k : Int) ∧ k ≤ R.length ∧ Hid (Below wA.heap.size wA wr2) ∧ Hid (A.filter (nek r) = (R.take k).filter (nek r))) (fun kv _ => R.length - (intOf kv).toNat)
      case atStart => exact ⟨k, rfl, hk, HB, HIv⟩
      case round =>
        rename World => wq
        clear HB HIv hk
        obtain ⟨k, rfl, hk, HB, HIv⟩ := hrel
        by_cases hkt : k < R.length
        · obtain ⟨bD, oD, capD, ev, _, hbl, hrow⟩ := HRD.out.row7 (i := k) hkt
          injection ev with ev1 ev2 ev3
          subst ev1
          subst ev3
          obtain ⟨y, ey⟩ : ∃ y, y = R[k] := ⟨_, rfl⟩
          rw [← ey] at hrow
          have HGD : Hid (bD < wA.heap.size) := hbl
          have HY0 : Hid (wA.cell? ⟨bD, oD + k * 7, none⟩ = some (.int .i64 y.nd.1)) := hrow 0 _ rfl
          have HY1 : Hid (wA.cell? ⟨bD, oD + k * 7 + 1, none⟩ = some (.int .i64 y.nd.2)) := hrow 1 _ rfl
          have HY2 : Hid (wA.cell? ⟨bD, oD + k * 7 + 2, none⟩ = some (.string y.nm)) := hrow 2 _ rfl
          have HY3 : Hid (wA.cell? ⟨bD, oD + k * 7 + 3, none⟩ = some (.int .i64 y.at_.1)) := hrow 3 _ rfl
          have HY4 : Hid (wA.cell? ⟨bD, oD + k * 7 + 4, none⟩ = some (.int .i64 y.at_.2)) := hrow 4 _ rfl
          have HY5 : Hid (wA.cell? ⟨bD, oD + k * 7 + 5, none⟩ = some (.string y.vl)) := hrow 5 _ rfl
          have HY6 : Hid (wA.cell? ⟨bD, oD + k * 7 + 6, none⟩ = some (.bool y.gn)) := hrow 6 _ rfl
          have HyE : Hid (R[k]? = some y) := (by show _ = _; rw [ey]; exact List.getElem?_eq_getElem hkt)
          have d1 : (k : Int) < (R.length : Int) := by omega
          have d0 : (0 : Int) ≤ (k : Int) := by omega
          clear hrow hbl ey ev2
          by_cases hnd : y.nd.1 = r.nd.1 ∧ y.nd.2 = r.nd.2
          · have HNy : Hid (y.nd.1 = r.nd.1 ∧ y.nd.2 = r.nd.2) := hnd
            by_cases hnm : y.nm = r.nm
            · have HMy : Hid (y.nm = r.nm) := hnm
              clear hnd hnm
              go_wp2_with fail
              refine wp_region_held_drew (S := fun W' => Below wA.heap.size wA W') (by kernel_rfl) HB.out.drew (fun hHeld => ?_)
              obtain ⟨Ujt25u0, eW⟩ : ∃ X, X = wq.drew := ⟨_, rfl⟩
              have hb : Below wq.heap.size wq Ujt25u0 := by rw [eW]; exact (Below.refl _ _).drew
              replace HB : Hid (Below wA.heap.size wA Ujt25u0) := HB.out.trans (hb.mono HB.out.size)
              rw [← eW] at hHeld ⊢
              clear eW hb
              refine tkW 0 (some 87) (v := ?_) ?_ hHeld ?_
              rotate_left
              · (intro ww _; go_simp; try with_reducible rfl)
              refine tkW 1 (some 88) (v := ?_) ?_ hHeld ?_
              rotate_left
              · (intro ww _; go_simp; try with_reducible rfl)
              refine tkW 2 (some 89) (v := ?_) ?_ hHeld ?_
              rotate_left
              · (intro ww hSw; (try dsimp only at hSw); go_simp; try with_reducible rfl)
              refine tkW 3 (some 90) (v := ?_) ?_ hHeld ?_
              rotate_left
              · (intro ww hSw; (try dsimp only at hSw); go_simp; try with_reducible rfl)
              refine tkW 4 (some 91) (v := ?_) ?_ hHeld ?_
              rotate_left
              · (intro ww _; go_simp; try with_reducible rfl)
              refine tkW 5 (some 92) (v := ?_) ?_ hHeld ?_
              rotate_left
              · (intro ww _; go_simp; try with_reducible rfl)
              refine tkW 6 (some 93) (v := ?_) ?_ hHeld ?_
              rotate_left
              · (intro ww _; go_simp; try with_reducible rfl)
              refine tkW 7 (some 94) (v := ?_) ?_ hHeld ?_
              rotate_left
              · (intro ww hSw; (try dsimp only at hSw); go_simp; try with_reducible rfl)
              refine tkW 8 (some 95) (v := ?_) ?_ hHeld ?_
              rotate_left
              · (intro ww _; go_simp; try with_reducible rfl)
              refine tkW 9 (some 96) (v := ?_) ?_ hHeld ?_
              rotate_left
              · (intro ww hSw; (try dsimp only at hSw); have d0 : ww.cell? ⟨bD, oD + k * 7, none⟩ = some (.int .i64 y.nd.1) := (hSw.cell (p := ⟨bD, oD + k * 7, none⟩) HGD.out).trans HY0.out; have d1 : ww.cell? ⟨bD, oD + k * 7 + 1, none⟩ = some (.int .i64 y.nd.2) := (hSw.cell (p := ⟨bD, oD + k * 7 + 1, none⟩) HGD.out).trans HY1.out; go_simp; try with_reducible rfl)
              refine tkW 10 (some 97) (v := ?_) ?_ hHeld ?_
              rotate_left
              · (intro ww _; go_simp; try with_reducible rfl)
              refine tkW 11 (some 98) (v := ?_) ?_ hHeld ?_
              rotate_left
              · (intro ww hSw; (try dsimp only at hSw); have q0 : ww.cell? ⟨b3, 0, none⟩ = some (.int .i64 r.nd.1) := (hSw.cell (p := ⟨b3, 0, none⟩) HQ.out.lt).trans (HQ.out.cell 0 _ rfl); have q1 : ww.cell? ⟨b3, 1, none⟩ = some (.int .i64 r.nd.2) := (hSw.cell (p := ⟨b3, 1, none⟩) HQ.out.lt).trans (HQ.out.cell 1 _ rfl); go_simp; try with_reducible rfl)
              refine tkW 12 (some 99) (v := .bool true) ?_ hHeld ?_
              · (intro ww hSw; (try dsimp only at hSw); have e1 := HNy.out.1; have e2 := HNy.out.2; go_simp; try simp [e1, e2])
              refine tkW 13 (some 100) (v := ?_) ?_ hHeld ?_
              rotate_left
              · (intro ww _; go_simp; try with_reducible rfl)
              refine tkW 14 (some 101) (v := ?_) ?_ hHeld ?_
              rotate_left
              · (intro ww _; go_simp; try with_reducible rfl)
              refine tkW 15 (some 102) (v := ?_) ?_ hHeld ?_
              rotate_left
              · (intro ww _; go_simp; try with_reducible rfl)
              refine tkW 16 (some 103) (v := ?_) ?_ hHeld ?_
              rotate_left
              · (intro ww _; go_simp; try with_reducible rfl)
              refine tkW 17 (some 104) (v := ?_) ?_ hHeld ?_
              rotate_left
              · (intro ww hSw; (try dsimp only at hSw); go_simp; try with_reducible rfl)
              refine tkW 18 (some 105) (v := ?_) ?_ hHeld ?_
              rotate_left
              · (intro ww _; go_simp; try with_reducible rfl)
              refine tkW 19 (some 106) (v := ?_) ?_ hHeld ?_
              rotate_left
              · (intro ww hSw; (try dsimp only at hSw); have d2 : ww.cell? ⟨bD, oD + k * 7 + 2, none⟩ = some (.string y.nm) := (hSw.cell (p := ⟨bD, oD + k * 7 + 2, none⟩) HGD.out).trans HY2.out; go_simp; try with_reducible rfl)
              refine tkW 20 (some 107) (v := ?_) ?_ hHeld ?_
              rotate_left
              · (intro ww _; go_simp; try with_reducible rfl)
              refine tkW 21 (some 108) (v := ?_) ?_ hHeld ?_
              rotate_left
              · (intro ww hSw; (try dsimp only at hSw); have q2 : ww.cell? ⟨b3, 2, none⟩ = some (.string r.nm) := (hSw.cell (p := ⟨b3, 2, none⟩) HQ.out.lt).trans (HQ.out.cell 2 _ rfl); go_simp; try with_reducible rfl)
              refine tkW 22 (some 109) (v := .bool true) ?_ hHeld ?_
              · (intro ww hSw; (try dsimp only at hSw); have hn := HMy.out; go_simp)
              refine tkW 23 (some 110) (v := ?_) ?_ hHeld ?_
              rotate_left
              · (intro ww _; go_simp; try with_reducible rfl)
              refine wpAnyH_done (by kernel_rfl) ?_ _
              clear hHeld
              go_wp2
              go_roundw
              case rel => exact ⟨k + 1, by go_num, by omega, HB, by (show A.filter (nek r) = (R.take (k + 1)).filter (nek r); rw [skip_at HyE.out (keyR_eq HNy.out HMy.out)]; exact HIv.out)⟩
              case measure => simp [intOf]; omega
            · have HMy : Hid (¬ y.nm = r.nm) := hnm
              clear hnd hnm
              go_wp2_with fail
              refine wp_region_held_drew (S := fun W' => Below wA.heap.size wA W') (by kernel_rfl) HB.out.drew (fun hHeld => ?_)
              obtain ⟨Ujm26u0, eW⟩ : ∃ X, X = wq.drew := ⟨_, rfl⟩
              have hb : Below wq.heap.size wq Ujm26u0 := by rw [eW]; exact (Below.refl _ _).drew
              replace HB : Hid (Below wA.heap.size wA Ujm26u0) := HB.out.trans (hb.mono HB.out.size)
              rw [← eW] at hHeld ⊢
              clear eW hb
              refine tkW 0 (some 87) (v := ?_) ?_ hHeld ?_
              rotate_left
              · (intro ww _; go_simp; try with_reducible rfl)
              refine tkW 1 (some 88) (v := ?_) ?_ hHeld ?_
              rotate_left
              · (intro ww _; go_simp; try with_reducible rfl)
              refine tkW 2 (some 89) (v := ?_) ?_ hHeld ?_
              rotate_left
              · (intro ww hSw; (try dsimp only at hSw); go_simp; try with_reducible rfl)
              refine tkW 3 (some 90) (v := ?_) ?_ hHeld ?_
              rotate_left
              · (intro ww hSw; (try dsimp only at hSw); go_simp; try with_reducible rfl)
              refine tkW 4 (some 91) (v := ?_) ?_ hHeld ?_
              rotate_left
              · (intro ww _; go_simp; try with_reducible rfl)
              refine tkW 5 (some 92) (v := ?_) ?_ hHeld ?_
              rotate_left
              · (intro ww _; go_simp; try with_reducible rfl)
              refine tkW 6 (some 93) (v := ?_) ?_ hHeld ?_
              rotate_left
              · (intro ww _; go_simp; try with_reducible rfl)
              refine tkW 7 (some 94) (v := ?_) ?_ hHeld ?_
              rotate_left
              · (intro ww hSw; (try dsimp only at hSw); go_simp; try with_reducible rfl)
              refine tkW 8 (some 95) (v := ?_) ?_ hHeld ?_
              rotate_left
              · (intro ww _; go_simp; try with_reducible rfl)
              refine tkW 9 (some 96) (v := ?_) ?_ hHeld ?_
              rotate_left
              · (intro ww hSw; (try dsimp only at hSw); have d0 : ww.cell? ⟨bD, oD + k * 7, none⟩ = some (.int .i64 y.nd.1) := (hSw.cell (p := ⟨bD, oD + k * 7, none⟩) HGD.out).trans HY0.out; have d1 : ww.cell? ⟨bD, oD + k * 7 + 1, none⟩ = some (.int .i64 y.nd.2) := (hSw.cell (p := ⟨bD, oD + k * 7 + 1, none⟩) HGD.out).trans HY1.out; go_simp; try with_reducible rfl)
              refine tkW 10 (some 97) (v := ?_) ?_ hHeld ?_
              rotate_left
              · (intro ww _; go_simp; try with_reducible rfl)
              refine tkW 11 (some 98) (v := ?_) ?_ hHeld ?_
              rotate_left
              · (intro ww hSw; (try dsimp only at hSw); have q0 : ww.cell? ⟨b3, 0, none⟩ = some (.int .i64 r.nd.1) := (hSw.cell (p := ⟨b3, 0, none⟩) HQ.out.lt).trans (HQ.out.cell 0 _ rfl); have q1 : ww.cell? ⟨b3, 1, none⟩ = some (.int .i64 r.nd.2) := (hSw.cell (p := ⟨b3, 1, none⟩) HQ.out.lt).trans (HQ.out.cell 1 _ rfl); go_simp; try with_reducible rfl)
              refine tkW 12 (some 99) (v := .bool true) ?_ hHeld ?_
              · (intro ww hSw; (try dsimp only at hSw); have e1 := HNy.out.1; have e2 := HNy.out.2; go_simp; try simp [e1, e2])
              refine tkW 13 (some 100) (v := ?_) ?_ hHeld ?_
              rotate_left
              · (intro ww _; go_simp; try with_reducible rfl)
              refine tkW 14 (some 101) (v := ?_) ?_ hHeld ?_
              rotate_left
              · (intro ww _; go_simp; try with_reducible rfl)
              refine tkW 15 (some 102) (v := ?_) ?_ hHeld ?_
              rotate_left
              · (intro ww _; go_simp; try with_reducible rfl)
              refine tkW 16 (some 103) (v := ?_) ?_ hHeld ?_
              rotate_left
              · (intro ww _; go_simp; try with_reducible rfl)
              refine tkW 17 (some 104) (v := ?_) ?_ hHeld ?_
              rotate_left
              · (intro ww hSw; (try dsimp only at hSw); go_simp; try with_reducible rfl)
              refine tkW 18 (some 105) (v := ?_) ?_ hHeld ?_
              rotate_left
              · (intro ww _; go_simp; try with_reducible rfl)
              refine tkW 19 (some 106) (v := ?_) ?_ hHeld ?_
              rotate_left
              · (intro ww hSw; (try dsimp only at hSw); have d2 : ww.cell? ⟨bD, oD + k * 7 + 2, none⟩ = some (.string y.nm) := (hSw.cell (p := ⟨bD, oD + k * 7 + 2, none⟩) HGD.out).trans HY2.out; go_simp; try with_reducible rfl)
              refine tkW 20 (some 107) (v := ?_) ?_ hHeld ?_
              rotate_left
              · (intro ww _; go_simp; try with_reducible rfl)
              refine tkW 21 (some 108) (v := ?_) ?_ hHeld ?_
              rotate_left
              · (intro ww hSw; (try dsimp only at hSw); have q2 : ww.cell? ⟨b3, 2, none⟩ = some (.string r.nm) := (hSw.cell (p := ⟨b3, 2, none⟩) HQ.out.lt).trans (HQ.out.cell 2 _ rfl); go_simp; try with_reducible rfl)
              refine tkW 22 (some 109) (v := .bool false) ?_ hHeld ?_
              · (intro ww hSw; (try dsimp only at hSw); have hn := HMy.out; go_simp; exact fun e => hn (txt_inj e))
              refine tkW 23 (some 110) (v := ?_) ?_ hHeld ?_
              rotate_left
              · (intro ww _; go_simp; try with_reducible rfl)
              refine wpAnyH_done (by kernel_rfl) ?_ _
              clear hHeld
              have HPk : Hid (∀ y, R[k]? = some y → nek r y = true) := fun z hz => (by rw [HyE.out] at hz; cases hz; exact nek_nm HMy.out)
              have hke : k = R.length := (by rcases Nat.lt_or_ge k R.length with h9 | h9; exact absurd (HPk.out _ (List.getElem?_eq_getElem h9)) (by rw [end_same HFl.out HIv.out h9]; simp); omega)
              have d3 : ((k : Int) == (R.length : Int)) = true := by simp [hke]
              clear HPk
              go_wp2_with fail
              refine (awake_any _).mono ?_
              rintro e w6 ⟨rfl, hb⟩
              replace HB : Hid (Below wA.heap.size wA w6) := HB.out.trans (hb.mono HB.out.size)
              clear hb
              go_wp2
              go_ret
              exact ⟨rfl, HBA.out.trans (HB.out.mono HBA.out.size)⟩
          · have HNy : Hid (¬ (y.nd.1 = r.nd.1 ∧ y.nd.2 = r.nd.2)) := hnd
            clear hnd
            go_wp2_with fail
            refine wp_region_held_drew (S := fun W' => Below wA.heap.size wA W') (by kernel_rfl) HB.out.drew (fun hHeld => ?_)
            obtain ⟨Ujn27u0, eW⟩ : ∃ X, X = wq.drew := ⟨_, rfl⟩
            have hb : Below wq.heap.size wq Ujn27u0 := by rw [eW]; exact (Below.refl _ _).drew
            replace HB : Hid (Below wA.heap.size wA Ujn27u0) := HB.out.trans (hb.mono HB.out.size)
            rw [← eW] at hHeld ⊢
            clear eW hb
            refine tkW 0 (some 87) (v := ?_) ?_ hHeld ?_
            rotate_left
            · (intro ww _; go_simp; try with_reducible rfl)
            refine tkW 1 (some 88) (v := ?_) ?_ hHeld ?_
            rotate_left
            · (intro ww _; go_simp; try with_reducible rfl)
            refine tkW 2 (some 89) (v := ?_) ?_ hHeld ?_
            rotate_left
            · (intro ww hSw; (try dsimp only at hSw); go_simp; try with_reducible rfl)
            refine tkW 3 (some 90) (v := ?_) ?_ hHeld ?_
            rotate_left
            · (intro ww hSw; (try dsimp only at hSw); go_simp; try with_reducible rfl)
            refine tkW 4 (some 91) (v := ?_) ?_ hHeld ?_
            rotate_left
            · (intro ww _; go_simp; try with_reducible rfl)
            refine tkW 5 (some 92) (v := ?_) ?_ hHeld ?_
            rotate_left
            · (intro ww _; go_simp; try with_reducible rfl)
            refine tkW 6 (some 93) (v := ?_) ?_ hHeld ?_
            rotate_left
            · (intro ww _; go_simp; try with_reducible rfl)
            refine tkW 7 (some 94) (v := ?_) ?_ hHeld ?_
            rotate_left
            · (intro ww hSw; (try dsimp only at hSw); go_simp; try with_reducible rfl)
            refine tkW 8 (some 95) (v := ?_) ?_ hHeld ?_
            rotate_left
            · (intro ww _; go_simp; try with_reducible rfl)
            refine tkW 9 (some 96) (v := ?_) ?_ hHeld ?_
            rotate_left
            · (intro ww hSw; (try dsimp only at hSw); have d0 : ww.cell? ⟨bD, oD + k * 7, none⟩ = some (.int .i64 y.nd.1) := (hSw.cell (p := ⟨bD, oD + k * 7, none⟩) HGD.out).trans HY0.out; have d1 : ww.cell? ⟨bD, oD + k * 7 + 1, none⟩ = some (.int .i64 y.nd.2) := (hSw.cell (p := ⟨bD, oD + k * 7 + 1, none⟩) HGD.out).trans HY1.out; go_simp; try with_reducible rfl)
            refine tkW 10 (some 97) (v := ?_) ?_ hHeld ?_
            rotate_left
            · (intro ww _; go_simp; try with_reducible rfl)
            refine tkW 11 (some 98) (v := ?_) ?_ hHeld ?_
            rotate_left
            · (intro ww hSw; (try dsimp only at hSw); have q0 : ww.cell? ⟨b3, 0, none⟩ = some (.int .i64 r.nd.1) := (hSw.cell (p := ⟨b3, 0, none⟩) HQ.out.lt).trans (HQ.out.cell 0 _ rfl); have q1 : ww.cell? ⟨b3, 1, none⟩ = some (.int .i64 r.nd.2) := (hSw.cell (p := ⟨b3, 1, none⟩) HQ.out.lt).trans (HQ.out.cell 1 _ rfl); go_simp; try with_reducible rfl)
            refine tkW 12 (some 99) (v := .bool false) ?_ hHeld ?_
            · (intro ww hSw; (try dsimp only at hSw); have hn := HNy.out; go_simp; exact fun e1 e2 => hn ⟨e1, e2⟩)
            refine tkW 13 (some 100) (v := ?_) ?_ hHeld ?_
            rotate_left
            · (intro ww _; go_simp; try with_reducible rfl)
            refine tkW 14 (some 101) (v := ?_) ?_ hHeld ?_
            rotate_left
            · (intro ww _; go_simp; try with_reducible rfl)
            refine tkU 15 (some 102) hHeld ?_
            refine tkU 16 (some 103) hHeld ?_
            refine tkU 17 (some 104) hHeld ?_
            refine tkU 18 (some 105) hHeld ?_
            refine tkU 19 (some 106) hHeld ?_
            refine tkU 20 (some 107) hHeld ?_
            refine tkU 21 (some 108) hHeld ?_
            refine tkU 22 (some 109) hHeld ?_
            refine tkW 23 (some 110) (v := ?_) ?_ hHeld ?_
            rotate_left
            · (intro ww _; go_simp; try with_reducible rfl)
            refine wpAnyH_done (by kernel_rfl) ?_ _
            clear hHeld
            have HPk : Hid (∀ y, R[k]? = some y → nek r y = true) := fun z hz => (by rw [HyE.out] at hz; cases hz; exact nek_nd HNy.out)
            have hke : k = R.length := (by rcases Nat.lt_or_ge k R.length with h9 | h9; exact absurd (HPk.out _ (List.getElem?_eq_getElem h9)) (by rw [end_same HFl.out HIv.out h9]; simp); omega)
            have d3 : ((k : Int) == (R.length : Int)) = true := by simp [hke]
            clear HPk
            go_wp2_with fail
            refine (awake_any _).mono ?_
            rintro e w6 ⟨rfl, hb⟩
            replace HB : Hid (Below wA.heap.size wA w6) := HB.out.trans (hb.mono HB.out.size)
            clear hb
            go_wp2
            go_ret
            exact ⟨rfl, HBA.out.trans (HB.out.mono HBA.out.size)⟩
        · have d1 : ¬ (k : Int) < (R.length : Int) := by omega
          go_wp2_with fail
          refine wp_region_held_drew (S := fun W' => Below wA.heap.size wA W') (by kernel_rfl) HB.out.drew (fun hHeld => ?_)
          obtain ⟨Uje28u0, eW⟩ : ∃ X, X = wq.drew := ⟨_, rfl⟩
          have hb : Below wq.heap.size wq Uje28u0 := by rw [eW]; exact (Below.refl _ _).drew
          replace HB : Hid (Below wA.heap.size wA Uje28u0) := HB.out.trans (hb.mono HB.out.size)
          rw [← eW] at hHeld ⊢
          clear eW hb
          refine tkW 0 (some 87) (v := ?_) ?_ hHeld ?_
          rotate_left
          · (intro ww _; go_simp; try with_reducible rfl)
          refine tkW 1 (some 88) (v := ?_) ?_ hHeld ?_
          rotate_left
          · (intro ww _; go_simp; try with_reducible rfl)
          refine tkW 2 (some 89) (v := ?_) ?_ hHeld ?_
          rotate_left
          · (intro ww hSw; (try dsimp only at hSw); go_simp; try with_reducible rfl)
          refine tkW 3 (some 90) (v := ?_) ?_ hHeld ?_
          rotate_left
          · (intro ww hSw; (try dsimp only at hSw); go_simp; try with_reducible rfl)
          refine tkW 4 (some 91) (v := ?_) ?_ hHeld ?_
          rotate_left
          · (intro ww _; go_simp; try with_reducible rfl)
          refine tkU 5 (some 92) hHeld ?_
          refine tkU 6 (some 93) hHeld ?_
          refine tkU 7 (some 94) hHeld ?_
          refine tkU 8 (some 95) hHeld ?_
          refine tkU 9 (some 96) hHeld ?_
          refine tkU 10 (some 97) hHeld ?_
          refine tkU 11 (some 98) hHeld ?_
          refine tkU 12 (some 99) hHeld ?_
          refine tkW 13 (some 100) (v := ?_) ?_ hHeld ?_
          rotate_left
          · (intro ww _; go_simp; try with_reducible rfl)
          refine tkW 14 (some 101) (v := ?_) ?_ hHeld ?_
          rotate_left
          · (intro ww _; go_simp; try with_reducible rfl)
          refine tkU 15 (some 102) hHeld ?_
          refine tkU 16 (some 103) hHeld ?_
          refine tkU 17 (some 104) hHeld ?_
          refine tkU 18 (some 105) hHeld ?_
          refine tkU 19 (some 106) hHeld ?_
          refine tkU 20 (some 107) hHeld ?_
          refine tkU 21 (some 108) hHeld ?_
          refine tkU 22 (some 109) hHeld ?_
          refine tkW 23 (some 110) (v := ?_) ?_ hHeld ?_
          rotate_left
          · (intro ww _; go_simp; try with_reducible rfl)
          refine wpAnyH_done (by kernel_rfl) ?_ _
          clear hHeld
          have HPk : Hid (∀ y, R[k]? = some y → nek r y = true) := fun z hz => (by rw [List.getElem?_eq_none (by omega)] at hz; cases hz)
          have hke : k = R.length := (by rcases Nat.lt_or_ge k R.length with h9 | h9; exact absurd (HPk.out _ (List.getElem?_eq_getElem h9)) (by rw [end_same HFl.out HIv.out h9]; simp); omega)
          have d3 : ((k : Int) == (R.length : Int)) = true := by simp [hke]
          clear HPk
          go_wp2_with fail
          refine (awake_any _).mono ?_
          rintro e w6 ⟨rfl, hb⟩
          replace HB : Hid (Below wA.heap.size wA w6) := HB.out.trans (hb.mono HB.out.size)
          clear hb
          go_wp2
          go_ret
          exact ⟨rfl, HBA.out.trans (HB.out.mono HBA.out.size)⟩

end Go.Proofs.Ytoljacnipkibiab
