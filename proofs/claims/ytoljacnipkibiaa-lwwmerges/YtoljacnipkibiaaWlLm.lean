/- LwwMerges. -/
import Derived.Test.YtoljacnipkibiaaLwW
namespace Go.Proofs.Ytoljacnipkibiaa
open Go.RowKit
set_option linter.unusedVariables false
set_option linter.unusedSimpArgs false

set_option maxRecDepth 100000 in
set_option maxHeartbeats 16000000 in
theorem lwwMerges_walk (va : Value) (la : List Rg) (vb : Value) (lb : List Rg) (vc : Value) (lc : List Rg) (w : World) (ha : IsRg w va la) (hb : IsRg w vb lb) (hc : IsRg w vc lc) :
    Calls Try.prog 7 #[va, vb, vc] w fun e w' => e = .returned (.bool true) ∧ Below w.heap.size w w' := by
  obtain ⟨ala, cla, ela⟩ := ha.1.form
  subst ela
  have HIla : Hid (IsRg w (.slice ala la.length cla) la) := ha
  have HbA0 : BestL (la.take 200) (laidL la) := laidT_best _
  have hlA := laidL_len la
  obtain ⟨A, eA⟩ : ∃ X, X = laidL la := ⟨_, rfl⟩
  rw [← eA] at HbA0 hlA
  have HAla : Hid (A = laidL la) := eA
  obtain ⟨SA, eSA⟩ : ∃ X, X = la.take 200 := ⟨_, rfl⟩
  have HsA : Hid (∀ r ∈ A, r.nm.size ≤ 281474976710656) := fun r hr => Nat.le_trans (ha.2 r (List.mem_of_mem_take (HbA0.mem r hr).1)).1 (by decide)
  rw [← eSA] at HbA0
  have HbA : Hid (BestL SA A) := HbA0
  have HkA : Hid (∀ r ∈ A, okR r = true) := fun r hr => (HbA0.mem r hr).2
  clear eA eSA HbA0 ha
  obtain ⟨alb, clb, elb⟩ := hb.1.form
  subst elb
  have HIlb : Hid (IsRg w (.slice alb lb.length clb) lb) := hb
  have HbB0 : BestL (lb.take 200) (laidL lb) := laidT_best _
  have hlB := laidL_len lb
  obtain ⟨B, eB⟩ : ∃ X, X = laidL lb := ⟨_, rfl⟩
  rw [← eB] at HbB0 hlB
  have HAlb : Hid (B = laidL lb) := eB
  obtain ⟨SB, eSB⟩ : ∃ X, X = lb.take 200 := ⟨_, rfl⟩
  have HsB : Hid (∀ r ∈ B, r.nm.size ≤ 281474976710656) := fun r hr => Nat.le_trans (hb.2 r (List.mem_of_mem_take (HbB0.mem r hr).1)).1 (by decide)
  rw [← eSB] at HbB0
  have HbB : Hid (BestL SB B) := HbB0
  have HkB : Hid (∀ r ∈ B, okR r = true) := fun r hr => (HbB0.mem r hr).2
  clear eB eSB HbB0 hb
  obtain ⟨alc, clc, elc⟩ := hc.1.form
  subst elc
  have HIlc : Hid (IsRg w (.slice alc lc.length clc) lc) := hc
  have HbC0 : BestL (lc.take 200) (laidL lc) := laidT_best _
  have hlC := laidL_len lc
  obtain ⟨C, eC⟩ : ∃ X, X = laidL lc := ⟨_, rfl⟩
  rw [← eC] at HbC0 hlC
  have HAlc : Hid (C = laidL lc) := eC
  obtain ⟨SC, eSC⟩ : ∃ X, X = lc.take 200 := ⟨_, rfl⟩
  have HsC : Hid (∀ r ∈ C, r.nm.size ≤ 281474976710656) := fun r hr => Nat.le_trans (hc.2 r (List.mem_of_mem_take (HbC0.mem r hr).1)).1 (by decide)
  rw [← eSC] at HbC0
  have HbC : Hid (BestL SC C) := HbC0
  have HkC : Hid (∀ r ∈ C, okR r = true) := fun r hr => (HbC0.mem r hr).2
  clear eC eSC HbC0 hc
  have hmAB := mergeR_length A B
  have hbXY := HbA.out.merge HbB.out
  have e1 : mergeR B A = mergeR A B := (HbB.out.merge HbA.out).uniq (hbXY.set fun x => by simp [or_comm])
  have e3 : mergeR (mergeR A B) B = mergeR A B := (hbXY.merge HbB.out).uniq (hbXY.set fun x => ⟨fun h => List.mem_append_left _ h, fun h => (List.mem_append.1 h).elim id (fun h => List.mem_append_right _ h)⟩)
  have hbYZ := HbB.out.merge HbC.out
  have hmYZ := mergeR_length B C
  have hbXYZ := hbXY.merge HbC.out
  have hmXYZ := mergeR_length (mergeR A B) C
  have e6 : mergeR A (mergeR B C) = mergeR (mergeR A B) C := (HbA.out.merge hbYZ).uniq (hbXYZ.set fun x => by simp [or_assoc])
  obtain ⟨XY, eXY⟩ : ∃ X, X = mergeR A B := ⟨_, rfl⟩
  obtain ⟨YZ, eYZ⟩ : ∃ X, X = mergeR B C := ⟨_, rfl⟩
  rw [← eXY] at hmAB hbXY e1 e3 hbXYZ hmXYZ e6
  rw [← eYZ] at hbYZ hmYZ e6
  obtain ⟨XYZ, eXYZ⟩ : ∃ X, X = mergeR XY C := ⟨_, rfl⟩
  rw [← eXYZ] at hbXYZ hmXYZ e6
  have HE1 : Hid (mergeR A B = XY) := eXY.symm
  have HE2 : Hid (mergeR B A = XY) := e1
  have HE3 : Hid (mergeR XY B = XY) := e3
  have HE4 : Hid (mergeR B C = YZ) := eYZ.symm
  have HE5 : Hid (mergeR XY C = XYZ) := eXYZ.symm
  have HE6 : Hid (mergeR A YZ = XYZ) := e6
  have HE7 : Hid (mergeR XYZ [] = XYZ) := rfl
  have HbXY : Hid (BestL (SA ++ SB) XY) := hbXY
  have HkYZ : Hid (∀ r ∈ YZ, okR r = true) := fun r hr => (hbYZ.mem r hr).2
  have HLen : Hid (A.length ≤ 200 ∧ B.length ≤ 200 ∧ C.length ≤ 200 ∧ XY.length ≤ 400 ∧ YZ.length ≤ 400 ∧ XYZ.length ≤ 600) := ⟨hlA, hlB, hlC, by omega, by omega, by omega⟩
  have HC : Hid (Col w w (fun _ => 0)) := ⟨fun j h => absurd rfl h, fun j h => absurd rfl h, Below.refl _ _⟩
  have HFr : Hid (∀ m, 1 ≤ m → ∀ j : Nat, (fun _ : Nat => 0) j ≠ m) := fun m hm j e => (by simp at e; omega)
  obtain ⟨col0, ecol⟩ : ∃ c : Nat → Nat, c = fun _ => 0 := ⟨_, rfl⟩
  rw [← ecol] at HC HFr
  clear eXY eYZ eXYZ e1 e3 e6 hbXY hbYZ hbXYZ hmAB hmYZ hmXYZ hlA hlB hlC ecol
  go_enter Try.func7, Try.ntmps7
  go_wp2_with fail
  refine (laid2_any _ la _ (HIla.out.below HC.out.bel)).mono ?_
  rintro e w1 ⟨xb, Fn, av, cv, rfl, hM⟩
  rw [← HAla.out] at hM ⊢
  obtain ⟨col1, hc, hr, ho, hdc, hdn, hfr⟩ := HC.out.new hM.row hM.hi hM.bel 1 (by decide) (HFr.out 1 (by decide))
  have Hx : Hid (RgC col1 1 w1 xb A) := hr
  have Hv : Hid (DcC col1 w1 (.slice av A.length cv) A) := hdn _ _ hM.doc
  replace HC : Hid (Col w w1 col1) := hc
  replace HFr : Hid (∀ m, 2 ≤ m → ∀ j, col1 j ≠ m) := fun m hm => hfr m (by omega) (by omega) (HFr.out m (by omega))
  clear hc hr ho hdc hdn hfr hM
  go_wp2_with fail
  refine (laid2_any _ lb _ (HIlb.out.below HC.out.bel)).mono ?_
  rintro e w2 ⟨yb, Fn, aw, cw, rfl, hM⟩
  rw [← HAlb.out] at hM ⊢
  obtain ⟨col2, hc, hr, ho, hdc, hdn, hfr⟩ := HC.out.new hM.row hM.hi hM.bel 2 (by decide) (HFr.out 2 (by decide))
  have Hy : Hid (RgC col2 2 w2 yb B) := hr
  have Hw : Hid (DcC col2 w2 (.slice aw B.length cw) B) := hdn _ _ hM.doc
  replace Hx : Hid (RgC col2 1 w2 xb A) := ho _ (by decide) (by decide) _ _ Hx.out
  replace Hv : Hid (DcC col2 w2 (.slice av A.length cv) A) := hdc _ _ Hv.out
  replace HC : Hid (Col w w2 col2) := hc
  replace HFr : Hid (∀ m, 3 ≤ m → ∀ j, col2 j ≠ m) := fun m hm => hfr m (by omega) (by omega) (HFr.out m (by omega))
  clear hc hr ho hdc hdn hfr hM
  go_wp2_with fail
  refine (laid2_any _ lc _ (HIlc.out.below HC.out.bel)).mono ?_
  rintro e w3 ⟨zb, Fn, au, cu, rfl, hM⟩
  rw [← HAlc.out] at hM ⊢
  obtain ⟨col3, hc, hr, ho, hdc, hdn, hfr⟩ := HC.out.new hM.row hM.hi hM.bel 3 (by decide) (HFr.out 3 (by decide))
  have Hz : Hid (RgC col3 3 w3 zb C) := hr
  have Hu : Hid (DcC col3 w3 (.slice au C.length cu) C) := hdn _ _ hM.doc
  replace Hx : Hid (RgC col3 1 w3 xb A) := ho _ (by decide) (by decide) _ _ Hx.out
  replace Hv : Hid (DcC col3 w3 (.slice av A.length cv) A) := hdc _ _ Hv.out
  replace Hy : Hid (RgC col3 2 w3 yb B) := ho _ (by decide) (by decide) _ _ Hy.out
  replace Hw : Hid (DcC col3 w3 (.slice aw B.length cw) B) := hdc _ _ Hw.out
  replace HC : Hid (Col w w3 col3) := hc
  replace HFr : Hid (∀ m, 4 ≤ m → ∀ j, col3 j ≠ m) := fun m hm => hfr m (by omega) (by omega) (HFr.out m (by omega))
  clear hc hr ho hdc hdn hfr hM
  go_wp2_with fail
  refine (clone_any _ _ _ _ Hx.out).mono ?_
  rintro e w4 ⟨xyb, Fn, rfl, hrr, hhi, hb⟩
  obtain ⟨col4, hc, hr, ho, hdc, hdn, hfr⟩ := HC.out.new hrr hhi hb 4 (by decide) (HFr.out 4 (by decide))
  have Hxy : Hid (RgC col4 4 w4 xyb A) := hr
  replace Hx : Hid (RgC col4 1 w4 xb A) := ho _ (by decide) (by decide) _ _ Hx.out
  replace Hv : Hid (DcC col4 w4 (.slice av A.length cv) A) := hdc _ _ Hv.out
  replace Hy : Hid (RgC col4 2 w4 yb B) := ho _ (by decide) (by decide) _ _ Hy.out
  replace Hw : Hid (DcC col4 w4 (.slice aw B.length cw) B) := hdc _ _ Hw.out
  replace Hz : Hid (RgC col4 3 w4 zb C) := ho _ (by decide) (by decide) _ _ Hz.out
  replace Hu : Hid (DcC col4 w4 (.slice au C.length cu) C) := hdc _ _ Hu.out
  replace HC : Hid (Col w w4 col4) := hc
  replace HFr : Hid (∀ m, 5 ≤ m → ∀ j, col4 j ≠ m) := fun m hm => hfr m (by omega) (by omega) (HFr.out m (by omega))
  clear hc hr ho hdc hdn hfr hrr hhi hb
  go_wp2_with fail
  refine (clone_any _ _ _ _ Hy.out).mono ?_
  rintro e w5 ⟨yxb, Fn, rfl, hrr, hhi, hb⟩
  obtain ⟨col5, hc, hr, ho, hdc, hdn, hfr⟩ := HC.out.new hrr hhi hb 5 (by decide) (HFr.out 5 (by decide))
  have Hyx : Hid (RgC col5 5 w5 yxb B) := hr
  replace Hx : Hid (RgC col5 1 w5 xb A) := ho _ (by decide) (by decide) _ _ Hx.out
  replace Hv : Hid (DcC col5 w5 (.slice av A.length cv) A) := hdc _ _ Hv.out
  replace Hy : Hid (RgC col5 2 w5 yb B) := ho _ (by decide) (by decide) _ _ Hy.out
  replace Hw : Hid (DcC col5 w5 (.slice aw B.length cw) B) := hdc _ _ Hw.out
  replace Hz : Hid (RgC col5 3 w5 zb C) := ho _ (by decide) (by decide) _ _ Hz.out
  replace Hu : Hid (DcC col5 w5 (.slice au C.length cu) C) := hdc _ _ Hu.out
  replace Hxy : Hid (RgC col5 4 w5 xyb A) := ho _ (by decide) (by decide) _ _ Hxy.out
  replace HC : Hid (Col w w5 col5) := hc
  replace HFr : Hid (∀ m, 6 ≤ m → ∀ j, col5 j ≠ m) := fun m hm => hfr m (by omega) (by omega) (HFr.out m (by omega))
  clear hc hr ho hdc hdn hfr hrr hhi hb
  go_wp2_with fail
  refine (merge_any _ _ A _ _ B _ Hxy.out Hy.out.rv HkB.out (by have h1 := HLen.out; (try simp only [List.length_nil]); omega)).mono ?_
  rintro e w6 ⟨rfl, hd⟩
  rw [HE1.out] at hd
  obtain ⟨col6, hc, hr, ho, hdc, hfr⟩ := HC.out.put 4 (by decide) hd
  have Hxyn : Hid (RgC col6 4 w6 xyb XY) := hr
  replace Hx : Hid (RgC col6 1 w6 xb A) := ho _ (by decide) (by decide) _ _ Hx.out
  replace Hv : Hid (DcC col6 w6 (.slice av A.length cv) A) := hdc _ _ Hv.out
  replace Hy : Hid (RgC col6 2 w6 yb B) := ho _ (by decide) (by decide) _ _ Hy.out
  replace Hw : Hid (DcC col6 w6 (.slice aw B.length cw) B) := hdc _ _ Hw.out
  replace Hz : Hid (RgC col6 3 w6 zb C) := ho _ (by decide) (by decide) _ _ Hz.out
  replace Hu : Hid (DcC col6 w6 (.slice au C.length cu) C) := hdc _ _ Hu.out
  replace Hyx : Hid (RgC col6 5 w6 yxb B) := ho _ (by decide) (by decide) _ _ Hyx.out
  replace Hxy : Hid (RgC col6 4 w6 xyb XY) := Hxyn.out
  replace HC : Hid (Col w w6 col6) := hc
  replace HFr : Hid (∀ m, 6 ≤ m → ∀ j, col6 j ≠ m) := fun m hm => hfr m (by omega) (by omega) (HFr.out m (by omega))
  clear hc hr ho hdc hfr hd Hxyn
  go_wp2_with fail
  refine (merge_any _ _ B _ _ A _ Hyx.out Hx.out.rv HkA.out (by have h1 := HLen.out; (try simp only [List.length_nil]); omega)).mono ?_
  rintro e w7 ⟨rfl, hd⟩
  rw [HE2.out] at hd
  obtain ⟨col7, hc, hr, ho, hdc, hfr⟩ := HC.out.put 5 (by decide) hd
  have Hyxn : Hid (RgC col7 5 w7 yxb XY) := hr
  replace Hx : Hid (RgC col7 1 w7 xb A) := ho _ (by decide) (by decide) _ _ Hx.out
  replace Hv : Hid (DcC col7 w7 (.slice av A.length cv) A) := hdc _ _ Hv.out
  replace Hy : Hid (RgC col7 2 w7 yb B) := ho _ (by decide) (by decide) _ _ Hy.out
  replace Hw : Hid (DcC col7 w7 (.slice aw B.length cw) B) := hdc _ _ Hw.out
  replace Hz : Hid (RgC col7 3 w7 zb C) := ho _ (by decide) (by decide) _ _ Hz.out
  replace Hu : Hid (DcC col7 w7 (.slice au C.length cu) C) := hdc _ _ Hu.out
  replace Hxy : Hid (RgC col7 4 w7 xyb XY) := ho _ (by decide) (by decide) _ _ Hxy.out
  replace Hyx : Hid (RgC col7 5 w7 yxb XY) := Hyxn.out
  replace HC : Hid (Col w w7 col7) := hc
  replace HFr : Hid (∀ m, 6 ≤ m → ∀ j, col7 j ≠ m) := fun m hm => hfr m (by omega) (by omega) (HFr.out m (by omega))
  clear hc hr ho hdc hfr hd Hyxn
  go_wp2_with fail
  refine (refMerge_any (fun j => col7 j = 0) _ _ A B _ Hv.out Hw.out HbA.out.srt (by have h1 := HLen.out; (try simp only [List.length_nil]); omega) HsB.out).mono ?_
  rintro e w8 ⟨u, rfl, hou, hb⟩
  rw [HE1.out] at hou
  have hou2 : DcC col7 w8 u XY := hou.mono fun j hj => hj.elim id (fun h9 => Classical.byContradiction fun h8 => (by have := HC.out.lt j h8; omega))
  replace HC : Hid (Col w w8 col7) := HC.out.below hb
  replace Hx : Hid (RgC col7 1 w8 xb A) := Hx.out.below hb
  replace Hv : Hid (DcC col7 w8 (.slice av A.length cv) A) := Hv.out.below hb
  replace Hy : Hid (RgC col7 2 w8 yb B) := Hy.out.below hb
  replace Hw : Hid (DcC col7 w8 (.slice aw B.length cw) B) := Hw.out.below hb
  replace Hz : Hid (RgC col7 3 w8 zb C) := Hz.out.below hb
  replace Hu : Hid (DcC col7 w8 (.slice au C.length cu) C) := Hu.out.below hb
  replace Hxy : Hid (RgC col7 4 w8 xyb XY) := Hxy.out.below hb
  replace Hyx : Hid (RgC col7 5 w8 yxb XY) := Hyx.out.below hb
  clear hb
  obtain ⟨aHboth, cHboth, eu⟩ := hou2.form
  subst eu
  have Hboth : Hid (DcC col7 w8 (.slice aHboth XY.length cHboth) XY) := hou2
  clear hou hou2
  go_wp2_with fail
  refine (all_v _ _ XY _ Hxy.out.rv).mono ?_
  rintro e w9 ⟨u, rfl, hou, hb⟩
  replace HC : Hid (Col w w9 col7) := HC.out.below hb
  replace Hx : Hid (RgC col7 1 w9 xb A) := Hx.out.below hb
  replace Hv : Hid (DcC col7 w9 (.slice av A.length cv) A) := Hv.out.below hb
  replace Hy : Hid (RgC col7 2 w9 yb B) := Hy.out.below hb
  replace Hw : Hid (DcC col7 w9 (.slice aw B.length cw) B) := Hw.out.below hb
  replace Hz : Hid (RgC col7 3 w9 zb C) := Hz.out.below hb
  replace Hu : Hid (DcC col7 w9 (.slice au C.length cu) C) := Hu.out.below hb
  replace Hxy : Hid (RgC col7 4 w9 xyb XY) := Hxy.out.below hb
  replace Hyx : Hid (RgC col7 5 w9 yxb XY) := Hyx.out.below hb
  replace Hboth : Hid (DcC col7 w9 (.slice aHboth XY.length cHboth) XY) := Hboth.out.below hb
  clear hb
  obtain ⟨aO1, cO1, eu⟩ := hou.form
  subst eu
  have O1 : Hid (LsE rgCells 7 (fun _ => True) w9 (.slice aO1 XY.length cO1) XY) := hou.lsE rgCells_len (by have h1 := HLen.out; (try simp only [List.length_nil]); omega) (fun _ _ => trivial)
  clear hou
  go_wp2_with fail
  refine (refSame_any _ _ _ _ XY XY _ O1.out Hboth.out).mono ?_
  rintro e w10 ⟨rfl, hb⟩
  clear O1
  replace HC : Hid (Col w w10 col7) := HC.out.below hb
  replace Hx : Hid (RgC col7 1 w10 xb A) := Hx.out.below hb
  replace Hv : Hid (DcC col7 w10 (.slice av A.length cv) A) := Hv.out.below hb
  replace Hy : Hid (RgC col7 2 w10 yb B) := Hy.out.below hb
  replace Hw : Hid (DcC col7 w10 (.slice aw B.length cw) B) := Hw.out.below hb
  replace Hz : Hid (RgC col7 3 w10 zb C) := Hz.out.below hb
  replace Hu : Hid (DcC col7 w10 (.slice au C.length cu) C) := Hu.out.below hb
  replace Hxy : Hid (RgC col7 4 w10 xyb XY) := Hxy.out.below hb
  replace Hyx : Hid (RgC col7 5 w10 yxb XY) := Hyx.out.below hb
  replace Hboth : Hid (DcC col7 w10 (.slice aHboth XY.length cHboth) XY) := Hboth.out.below hb
  clear hb
  rw [decide_eq_true rfl]
  go_wp2_with fail
  refine (all_v _ _ XY _ Hyx.out.rv).mono ?_
  rintro e w11 ⟨u, rfl, hou, hb⟩
  replace HC : Hid (Col w w11 col7) := HC.out.below hb
  replace Hx : Hid (RgC col7 1 w11 xb A) := Hx.out.below hb
  replace Hv : Hid (DcC col7 w11 (.slice av A.length cv) A) := Hv.out.below hb
  replace Hy : Hid (RgC col7 2 w11 yb B) := Hy.out.below hb
  replace Hw : Hid (DcC col7 w11 (.slice aw B.length cw) B) := Hw.out.below hb
  replace Hz : Hid (RgC col7 3 w11 zb C) := Hz.out.below hb
  replace Hu : Hid (DcC col7 w11 (.slice au C.length cu) C) := Hu.out.below hb
  replace Hxy : Hid (RgC col7 4 w11 xyb XY) := Hxy.out.below hb
  replace Hyx : Hid (RgC col7 5 w11 yxb XY) := Hyx.out.below hb
  replace Hboth : Hid (DcC col7 w11 (.slice aHboth XY.length cHboth) XY) := Hboth.out.below hb
  clear hb
  obtain ⟨aO2, cO2, eu⟩ := hou.form
  subst eu
  have O2 : Hid (LsE rgCells 7 (fun _ => True) w11 (.slice aO2 XY.length cO2) XY) := hou.lsE rgCells_len (by have h1 := HLen.out; (try simp only [List.length_nil]); omega) (fun _ _ => trivial)
  clear hou
  go_wp2_with fail
  refine (refSame_any _ _ _ _ XY XY _ O2.out Hboth.out).mono ?_
  rintro e w12 ⟨rfl, hb⟩
  clear O2
  replace HC : Hid (Col w w12 col7) := HC.out.below hb
  replace Hx : Hid (RgC col7 1 w12 xb A) := Hx.out.below hb
  replace Hv : Hid (DcC col7 w12 (.slice av A.length cv) A) := Hv.out.below hb
  replace Hy : Hid (RgC col7 2 w12 yb B) := Hy.out.below hb
  replace Hw : Hid (DcC col7 w12 (.slice aw B.length cw) B) := Hw.out.below hb
  replace Hz : Hid (RgC col7 3 w12 zb C) := Hz.out.below hb
  replace Hu : Hid (DcC col7 w12 (.slice au C.length cu) C) := Hu.out.below hb
  replace Hxy : Hid (RgC col7 4 w12 xyb XY) := Hxy.out.below hb
  replace Hyx : Hid (RgC col7 5 w12 yxb XY) := Hyx.out.below hb
  replace Hboth : Hid (DcC col7 w12 (.slice aHboth XY.length cHboth) XY) := Hboth.out.below hb
  clear hb
  rw [decide_eq_true rfl]
  go_wp2_with fail
  refine (merge_any _ _ XY _ _ B _ Hxy.out Hy.out.rv HkB.out (by have h1 := HLen.out; (try simp only [List.length_nil]); omega)).mono ?_
  rintro e w13 ⟨rfl, hd⟩
  rw [HE3.out] at hd
  obtain ⟨col8, hc, hr, ho, hdc, hfr⟩ := HC.out.put 4 (by decide) hd
  have Hxyn : Hid (RgC col8 4 w13 xyb XY) := hr
  replace Hx : Hid (RgC col8 1 w13 xb A) := ho _ (by decide) (by decide) _ _ Hx.out
  replace Hv : Hid (DcC col8 w13 (.slice av A.length cv) A) := hdc _ _ Hv.out
  replace Hy : Hid (RgC col8 2 w13 yb B) := ho _ (by decide) (by decide) _ _ Hy.out
  replace Hw : Hid (DcC col8 w13 (.slice aw B.length cw) B) := hdc _ _ Hw.out
  replace Hz : Hid (RgC col8 3 w13 zb C) := ho _ (by decide) (by decide) _ _ Hz.out
  replace Hu : Hid (DcC col8 w13 (.slice au C.length cu) C) := hdc _ _ Hu.out
  replace Hyx : Hid (RgC col8 5 w13 yxb XY) := ho _ (by decide) (by decide) _ _ Hyx.out
  replace Hboth : Hid (DcC col8 w13 (.slice aHboth XY.length cHboth) XY) := hdc _ _ Hboth.out
  replace Hxy : Hid (RgC col8 4 w13 xyb XY) := Hxyn.out
  replace HC : Hid (Col w w13 col8) := hc
  replace HFr : Hid (∀ m, 6 ≤ m → ∀ j, col8 j ≠ m) := fun m hm => hfr m (by omega) (by omega) (HFr.out m (by omega))
  clear hc hr ho hdc hfr hd Hxyn
  go_wp2_with fail
  refine (all_v _ _ XY _ Hxy.out.rv).mono ?_
  rintro e w14 ⟨u, rfl, hou, hb⟩
  replace HC : Hid (Col w w14 col8) := HC.out.below hb
  replace Hx : Hid (RgC col8 1 w14 xb A) := Hx.out.below hb
  replace Hv : Hid (DcC col8 w14 (.slice av A.length cv) A) := Hv.out.below hb
  replace Hy : Hid (RgC col8 2 w14 yb B) := Hy.out.below hb
  replace Hw : Hid (DcC col8 w14 (.slice aw B.length cw) B) := Hw.out.below hb
  replace Hz : Hid (RgC col8 3 w14 zb C) := Hz.out.below hb
  replace Hu : Hid (DcC col8 w14 (.slice au C.length cu) C) := Hu.out.below hb
  replace Hxy : Hid (RgC col8 4 w14 xyb XY) := Hxy.out.below hb
  replace Hyx : Hid (RgC col8 5 w14 yxb XY) := Hyx.out.below hb
  replace Hboth : Hid (DcC col8 w14 (.slice aHboth XY.length cHboth) XY) := Hboth.out.below hb
  clear hb
  obtain ⟨aO3, cO3, eu⟩ := hou.form
  subst eu
  have O3 : Hid (LsE rgCells 7 (fun _ => True) w14 (.slice aO3 XY.length cO3) XY) := hou.lsE rgCells_len (by have h1 := HLen.out; (try simp only [List.length_nil]); omega) (fun _ _ => trivial)
  clear hou
  go_wp2_with fail
  refine (refSame_any _ _ _ _ XY XY _ O3.out Hboth.out).mono ?_
  rintro e w15 ⟨rfl, hb⟩
  clear O3
  replace HC : Hid (Col w w15 col8) := HC.out.below hb
  replace Hx : Hid (RgC col8 1 w15 xb A) := Hx.out.below hb
  replace Hv : Hid (DcC col8 w15 (.slice av A.length cv) A) := Hv.out.below hb
  replace Hy : Hid (RgC col8 2 w15 yb B) := Hy.out.below hb
  replace Hw : Hid (DcC col8 w15 (.slice aw B.length cw) B) := Hw.out.below hb
  replace Hz : Hid (RgC col8 3 w15 zb C) := Hz.out.below hb
  replace Hu : Hid (DcC col8 w15 (.slice au C.length cu) C) := Hu.out.below hb
  replace Hxy : Hid (RgC col8 4 w15 xyb XY) := Hxy.out.below hb
  replace Hyx : Hid (RgC col8 5 w15 yxb XY) := Hyx.out.below hb
  replace Hboth : Hid (DcC col8 w15 (.slice aHboth XY.length cHboth) XY) := Hboth.out.below hb
  clear hb
  rw [decide_eq_true rfl]
  go_wp2_with fail
  refine (clone_any _ _ _ _ Hy.out).mono ?_
  rintro e w16 ⟨yzb, Fn, rfl, hrr, hhi, hb⟩
  obtain ⟨col9, hc, hr, ho, hdc, hdn, hfr⟩ := HC.out.new hrr hhi hb 6 (by decide) (HFr.out 6 (by decide))
  have Hyz : Hid (RgC col9 6 w16 yzb B) := hr
  replace Hx : Hid (RgC col9 1 w16 xb A) := ho _ (by decide) (by decide) _ _ Hx.out
  replace Hv : Hid (DcC col9 w16 (.slice av A.length cv) A) := hdc _ _ Hv.out
  replace Hy : Hid (RgC col9 2 w16 yb B) := ho _ (by decide) (by decide) _ _ Hy.out
  replace Hw : Hid (DcC col9 w16 (.slice aw B.length cw) B) := hdc _ _ Hw.out
  replace Hz : Hid (RgC col9 3 w16 zb C) := ho _ (by decide) (by decide) _ _ Hz.out
  replace Hu : Hid (DcC col9 w16 (.slice au C.length cu) C) := hdc _ _ Hu.out
  replace Hxy : Hid (RgC col9 4 w16 xyb XY) := ho _ (by decide) (by decide) _ _ Hxy.out
  replace Hyx : Hid (RgC col9 5 w16 yxb XY) := ho _ (by decide) (by decide) _ _ Hyx.out
  replace Hboth : Hid (DcC col9 w16 (.slice aHboth XY.length cHboth) XY) := hdc _ _ Hboth.out
  replace HC : Hid (Col w w16 col9) := hc
  replace HFr : Hid (∀ m, 7 ≤ m → ∀ j, col9 j ≠ m) := fun m hm => hfr m (by omega) (by omega) (HFr.out m (by omega))
  clear hc hr ho hdc hdn hfr hrr hhi hb
  go_wp2_with fail
  refine (merge_any _ _ B _ _ C _ Hyz.out Hz.out.rv HkC.out (by have h1 := HLen.out; (try simp only [List.length_nil]); omega)).mono ?_
  rintro e w17 ⟨rfl, hd⟩
  rw [HE4.out] at hd
  obtain ⟨col10, hc, hr, ho, hdc, hfr⟩ := HC.out.put 6 (by decide) hd
  have Hyzn : Hid (RgC col10 6 w17 yzb YZ) := hr
  replace Hx : Hid (RgC col10 1 w17 xb A) := ho _ (by decide) (by decide) _ _ Hx.out
  replace Hv : Hid (DcC col10 w17 (.slice av A.length cv) A) := hdc _ _ Hv.out
  replace Hy : Hid (RgC col10 2 w17 yb B) := ho _ (by decide) (by decide) _ _ Hy.out
  replace Hw : Hid (DcC col10 w17 (.slice aw B.length cw) B) := hdc _ _ Hw.out
  replace Hz : Hid (RgC col10 3 w17 zb C) := ho _ (by decide) (by decide) _ _ Hz.out
  replace Hu : Hid (DcC col10 w17 (.slice au C.length cu) C) := hdc _ _ Hu.out
  replace Hxy : Hid (RgC col10 4 w17 xyb XY) := ho _ (by decide) (by decide) _ _ Hxy.out
  replace Hyx : Hid (RgC col10 5 w17 yxb XY) := ho _ (by decide) (by decide) _ _ Hyx.out
  replace Hboth : Hid (DcC col10 w17 (.slice aHboth XY.length cHboth) XY) := hdc _ _ Hboth.out
  replace Hyz : Hid (RgC col10 6 w17 yzb YZ) := Hyzn.out
  replace HC : Hid (Col w w17 col10) := hc
  replace HFr : Hid (∀ m, 7 ≤ m → ∀ j, col10 j ≠ m) := fun m hm => hfr m (by omega) (by omega) (HFr.out m (by omega))
  clear hc hr ho hdc hfr hd Hyzn
  go_wp2_with fail
  refine (merge_any _ _ XY _ _ C _ Hxy.out Hz.out.rv HkC.out (by have h1 := HLen.out; (try simp only [List.length_nil]); omega)).mono ?_
  rintro e w18 ⟨rfl, hd⟩
  rw [HE5.out] at hd
  obtain ⟨col11, hc, hr, ho, hdc, hfr⟩ := HC.out.put 4 (by decide) hd
  have Hxyn : Hid (RgC col11 4 w18 xyb XYZ) := hr
  replace Hx : Hid (RgC col11 1 w18 xb A) := ho _ (by decide) (by decide) _ _ Hx.out
  replace Hv : Hid (DcC col11 w18 (.slice av A.length cv) A) := hdc _ _ Hv.out
  replace Hy : Hid (RgC col11 2 w18 yb B) := ho _ (by decide) (by decide) _ _ Hy.out
  replace Hw : Hid (DcC col11 w18 (.slice aw B.length cw) B) := hdc _ _ Hw.out
  replace Hz : Hid (RgC col11 3 w18 zb C) := ho _ (by decide) (by decide) _ _ Hz.out
  replace Hu : Hid (DcC col11 w18 (.slice au C.length cu) C) := hdc _ _ Hu.out
  replace Hyx : Hid (RgC col11 5 w18 yxb XY) := ho _ (by decide) (by decide) _ _ Hyx.out
  replace Hboth : Hid (DcC col11 w18 (.slice aHboth XY.length cHboth) XY) := hdc _ _ Hboth.out
  replace Hyz : Hid (RgC col11 6 w18 yzb YZ) := ho _ (by decide) (by decide) _ _ Hyz.out
  replace Hxy : Hid (RgC col11 4 w18 xyb XYZ) := Hxyn.out
  replace HC : Hid (Col w w18 col11) := hc
  replace HFr : Hid (∀ m, 7 ≤ m → ∀ j, col11 j ≠ m) := fun m hm => hfr m (by omega) (by omega) (HFr.out m (by omega))
  clear hc hr ho hdc hfr hd Hxyn
  go_wp2_with fail
  refine (merge_any _ _ A _ _ YZ _ Hx.out Hyz.out.rv HkYZ.out (by have h1 := HLen.out; (try simp only [List.length_nil]); omega)).mono ?_
  rintro e w19 ⟨rfl, hd⟩
  rw [HE6.out] at hd
  obtain ⟨col12, hc, hr, ho, hdc, hfr⟩ := HC.out.put 1 (by decide) hd
  have Hxn : Hid (RgC col12 1 w19 xb XYZ) := hr
  replace Hv : Hid (DcC col12 w19 (.slice av A.length cv) A) := hdc _ _ Hv.out
  replace Hy : Hid (RgC col12 2 w19 yb B) := ho _ (by decide) (by decide) _ _ Hy.out
  replace Hw : Hid (DcC col12 w19 (.slice aw B.length cw) B) := hdc _ _ Hw.out
  replace Hz : Hid (RgC col12 3 w19 zb C) := ho _ (by decide) (by decide) _ _ Hz.out
  replace Hu : Hid (DcC col12 w19 (.slice au C.length cu) C) := hdc _ _ Hu.out
  replace Hxy : Hid (RgC col12 4 w19 xyb XYZ) := ho _ (by decide) (by decide) _ _ Hxy.out
  replace Hyx : Hid (RgC col12 5 w19 yxb XY) := ho _ (by decide) (by decide) _ _ Hyx.out
  replace Hboth : Hid (DcC col12 w19 (.slice aHboth XY.length cHboth) XY) := hdc _ _ Hboth.out
  replace Hyz : Hid (RgC col12 6 w19 yzb YZ) := ho _ (by decide) (by decide) _ _ Hyz.out
  replace Hx : Hid (RgC col12 1 w19 xb XYZ) := Hxn.out
  replace HC : Hid (Col w w19 col12) := hc
  replace HFr : Hid (∀ m, 7 ≤ m → ∀ j, col12 j ≠ m) := fun m hm => hfr m (by omega) (by omega) (HFr.out m (by omega))
  clear hc hr ho hdc hfr hd Hxn
  go_wp2_with fail
  refine (merge_any _ _ XYZ (fun _ => False) _ [] _ Hxy.out (.inr ⟨rfl, rfl⟩) (fun r h => absurd h (by simp)) (by have h1 := HLen.out; (try simp only [List.length_nil]); omega)).mono ?_
  rintro e w20 ⟨rfl, hd⟩
  rw [HE7.out] at hd
  obtain ⟨col13, hc, hr, ho, hdc, hfr⟩ := HC.out.put 4 (by decide) hd
  have Hxyn : Hid (RgC col13 4 w20 xyb XYZ) := hr
  replace Hx : Hid (RgC col13 1 w20 xb XYZ) := ho _ (by decide) (by decide) _ _ Hx.out
  replace Hv : Hid (DcC col13 w20 (.slice av A.length cv) A) := hdc _ _ Hv.out
  replace Hy : Hid (RgC col13 2 w20 yb B) := ho _ (by decide) (by decide) _ _ Hy.out
  replace Hw : Hid (DcC col13 w20 (.slice aw B.length cw) B) := hdc _ _ Hw.out
  replace Hz : Hid (RgC col13 3 w20 zb C) := ho _ (by decide) (by decide) _ _ Hz.out
  replace Hu : Hid (DcC col13 w20 (.slice au C.length cu) C) := hdc _ _ Hu.out
  replace Hyx : Hid (RgC col13 5 w20 yxb XY) := ho _ (by decide) (by decide) _ _ Hyx.out
  replace Hboth : Hid (DcC col13 w20 (.slice aHboth XY.length cHboth) XY) := hdc _ _ Hboth.out
  replace Hyz : Hid (RgC col13 6 w20 yzb YZ) := ho _ (by decide) (by decide) _ _ Hyz.out
  replace Hxy : Hid (RgC col13 4 w20 xyb XYZ) := Hxyn.out
  replace HC : Hid (Col w w20 col13) := hc
  replace HFr : Hid (∀ m, 7 ≤ m → ∀ j, col13 j ≠ m) := fun m hm => hfr m (by omega) (by omega) (HFr.out m (by omega))
  clear hc hr ho hdc hfr hd Hxyn
  go_wp2_with fail
  refine (all_v _ _ XYZ _ Hx.out.rv).mono ?_
  rintro e w21 ⟨u, rfl, hou, hb⟩
  replace HC : Hid (Col w w21 col13) := HC.out.below hb
  replace Hx : Hid (RgC col13 1 w21 xb XYZ) := Hx.out.below hb
  replace Hv : Hid (DcC col13 w21 (.slice av A.length cv) A) := Hv.out.below hb
  replace Hy : Hid (RgC col13 2 w21 yb B) := Hy.out.below hb
  replace Hw : Hid (DcC col13 w21 (.slice aw B.length cw) B) := Hw.out.below hb
  replace Hz : Hid (RgC col13 3 w21 zb C) := Hz.out.below hb
  replace Hu : Hid (DcC col13 w21 (.slice au C.length cu) C) := Hu.out.below hb
  replace Hxy : Hid (RgC col13 4 w21 xyb XYZ) := Hxy.out.below hb
  replace Hyx : Hid (RgC col13 5 w21 yxb XY) := Hyx.out.below hb
  replace Hboth : Hid (DcC col13 w21 (.slice aHboth XY.length cHboth) XY) := Hboth.out.below hb
  replace Hyz : Hid (RgC col13 6 w21 yzb YZ) := Hyz.out.below hb
  clear hb
  obtain ⟨aO4, cO4, eu⟩ := hou.form
  subst eu
  have O4 : Hid (LsE rgCells 7 (fun _ => True) w21 (.slice aO4 XYZ.length cO4) XYZ) := hou.lsE rgCells_len (by have h1 := HLen.out; (try simp only [List.length_nil]); omega) (fun _ _ => trivial)
  clear hou
  go_wp2_with fail
  refine (all_v _ _ XYZ _ Hxy.out.rv).mono ?_
  rintro e w22 ⟨u, rfl, hou, hb⟩
  replace HC : Hid (Col w w22 col13) := HC.out.below hb
  replace Hx : Hid (RgC col13 1 w22 xb XYZ) := Hx.out.below hb
  replace Hv : Hid (DcC col13 w22 (.slice av A.length cv) A) := Hv.out.below hb
  replace Hy : Hid (RgC col13 2 w22 yb B) := Hy.out.below hb
  replace Hw : Hid (DcC col13 w22 (.slice aw B.length cw) B) := Hw.out.below hb
  replace Hz : Hid (RgC col13 3 w22 zb C) := Hz.out.below hb
  replace Hu : Hid (DcC col13 w22 (.slice au C.length cu) C) := Hu.out.below hb
  replace Hxy : Hid (RgC col13 4 w22 xyb XYZ) := Hxy.out.below hb
  replace Hyx : Hid (RgC col13 5 w22 yxb XY) := Hyx.out.below hb
  replace Hboth : Hid (DcC col13 w22 (.slice aHboth XY.length cHboth) XY) := Hboth.out.below hb
  replace Hyz : Hid (RgC col13 6 w22 yzb YZ) := Hyz.out.below hb
  replace O4 : Hid (LsE rgCells 7 (fun _ => True) w22 (.slice aO4 XYZ.length cO4) XYZ) := O4.out.below hb
  clear hb
  obtain ⟨aO5, cO5, eu⟩ := hou.form
  subst eu
  have O5 : Hid (LsE rgCells 7 (fun _ => True) w22 (.slice aO5 XYZ.length cO5) XYZ) := hou.lsE rgCells_len (by have h1 := HLen.out; (try simp only [List.length_nil]); omega) (fun _ _ => trivial)
  clear hou
  go_wp2_with fail
  refine (refSame_any _ _ _ _ XYZ XYZ _ O4.out O5.out).mono ?_
  rintro e w23 ⟨rfl, hb⟩
  clear O4 O5
  replace HC : Hid (Col w w23 col13) := HC.out.below hb
  replace Hx : Hid (RgC col13 1 w23 xb XYZ) := Hx.out.below hb
  replace Hv : Hid (DcC col13 w23 (.slice av A.length cv) A) := Hv.out.below hb
  replace Hy : Hid (RgC col13 2 w23 yb B) := Hy.out.below hb
  replace Hw : Hid (DcC col13 w23 (.slice aw B.length cw) B) := Hw.out.below hb
  replace Hz : Hid (RgC col13 3 w23 zb C) := Hz.out.below hb
  replace Hu : Hid (DcC col13 w23 (.slice au C.length cu) C) := Hu.out.below hb
  replace Hxy : Hid (RgC col13 4 w23 xyb XYZ) := Hxy.out.below hb
  replace Hyx : Hid (RgC col13 5 w23 yxb XY) := Hyx.out.below hb
  replace Hboth : Hid (DcC col13 w23 (.slice aHboth XY.length cHboth) XY) := Hboth.out.below hb
  replace Hyz : Hid (RgC col13 6 w23 yzb YZ) := Hyz.out.below hb
  clear hb
  rw [decide_eq_true rfl]
  go_wp2_with fail
  refine (all_v _ _ XYZ _ Hxy.out.rv).mono ?_
  rintro e w24 ⟨u, rfl, hou, hb⟩
  replace HC : Hid (Col w w24 col13) := HC.out.below hb
  replace Hx : Hid (RgC col13 1 w24 xb XYZ) := Hx.out.below hb
  replace Hv : Hid (DcC col13 w24 (.slice av A.length cv) A) := Hv.out.below hb
  replace Hy : Hid (RgC col13 2 w24 yb B) := Hy.out.below hb
  replace Hw : Hid (DcC col13 w24 (.slice aw B.length cw) B) := Hw.out.below hb
  replace Hz : Hid (RgC col13 3 w24 zb C) := Hz.out.below hb
  replace Hu : Hid (DcC col13 w24 (.slice au C.length cu) C) := Hu.out.below hb
  replace Hxy : Hid (RgC col13 4 w24 xyb XYZ) := Hxy.out.below hb
  replace Hyx : Hid (RgC col13 5 w24 yxb XY) := Hyx.out.below hb
  replace Hboth : Hid (DcC col13 w24 (.slice aHboth XY.length cHboth) XY) := Hboth.out.below hb
  replace Hyz : Hid (RgC col13 6 w24 yzb YZ) := Hyz.out.below hb
  clear hb
  obtain ⟨aO6, cO6, eu⟩ := hou.form
  subst eu
  have O6 : Hid (LsE rgCells 7 (fun _ => True) w24 (.slice aO6 XYZ.length cO6) XYZ) := hou.lsE rgCells_len (by have h1 := HLen.out; (try simp only [List.length_nil]); omega) (fun _ _ => trivial)
  clear hou
  go_wp2_with fail
  refine (refMerge_any (fun j => col13 j = 0) _ _ XY C _ Hboth.out Hu.out HbXY.out.srt (by have h1 := HLen.out; (try simp only [List.length_nil]); omega) HsC.out).mono ?_
  rintro e w25 ⟨u, rfl, hou, hb⟩
  rw [HE5.out] at hou
  have hou2 : DcC col13 w25 u XYZ := hou.mono fun j hj => hj.elim id (fun h9 => Classical.byContradiction fun h8 => (by have := HC.out.lt j h8; omega))
  replace HC : Hid (Col w w25 col13) := HC.out.below hb
  replace Hx : Hid (RgC col13 1 w25 xb XYZ) := Hx.out.below hb
  replace Hv : Hid (DcC col13 w25 (.slice av A.length cv) A) := Hv.out.below hb
  replace Hy : Hid (RgC col13 2 w25 yb B) := Hy.out.below hb
  replace Hw : Hid (DcC col13 w25 (.slice aw B.length cw) B) := Hw.out.below hb
  replace Hz : Hid (RgC col13 3 w25 zb C) := Hz.out.below hb
  replace Hu : Hid (DcC col13 w25 (.slice au C.length cu) C) := Hu.out.below hb
  replace Hxy : Hid (RgC col13 4 w25 xyb XYZ) := Hxy.out.below hb
  replace Hyx : Hid (RgC col13 5 w25 yxb XY) := Hyx.out.below hb
  replace Hboth : Hid (DcC col13 w25 (.slice aHboth XY.length cHboth) XY) := Hboth.out.below hb
  replace Hyz : Hid (RgC col13 6 w25 yzb YZ) := Hyz.out.below hb
  replace O6 : Hid (LsE rgCells 7 (fun _ => True) w25 (.slice aO6 XYZ.length cO6) XYZ) := O6.out.below hb
  clear hb
  obtain ⟨aHbu, cHbu, eu⟩ := hou2.form
  subst eu
  have Hbu : Hid (DcC col13 w25 (.slice aHbu XYZ.length cHbu) XYZ) := hou2
  clear hou hou2
  go_wp2_with fail
  refine (refSame_any _ _ _ _ XYZ XYZ _ O6.out Hbu.out).mono ?_
  rintro e w26 ⟨rfl, hb⟩
  clear O6
  replace HC : Hid (Col w w26 col13) := HC.out.below hb
  replace Hx : Hid (RgC col13 1 w26 xb XYZ) := Hx.out.below hb
  replace Hv : Hid (DcC col13 w26 (.slice av A.length cv) A) := Hv.out.below hb
  replace Hy : Hid (RgC col13 2 w26 yb B) := Hy.out.below hb
  replace Hw : Hid (DcC col13 w26 (.slice aw B.length cw) B) := Hw.out.below hb
  replace Hz : Hid (RgC col13 3 w26 zb C) := Hz.out.below hb
  replace Hu : Hid (DcC col13 w26 (.slice au C.length cu) C) := Hu.out.below hb
  replace Hxy : Hid (RgC col13 4 w26 xyb XYZ) := Hxy.out.below hb
  replace Hyx : Hid (RgC col13 5 w26 yxb XY) := Hyx.out.below hb
  replace Hboth : Hid (DcC col13 w26 (.slice aHboth XY.length cHboth) XY) := Hboth.out.below hb
  replace Hyz : Hid (RgC col13 6 w26 yzb YZ) := Hyz.out.below hb
  replace Hbu : Hid (DcC col13 w26 (.slice aHbu XYZ.length cHbu) XYZ) := Hbu.out.below hb
  clear hb
  rw [decide_eq_true rfl]
  go_wp2_with fail
  refine (all_v _ _ B _ Hy.out.rv).mono ?_
  rintro e w27 ⟨u, rfl, hou, hb⟩
  replace HC : Hid (Col w w27 col13) := HC.out.below hb
  replace Hx : Hid (RgC col13 1 w27 xb XYZ) := Hx.out.below hb
  replace Hv : Hid (DcC col13 w27 (.slice av A.length cv) A) := Hv.out.below hb
  replace Hy : Hid (RgC col13 2 w27 yb B) := Hy.out.below hb
  replace Hw : Hid (DcC col13 w27 (.slice aw B.length cw) B) := Hw.out.below hb
  replace Hz : Hid (RgC col13 3 w27 zb C) := Hz.out.below hb
  replace Hu : Hid (DcC col13 w27 (.slice au C.length cu) C) := Hu.out.below hb
  replace Hxy : Hid (RgC col13 4 w27 xyb XYZ) := Hxy.out.below hb
  replace Hyx : Hid (RgC col13 5 w27 yxb XY) := Hyx.out.below hb
  replace Hboth : Hid (DcC col13 w27 (.slice aHboth XY.length cHboth) XY) := Hboth.out.below hb
  replace Hyz : Hid (RgC col13 6 w27 yzb YZ) := Hyz.out.below hb
  replace Hbu : Hid (DcC col13 w27 (.slice aHbu XYZ.length cHbu) XYZ) := Hbu.out.below hb
  clear hb
  obtain ⟨aO7, cO7, eu⟩ := hou.form
  subst eu
  have O7 : Hid (LsE rgCells 7 (fun _ => True) w27 (.slice aO7 B.length cO7) B) := hou.lsE rgCells_len (by have h1 := HLen.out; (try simp only [List.length_nil]); omega) (fun _ _ => trivial)
  clear hou
  go_wp2_with fail
  refine (refSame_any _ _ _ _ B B _ O7.out Hw.out).mono ?_
  rintro e w28 ⟨rfl, hb⟩
  clear O7
  replace HC : Hid (Col w w28 col13) := HC.out.below hb
  replace Hx : Hid (RgC col13 1 w28 xb XYZ) := Hx.out.below hb
  replace Hv : Hid (DcC col13 w28 (.slice av A.length cv) A) := Hv.out.below hb
  replace Hy : Hid (RgC col13 2 w28 yb B) := Hy.out.below hb
  replace Hw : Hid (DcC col13 w28 (.slice aw B.length cw) B) := Hw.out.below hb
  replace Hz : Hid (RgC col13 3 w28 zb C) := Hz.out.below hb
  replace Hu : Hid (DcC col13 w28 (.slice au C.length cu) C) := Hu.out.below hb
  replace Hxy : Hid (RgC col13 4 w28 xyb XYZ) := Hxy.out.below hb
  replace Hyx : Hid (RgC col13 5 w28 yxb XY) := Hyx.out.below hb
  replace Hboth : Hid (DcC col13 w28 (.slice aHboth XY.length cHboth) XY) := Hboth.out.below hb
  replace Hyz : Hid (RgC col13 6 w28 yzb YZ) := Hyz.out.below hb
  replace Hbu : Hid (DcC col13 w28 (.slice aHbu XYZ.length cHbu) XYZ) := Hbu.out.below hb
  clear hb
  rw [decide_eq_true rfl]
  go_wp2_with fail
  refine (all_v _ _ C _ Hz.out.rv).mono ?_
  rintro e w29 ⟨u, rfl, hou, hb⟩
  replace HC : Hid (Col w w29 col13) := HC.out.below hb
  replace Hx : Hid (RgC col13 1 w29 xb XYZ) := Hx.out.below hb
  replace Hv : Hid (DcC col13 w29 (.slice av A.length cv) A) := Hv.out.below hb
  replace Hy : Hid (RgC col13 2 w29 yb B) := Hy.out.below hb
  replace Hw : Hid (DcC col13 w29 (.slice aw B.length cw) B) := Hw.out.below hb
  replace Hz : Hid (RgC col13 3 w29 zb C) := Hz.out.below hb
  replace Hu : Hid (DcC col13 w29 (.slice au C.length cu) C) := Hu.out.below hb
  replace Hxy : Hid (RgC col13 4 w29 xyb XYZ) := Hxy.out.below hb
  replace Hyx : Hid (RgC col13 5 w29 yxb XY) := Hyx.out.below hb
  replace Hboth : Hid (DcC col13 w29 (.slice aHboth XY.length cHboth) XY) := Hboth.out.below hb
  replace Hyz : Hid (RgC col13 6 w29 yzb YZ) := Hyz.out.below hb
  replace Hbu : Hid (DcC col13 w29 (.slice aHbu XYZ.length cHbu) XYZ) := Hbu.out.below hb
  clear hb
  obtain ⟨aO8, cO8, eu⟩ := hou.form
  subst eu
  have O8 : Hid (LsE rgCells 7 (fun _ => True) w29 (.slice aO8 C.length cO8) C) := hou.lsE rgCells_len (by have h1 := HLen.out; (try simp only [List.length_nil]); omega) (fun _ _ => trivial)
  clear hou
  go_wp2_with fail
  refine (refSame_any _ _ _ _ C C _ O8.out Hu.out).mono ?_
  rintro e w30 ⟨rfl, hb⟩
  clear O8
  replace HC : Hid (Col w w30 col13) := HC.out.below hb
  replace Hx : Hid (RgC col13 1 w30 xb XYZ) := Hx.out.below hb
  replace Hv : Hid (DcC col13 w30 (.slice av A.length cv) A) := Hv.out.below hb
  replace Hy : Hid (RgC col13 2 w30 yb B) := Hy.out.below hb
  replace Hw : Hid (DcC col13 w30 (.slice aw B.length cw) B) := Hw.out.below hb
  replace Hz : Hid (RgC col13 3 w30 zb C) := Hz.out.below hb
  replace Hu : Hid (DcC col13 w30 (.slice au C.length cu) C) := Hu.out.below hb
  replace Hxy : Hid (RgC col13 4 w30 xyb XYZ) := Hxy.out.below hb
  replace Hyx : Hid (RgC col13 5 w30 yxb XY) := Hyx.out.below hb
  replace Hboth : Hid (DcC col13 w30 (.slice aHboth XY.length cHboth) XY) := Hboth.out.below hb
  replace Hyz : Hid (RgC col13 6 w30 yzb YZ) := Hyz.out.below hb
  replace Hbu : Hid (DcC col13 w30 (.slice aHbu XYZ.length cHbu) XYZ) := Hbu.out.below hb
  clear hb
  rw [decide_eq_true rfl]
  go_wp2_with fail
  refine (awake_any _).mono ?_
  rintro e wz ⟨rfl, hb⟩
  have HBz : Hid (Below w.heap.size w wz) := HC.out.bel.trans (hb.mono HC.out.bel.size)
  clear hb HC
  go_wp2
  go_ret
  exact ⟨rfl, HBz.out⟩

end Go.Proofs.Ytoljacnipkibiaa
