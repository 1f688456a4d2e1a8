/- CausalTakes of package topiarylaw09 is proved at this commit: for every input (a number, a list of changes that come, each with a clock, any) the call returns true and the arguments read as they did. No condition. -/
import Derived.Test.YthndgmnckpimmaaBaseO
import Derived.Test.YthndgmnckpimmaaZCs
import Derived.Test.YthndgmnckpimmaaCaZ
import Derived.Test.YthndgmnckpimmaaOlQ
namespace Go.Proofs.Ythndgmnckpimmaa
open Go.ChangeShapes Go.WideShapes Go.ChangeAt Go.RowKit Go.Joins Go.Deep
set_option linter.unusedVariables false
set_option linter.constructorNameAsVariable false
set_option maxRecDepth 100000

theorem cellsCm : Try.prog.cellsOf 37 = 15 := by kernel_rfl
theorem list15 {α : Type} {cs : List α} (h : cs.length = 15) : ∃ c0 c1 c2 c3 c4 c5 c6 c7 c8 c9 c10 c11 c12 c13 c14, cs = [c0, c1, c2, c3, c4, c5, c6, c7, c8, c9, c10, c11, c12, c13, c14] := by
  match cs, h with
  | [c0, c1, c2, c3, c4, c5, c6, c7, c8, c9, c10, c11, c12, c13, c14], _ => exact ⟨c0, c1, c2, c3, c4, c5, c6, c7, c8, c9, c10, c11, c12, c13, c14, rfl⟩

section
variable {H : Type} {enc : TypeId × Value → H} {W : World} {held : Bool}

set_option maxHeartbeats 4000000 in
theorem open_cm {fuel : Nat} {c0 c1 c2 c3 c4 c5 c6 c7 c8 c9 c10 c11 c12 c13 c14 : Value} {x : DataW H × List MemPlace} (hf : DataW.trod enc Try.prog W 0 (fun _ => true) held fuel 37 [c0, c1, c2, c3, c4, c5, c6, c7, c8, c9, c10, c11, c12, c13, c14] = some x) (hw : ∀ n ∈ x.1.weights Try.prog 37, n ≤ reachBytes) :
    ∃ (κ : Int) (kn : List Int) (c : Ch) (dv : Value), c0 = .int .i64 κ ∧ IsI W c1 kn ∧ [c2, c3, c4, c5, c6, c7, c8, c9, c10, c11, c12, c13, c14] = chCells c dv ∧ IsI W dv c.deps ∧ Sized c := by
  obtain ⟨xs, n, _, hx, _, hlen, hfs⟩ := DataW.trod_struct Try.underlying37 hf
  match xs, hlen with
  | [x0, x1, x2], _ =>
    have g0 : DataW.trod enc Try.prog W 0 (fun _ => true) held n 3 [c0] = some x0 := by have := hfs 0 _ rfl; simpa [cellsInt, cellsChG, cellsIntsG] using this
    have g1 : DataW.trod enc Try.prog W 0 (fun _ => true) held n 31 [c1] = some x1 := by have := hfs 1 _ rfl; simpa [cellsInt, cellsChG, cellsIntsG] using this
    have g2 : DataW.trod enc Try.prog W 0 (fun _ => true) held n 35 [c2, c3, c4, c5, c6, c7, c8, c9, c10, c11, c12, c13, c14] = some x2 := by have := hfs 2 _ rfl; simpa [cellsInt, cellsChG, cellsIntsG] using this
    have hall := sized_struct (ts := [37]) (ds := [.agg [x0.1, x1.1, x2.1]]) (by
      rw [List.all_eq_true]
      intro q hq
      have hq' : q ∈ (DataW.agg [x0.1, x1.1, x2.1]).weights Try.prog 37 := by simpa [DataW.weightsEach] using hq
      refine decide_eq_true (hw q ?_)
      rw [hx]
      exact hq') (j := 0) rfl rfl Try.underlying37
    obtain ⟨κ, e, _, _⟩ := DataW.trod_int Try.underlying3 g0
    simp at e; subst e
    obtain ⟨kn, ⟨a, cap, e1, h1, h2⟩, hd⟩ := open_intsG g1
    have hl : kn.length ≤ 17592186044416 := by
      rcases hd with ⟨_, rfl⟩ | ⟨els, sp, e, he⟩
      · simp
      · have h3 := sized_slice hall (j := 1) (t := 31) (elems := els) (spare := sp) rfl (by rw [← e]; rfl) Try.underlying31
        have h4 : reachBytes ≤ 140737488355328 := by decide
        rw [bytesInt] at h3
        omega
    obtain ⟨ac, ar, sq, dv, ds, kd, nc, nr, pc, pr, fc, fr, nm, vl, ho⟩ := open_chg g2
    have hwc : ∀ q ∈ x2.1.weights Try.prog 35, q ≤ reachBytes := fun q hq => by
      have := List.all_eq_true.1 hall q (DataW.weights_mem_each (j := 2) rfl rfl q hq)
      simpa using this
    have hI := open_chAt ho hwc
    have hS := ch_sizes ho hwc
    obtain ⟨ev, _⟩ := ho
    injection ev with ev
    have e2 := congrArg Array.toList ev
    simp only at e2
    exact ⟨κ, kn, ⟨ac, ar, sq, ds, kd, nc, nr, pc, pr, fc, fr, nm, vl⟩, dv, rfl, ⟨a, cap, e1, h1, hl, h2⟩, e2, hI, hS.2⟩

/-- A list of them that came in. -/
theorem open_cms {n : Nat} {v : Value} {x : DataW H × List MemPlace} (hf : DataW.trod enc Try.prog W 0 (fun _ => true) held n 22 [v] = some x) (hw : ∀ n ∈ x.1.weights Try.prog 22, n ≤ reachBytes) : ∃ L : List Cm, IsM W v L := by
  rcases open_slice Try.underlying22 hf with ⟨hc, hx⟩ | ⟨a, len, cap, m, k, D, Pl, hc, _, hl, hm, hmm, hx, hel⟩
  · simp at hc
    subst hc
    exact ⟨[], IsM.non 0⟩
  · simp at hc
    subst hc
    have hml : len ≤ m := by rw [hmm]; simp only [if_true]; exact hl
    have hwe : ∀ i, i < len → ∀ q ∈ (D i).weights Try.prog 37, q ≤ reachBytes := fun i hi q hq => by
      refine hw q ?_
      rw [hx]
      show q ∈ (DataW.slice _ _).weights Try.prog _
      rw [DataW.weights, Try.underlying22]
      simp only [List.mem_cons, List.mem_append]
      exact .inr (.inl (weights_all (List.mem_map.2 ⟨i, List.mem_range.2 hi, rfl⟩) hq))
    have hch : ∀ i, i < len → ∃ c : Cm, ∀ b o, a = ⟨b, o, none⟩ → CmAt W b (o + i * 15) c := fun i hi => by
      obtain ⟨cs', h1, h2⟩ := hel i (by omega)
      rw [cellsCm] at h1
      obtain ⟨hb1, hb2, hb3⟩ := World.cells?_some h1
      obtain ⟨c0, c1, c2, c3, c4, c5, c6, c7, c8, c9, c10, c11, c12, c13, c14, rfl⟩ := list15 hb2
      obtain ⟨κ, kn, c, dv, rfl, hk, hcs, hI, hS⟩ := open_cm h2 (hwe i hi)
      refine ⟨⟨κ, kn, c⟩, fun b o ea => ?_⟩
      subst ea
      have hcell : ∀ j (hj : j < 15), W.cell? ⟨b, o + i * 15 + j, none⟩ = [Value.int .i64 κ, c1, c2, c3, c4, c5, c6, c7, c8, c9, c10, c11, c12, c13, c14][j]? := fun j hj => by
        have h5 := hb3 j hj
        rw [Addr.add_lit, Addr.add_lit] at h5
        exact h5
      refine ⟨hcell 0 (by omega), ⟨c1, hcell 1 (by omega), hk⟩, dv, fun j u hj => ?_, hI, hS⟩
      have hj13 : j < 13 := (List.getElem?_eq_some_iff.1 hj).1
      rw [show o + i * 15 + 2 + j = o + i * 15 + (2 + j) by omega, hcell (2 + j) (by omega)]
      rw [← hcs] at hj
      rw [show 2 + j = j + 2 by omega]
      exact hj
    obtain ⟨c, hcc⟩ : ∃ c : Nat → Cm, ∀ i, i < len → ∀ b o, a = ⟨b, o, none⟩ → CmAt W b (o + i * 15) (c i) := by
      refine ⟨fun i => if h : i < len then Classical.choose (hch i h) else ⟨0, [], Ch.none⟩, fun i hi => ?_⟩
      simp only [dif_pos hi]
      exact Classical.choose_spec (hch i hi)
    have hw0 := hw ((len + (m - len)) * Try.prog.bytesOf 37) (by
      rw [hx]
      show _ ∈ (DataW.slice _ _).weights Try.prog _
      rw [DataW.weights, Try.underlying22]
      simp)
    have hb0 : Try.prog.bytesOf 37 = 168 := by kernel_rfl
    have h2 : reachBytes ≤ 140737488355328 := by decide
    rw [hb0] at hw0
    have hLL : ((List.range len).map c).length = len := by simp
    refine ⟨(List.range len).map c, ⟨some a, cap, by rw [hLL], by rw [hLL]; exact hl, by rw [hLL]; omega, ?_⟩⟩
    by_cases h0 : len = 0
    · left; simp [h0]
    · right
      obtain ⟨b, o, spot⟩ := a
      obtain ⟨cs', h1, _⟩ := hel 0 (by omega)
      rw [cellsCm] at h1
      obtain ⟨_, hb2, hb3⟩ := World.cells?_some h1
      have g0 := hb3 0 (by decide)
      have hspot : spot = none := by
        obtain ⟨c0, c1, c2, c3, c4, c5, c6, c7, c8, c9, c10, c11, c12, c13, c14, rfl⟩ := list15 hb2
        simpa [Addr.add] using World.cell?_spot g0
      subst hspot
      refine ⟨b, o, rfl, fun i hi => ?_⟩
      rw [hLL] at hi
      rw [show ((List.range len).map c)[i] = c i by simp]
      exact hcc i hi b o rfl

theorem open_cmsV {r : Reach} {b0 : Nat} {v : Value} {d : DataW H} {p : List MemPlace} (hv : Value.okWide Try.prog W r b0 22 v) (h : DataW.Trod enc Try.prog W 0 (fun _ => true) held 22 v d p) (hw : ∀ n ∈ d.weights Try.prog 22, n ≤ reachBytes) :
    ∃ L : List Cm, IsM W v L := by
  obtain ⟨a0, len0, cap0, rfl⟩ := okWide_slice Try.underlying22 hv
  obtain ⟨fuel, hf⟩ := h
  exact open_cms (x := (d, p)) hf hw

end

end Go.Proofs.Ythndgmnckpimmaa

namespace Go.Proofs.Ythndgmnckpimmaa
open Go.RowKit
set_option linter.unusedVariables false
set_option linter.unusedSimpArgs false

set_option maxRecDepth 100000 in
set_option maxHeartbeats 16000000 in
theorem takesWalk (room : Int) (v : Value) (l : List Cm) (w : World) (_ : (Lit.int .i64 room).wf = true) (h : IsM w v l) :
    Calls Try.prog 3 #[.int .i64 room, v] w fun e w' => e = .returned (.bool true) ∧ Below w.heap.size w w' := by
  have HH : Hid (IsM w v l) := h
  obtain ⟨a1, c1, e1, _⟩ := h
  subst e1
  go_enter Try.func3, Try.ntmps3
  go_wp2_with fail
  refine (new_any room _).mono ?_
  rintro e w1 ⟨h, hb1⟩
  rcases h with ⟨h, rfl⟩ | ⟨hr, bb, mb, rfl, hL, hF1, hF2⟩
  · have HB1 : Hid (Below w.heap.size w w1) := hb1
    clear hb1
    rcases h with h | h
    · go_wp2_with (go_at_call 7; refine (awake_any _).mono ?_; rintro e w4 ⟨rfl, hb4⟩)
      go_ret
      exact ⟨rfl, HB1.out.trans (hb4.mono HB1.out.size)⟩
    · have h2 : ¬ room < 0 := by omega
      go_wp2_with (go_at_call 7; refine (awake_any _).mono ?_; rintro e w4 ⟨rfl, hb4⟩)
      go_ret
      exact ⟨rfl, HB1.out.trans (hb4.mono HB1.out.size)⟩
  obtain ⟨hr0, hr1⟩ := hr
  have q1 : ¬ room < 0 := by omega
  have q2 : ¬ 256 < room := by omega
  obtain ⟨W2, eW2⟩ : ∃ X, X = w1.alloc (.cells #[.int .i64 room, .slice none 0 0] 30) := ⟨_, rfl⟩
  obtain ⟨yb, eyb⟩ : ∃ b, b = w1.heap.size := ⟨_, rfl⟩
  have hb2 : Below w1.heap.size w1 W2 := by rw [eW2]; exact (Below.refl _ _).alloc (Nat.le_refl _) _
  have HA1 : Hid (OwS w bb yb room [] [] (.slice none 0 0) (.slice none 0 0) (fun k => k = mb ∨ k = bb) (fun k => k < w.heap.size) W2) := by
    have hs1 := hb1.size
    have hs2 := hb2.size
    have hbm : mb < w1.heap.size ∧ bb < w1.heap.size := ⟨hL.lt mb (.inl rfl), hL.lt bb (.inr rfl)⟩
    refine ⟨BufH.below ⟨[], hL.v, List.Perm.refl _, List.Pairwise.nil⟩ hb2, ⟨fun k hk => by omega, none, 0, rfl, Nat.le_refl _, by simp, .inl rfl⟩, fun k h1 h2 => by rcases h1 with rfl | rfl <;> omega, fun k h1 => by rcases h1 with rfl | rfl <;> omega, fun k hk => hk, ?_, fun h1 => by rcases h1 with rfl | rfl <;> omega, by omega, by omega, hb1.trans (hb2.mono hb1.size)⟩
    rw [eyb, eW2]; exact heap_alloc_new _ _
  clear hL hb1 hF1 hF2 hb2
  go_wp2
  rw [← eW2, ← eyb]
  clear eW2 eyb
  go_loopw [5, 8] (fun xv iv wr => ∃ (i : Nat) (H : List Ch) (F G : Nat → Prop) (yl : Value) (bb : Nat), xv = .pointer (some ⟨bb, 0, none⟩) ∧ i ≤ l.length ∧ iv = .int .i64 (i : Int) ∧ (H.length : Int) ≤ room ∧ Hid (OwS w bb yb room H H yl yl F G wr)) (fun _ iv _ => l.length - (intOf iv).toNat)
  case atStart => exact ⟨0, [], _, _, _, bb, rfl, Nat.zero_le _, rfl, by simpa using hr0, HA1⟩
  case round =>
    obtain ⟨i, H, F, G, yl, bb, rfl, hi, rfl, hHl, HA⟩ := hrel
    clear HA1
    obtain ⟨ay, cy, ey⟩ := HA.out.doc.isH.form
    subst ey
    have HPC : Hid (Plc H ∧ ∀ x ∈ H, checkCh x = 0) := HA.out.buf.ok
    by_cases hlt : i < l.length
    · obtain ⟨_, _, e, _, hll, hrow⟩ := HH.out
      cases e
      obtain ⟨b, o, rfl, hrow2⟩ := hrow.resolve_left (by intro e; subst e; simp at hlt)
      obtain ⟨q_k, ⟨kv, q_v, hkI⟩, hchA⟩ := hrow2 i hlt
      obtain ⟨ak, ck, ek⟩ := hkI.form
      subst ek
      obtain ⟨a3, c3, hI3, hS3, q_0, q_1, q_2, q_3, q_4, q_5, q_6, q_7, q_8, q_9, q_10, q_11, q_12⟩ := hchA.all
      have hbl : b < w.heap.size := cell_lt q_k
      have i1 : (i : Int) < (l.length : Int) := by omega
      have i0 : (0 : Int) ≤ (i : Int) := by omega
      clear hrow hrow2 hchA
      generalize l[i] = x at *
      obtain ⟨κ, kn, ⟨ac, ar, sq, ds, kd, nc, nr, pc, pr, fc, fr, nm, vl⟩⟩ := x
      simp only at q_k q_v q_0 q_1 q_2 q_3 q_4 q_5 q_6 q_7 q_8 q_9 q_10 q_11 q_12 hI3 hS3 hkI
      have HC : Hid (∀ W', Below w.heap.size w W' → W'.cell? ⟨b, o + i * 15, none⟩ = some (.int .i64 κ) ∧ W'.cell? ⟨b, o + i * 15 + 1, none⟩ = some (.slice ak kn.length ck) ∧ W'.cell? ⟨b, o + i * 15 + 2, none⟩ = some (.int .i64 ac) ∧ W'.cell? ⟨b, o + i * 15 + 2 + 1, none⟩ = some (.int .i64 ar) ∧ W'.cell? ⟨b, o + i * 15 + 2 + 2, none⟩ = some (.int .i64 sq) ∧ W'.cell? ⟨b, o + i * 15 + 2 + 3, none⟩ = some (.slice a3 ds.length c3) ∧ W'.cell? ⟨b, o + i * 15 + 2 + 4, none⟩ = some (.int .i64 kd) ∧ W'.cell? ⟨b, o + i * 15 + 2 + 5, none⟩ = some (.int .i64 nc) ∧ W'.cell? ⟨b, o + i * 15 + 2 + 6, none⟩ = some (.int .i64 nr) ∧ W'.cell? ⟨b, o + i * 15 + 2 + 7, none⟩ = some (.int .i64 pc) ∧ W'.cell? ⟨b, o + i * 15 + 2 + 8, none⟩ = some (.int .i64 pr) ∧ W'.cell? ⟨b, o + i * 15 + 2 + 9, none⟩ = some (.int .i64 fc) ∧ W'.cell? ⟨b, o + i * 15 + 2 + 10, none⟩ = some (.int .i64 fr) ∧ W'.cell? ⟨b, o + i * 15 + 2 + 11, none⟩ = some (.string nm) ∧ W'.cell? ⟨b, o + i * 15 + 2 + 12, none⟩ = some (.string vl)) := fun W' hb => ⟨(hb.cell (p := ⟨b, o + i * 15, none⟩) hbl).trans q_k, (hb.cell (p := ⟨b, o + i * 15 + 1, none⟩) hbl).trans q_v, (hb.cell (p := ⟨b, o + i * 15 + 2, none⟩) hbl).trans q_0, (hb.cell (p := ⟨b, o + i * 15 + 2 + 1, none⟩) hbl).trans q_1, (hb.cell (p := ⟨b, o + i * 15 + 2 + 2, none⟩) hbl).trans q_2, (hb.cell (p := ⟨b, o + i * 15 + 2 + 3, none⟩) hbl).trans q_3, (hb.cell (p := ⟨b, o + i * 15 + 2 + 4, none⟩) hbl).trans q_4, (hb.cell (p := ⟨b, o + i * 15 + 2 + 5, none⟩) hbl).trans q_5, (hb.cell (p := ⟨b, o + i * 15 + 2 + 6, none⟩) hbl).trans q_6, (hb.cell (p := ⟨b, o + i * 15 + 2 + 7, none⟩) hbl).trans q_7, (hb.cell (p := ⟨b, o + i * 15 + 2 + 8, none⟩) hbl).trans q_8, (hb.cell (p := ⟨b, o + i * 15 + 2 + 9, none⟩) hbl).trans q_9, (hb.cell (p := ⟨b, o + i * 15 + 2 + 10, none⟩) hbl).trans q_10, (hb.cell (p := ⟨b, o + i * 15 + 2 + 11, none⟩) hbl).trans q_11, (hb.cell (p := ⟨b, o + i * 15 + 2 + 12, none⟩) hbl).trans q_12⟩
      have HIk : Hid (IsI w (.slice ak kn.length ck) kn) := hkI
      have HIc : Hid (IsI w (.slice a3 ds.length c3) ds) := hI3
      have HGc : Hid (∀ W', OwS w bb yb room H H (.slice ay H.length cy) (.slice ay H.length cy) F G W' → IsG G W' (.slice a3 ds.length c3) ds) := fun W' h => HIc.out.isG h.bel h.gw
      have HSz : Hid (Sized (⟨ac, ar, sq, ds, kd, nc, nr, pc, pr, fc, fr, nm, vl⟩ : Ch)) := hS3
      have HKl : Hid (kn.length ≤ 17592186044416) := by obtain ⟨_, _, _, _, hl, _⟩ := hkI; exact hl
      have HL0 : Hid (([] : List Int).length + kn.length ≤ 17592186044416) := by show 0 + kn.length ≤ _; have := HKl.out; omega
      obtain ⟨W0, eW0⟩ : ∃ X, X = wr.alloc (.cells #[] 3) := ⟨_, rfl⟩
      have hb0 : Below wr.heap.size wr W0 := by rw [eW0]; exact (Below.refl _ _).alloc (Nat.le_refl _) _
      have HFr : Hid (∀ k, F k → k < wr.heap.size) := HA.out.buf.lt
      have HYr : Hid (yb < wr.heap.size) := HA.out.ylt
      have HO0 : Hid (OwnI wr.heap.size W0 (.slice (some ⟨wr.heap.size, 0, none⟩) 0 0) []) := by rw [eW0]; exact OwnI.empty wr _ (Nat.le_refl _)
      have HA0 : Hid (OwS w bb yb room H H (.slice ay H.length cy) (.slice ay H.length cy) F G W0) := HA.out.below hb0
      have HI0 : Hid (IsI W0 (.slice ak kn.length ck) kn) := HIk.out.below HA0.out.bel
      have HB0 : Hid (wr.heap.size ≤ W0.heap.size) := hb0.size
      obtain ⟨p_0, p_1, p_2, p_3, p_4, p_5, p_6, p_7, p_8, p_9, p_10, p_11, p_12, p_13, p_14⟩ := HC.out _ HA0.out.bel
      rw [eW0] at p_0 p_1 p_2 p_3 p_4 p_5 p_6 p_7 p_8 p_9 p_10 p_11 p_12 p_13 p_14
      clear hI3 hS3 hkI q_k q_v q_0 q_1 q_2 q_3 q_4 q_5 q_6 q_7 q_8 q_9 q_10 q_11 q_12 hbl
      go_upto_region 11 with (at_builtin; rw [← eW0]; refine wpList_appI rfl _ _ rfl wr.heap.size _ [] rfl HO0.out HB0.out _ kn rfl HI0.out HL0.out ?_; intro v9 W1 ho9 hg9; have hb9 : Below wr.heap.size W0 W1 := (Below.refl _ _).grown hg9 HB0.out (fun j e => (World.ownsRow.lt HO0.out j e).1); have hb1 : Below wr.heap.size wr W1 := hb0.trans hb9; obtain ⟨a9, c9, e9⟩ := ho9.form; rw [List.nil_append] at ho9 e9; subst e9; have HKn : Hid (OwnI wr.heap.size W1 (.slice a9 kn.length c9) kn) := ho9; have HA1 : Hid (OwS w bb yb room H H (.slice ay H.length cy) (.slice ay H.length cy) F G W1) := HA.out.below hb1; clear ho9 hg9 hb9 hb1 HA0 HO0 HI0 HA; replace HA := HA1; clear HA1 eW0 p_0 p_1 p_2 p_3 p_4 p_5 p_6 p_7 p_8 p_9 p_10 p_11 p_12 p_13 p_14)
      have HNk : Hid (∀ k, ((.slice a9 kn.length c9) : Value).ownBlock = some k → ¬ F k) := fun k e q => by have := (World.ownsRow.lt HKn.out k e).1; have := HFr.out k q; omega
      have HYk : Hid (∀ k, ((.slice a9 kn.length c9) : Value).ownBlock = some k → k ≠ yb) := fun k e q => by have := (World.ownsRow.lt HKn.out k e).1; have := HYr.out; omega
      obtain ⟨N1, eN1⟩ : ∃ n, n = wr.heap.size := ⟨_, rfl⟩
      rw [← eN1] at HKn
      clear eN1 HFr HYr
      obtain ⟨p_0, p_1, p_2, p_3, p_4, p_5, p_6, p_7, p_8, p_9, p_10, p_11, p_12, p_13, p_14⟩ := HC.out _ HA.out.bel
      by_cases hκ0 : κ = 0
      · subst hκ0
        go_upto_region 12 with fail
        clear p_0 p_1 p_2 p_3 p_4 p_5 p_6 p_7 p_8 p_9 p_10 p_11 p_12 p_13 p_14
        refine wp_region_held_drew (S := fun W' => Below w.heap.size w W' ∧ W'.heap[yb]? = some (.cells #[.int .i64 room, .slice ay H.length cy] 30)) (by kernel_rfl) ⟨HA.out.bel.trans ((Below.refl _ _).drew.mono HA.out.bel.size), HA.out.box⟩ (fun hHeld => ?_)
        obtain ⟨Ug1u0, eW⟩ : ∃ X, X = W1.drew := ⟨_, rfl⟩
        have hb : Below W1.heap.size W1 Ug1u0 := by rw [eW]; exact (Below.refl _ _).drew
        replace HA : Hid (OwS w bb yb room H H (.slice ay H.length cy) (.slice ay H.length cy) F G Ug1u0) := HA.out.below hb
        replace HKn : Hid (OwnI N1 Ug1u0 (.slice a9 kn.length c9) kn) := HKn.out.below hb
        rw [← eW] at hHeld ⊢
        clear eW hb
        refine wpAnyH_take (i := 0) (oi := ⟨some 68, _, _, _, _, _⟩) (v := ?vg1ux0) rfl (by kernel_rfl) (by kernel_rfl) (by kernel_rfl) (fun _ _ _ h => h) (Or.inl ⟨by rfl, ?hyg1ux0⟩) hHeld ?restg1ux0
        case hyg1ux0 => (intro w hSw; (try dsimp only at hSw); obtain ⟨hk, hy⟩ := hSw; obtain ⟨p_0, p_1, p_2, p_3, p_4, p_5, p_6, p_7, p_8, p_9, p_10, p_11, p_12, p_13, p_14⟩ := HC.out _ hk; obtain ⟨x_0, x_1, _, _⟩ := row2_cells hy; go_simp; try with_reducible rfl)
        simp only [Act.put, List.setIfInBounds_toArray, List.set_cons_zero, List.set_cons_succ]
        refine wpAnyH_take (i := 1) (oi := ⟨some 69, _, _, _, _, _⟩) (v := ?vg1ux1) rfl (by kernel_rfl) (by kernel_rfl) (by kernel_rfl) (fun _ _ _ h => h) (Or.inl ⟨by rfl, ?hyg1ux1⟩) hHeld ?restg1ux1
        case hyg1ux1 => (intro w _; go_simp; try with_reducible rfl)
        simp only [Act.put, List.setIfInBounds_toArray, List.set_cons_zero, List.set_cons_succ]
        refine wpAnyH_take (i := 2) (oi := ⟨some 70, _, _, _, _, _⟩) (v := ?vg1ux2) rfl (by kernel_rfl) (by kernel_rfl) (by kernel_rfl) (fun _ _ _ h => h) (Or.inl ⟨by rfl, ?hyg1ux2⟩) hHeld ?restg1ux2
        case hyg1ux2 => (intro w _; go_simp; try with_reducible rfl)
        simp only [Act.put, List.setIfInBounds_toArray, List.set_cons_zero, List.set_cons_succ]
        refine wpAnyH_take (i := 3) (oi := ⟨some 71, _, _, _, _, _⟩) (v := ?vg1ux3) rfl (by kernel_rfl) (by kernel_rfl) (by kernel_rfl) (fun _ _ _ h => h) (Or.inl ⟨by rfl, ?hyg1ux3⟩) hHeld ?restg1ux3
        case hyg1ux3 => (intro w _; go_simp; try with_reducible rfl)
        simp only [Act.put, List.setIfInBounds_toArray, List.set_cons_zero, List.set_cons_succ]
        refine wpAnyH_take (i := 4) (oi := ⟨some 72, _, _, _, _, _⟩) (v := ?vg1ux4) rfl (by kernel_rfl) (by kernel_rfl) (by kernel_rfl) (fun _ _ _ h => h) (Or.inl ⟨by rfl, ?hyg1ux4⟩) hHeld ?restg1ux4
        case hyg1ux4 => (intro w hSw; (try dsimp only at hSw); obtain ⟨hk, hy⟩ := hSw; obtain ⟨p_0, p_1, p_2, p_3, p_4, p_5, p_6, p_7, p_8, p_9, p_10, p_11, p_12, p_13, p_14⟩ := HC.out _ hk; obtain ⟨x_0, x_1, _, _⟩ := row2_cells hy; go_simp; try with_reducible rfl)
        simp only [Act.put, List.setIfInBounds_toArray, List.set_cons_zero, List.set_cons_succ]
        refine wpAnyH_take (i := 5) (oi := ⟨some 73, _, _, _, _, _⟩) (v := ?vg1ux5) rfl (by kernel_rfl) (by kernel_rfl) (by kernel_rfl) (fun _ _ _ h => h) (Or.inl ⟨by rfl, ?hyg1ux5⟩) hHeld ?restg1ux5
        case hyg1ux5 => (intro w _; go_simp; try with_reducible rfl)
        simp only [Act.put, List.setIfInBounds_toArray, List.set_cons_zero, List.set_cons_succ]
        refine wpAnyH_take (i := 6) (oi := ⟨some 74, _, _, _, _, _⟩) (v := ?vg1ux6) rfl (by kernel_rfl) (by kernel_rfl) (by kernel_rfl) (fun _ _ _ h => h) (Or.inl ⟨by rfl, ?hyg1ux6⟩) hHeld ?restg1ux6
        case hyg1ux6 => (intro w hSw; (try dsimp only at hSw); obtain ⟨hk, hy⟩ := hSw; obtain ⟨p_0, p_1, p_2, p_3, p_4, p_5, p_6, p_7, p_8, p_9, p_10, p_11, p_12, p_13, p_14⟩ := HC.out _ hk; obtain ⟨x_0, x_1, _, _⟩ := row2_cells hy; go_simp; try with_reducible rfl)
        simp only [Act.put, List.setIfInBounds_toArray, List.set_cons_zero, List.set_cons_succ]
        refine wpAnyH_ready (rs := [7, 12]) (by kernel_rfl) (by simp) ?_
        refine AllReadyH.cons (o := ⟨some 75, _, _, _, _, _⟩) rfl (fun K hK => ?_) (AllReadyH.cons (o := ⟨some 10, _, _, _, _, _⟩) rfl (fun K hK => ?_) AllReadyH.nil)
        · have HN6 : Hid (OwS w bb yb room H H (.slice ay H.length cy) (.slice ay H.length cy) F G Ug1u0) := HA.out
          have HKk : Hid (∀ k, ((.slice a9 kn.length c9) : Value).ownBlock = some k → k < Ug1u0.heap.size) := fun k e => (World.ownsRow.lt HKn.out k e).2
          go_simp
          refine (refTake_any G room _ H ac ar sq (.slice a3 ds.length c3) kd nc nr pc pr fc fr nm vl ds (.slice a9 kn.length c9) kn Ug1u0 (HKn.out.isI HKl.out) HA.out.doc (HGc.out _ HA.out) HSz.out HPC.out.1 HPC.out.2 (by omega)).mono ?_
          rintro e Ug1u1 ⟨v6, v7, rfl, hf6, hf7, hb⟩
          (try go_wp2_with fail)
          refine hK.out _ _ (⟨hHeld.1.trans (hb.mono hHeld.1.size), (hb.block _ (row_lt hHeld.2)).trans hHeld.2⟩) (fun hHeld2 => ?_)
          clear hK K hHeld
          have hHeld := hHeld2
          clear hHeld2
          (try simp only [Act.put, List.setIfInBounds_toArray, List.set_cons_zero, List.set_cons_succ])
          replace HA : Hid (OwS w bb yb room H H (.slice ay H.length cy) (.slice ay H.length cy) F G Ug1u1) := HA.out.below hb
          replace HKn : Hid (OwnI N1 Ug1u1 (.slice a9 kn.length c9) kn) := HKn.out.below hb
          obtain ⟨a6, c6, e6⟩ := hf6.isH.form
          subst e6
          obtain ⟨a7, c7, e7⟩ := hf7.isH.form
          subst e7
          obtain ⟨G2, eG2⟩ : ∃ G2 : Nat → Prop, G2 = fun k => G k ∨ (Ug1u0.heap.size ≤ k ∧ k < Ug1u1.heap.size) := ⟨_, rfl⟩
          have HF6 : Hid (OwS w bb yb room H (takeR room H kn (⟨ac, ar, sq, ds, kd, nc, nr, pc, pr, fc, fr, nm, vl⟩ : Ch)).1 (.slice a6 (takeR room H kn (⟨ac, ar, sq, ds, kd, nc, nr, pc, pr, fc, fr, nm, vl⟩ : Ch)).1.length c6) (.slice ay H.length cy) F G2 Ug1u1) := by rw [eG2]; exact HN6.out.docTake hf6 hb
          have HF7 : Hid (HFirm G2 Ug1u1 (.slice a7 (takeR room H kn (⟨ac, ar, sq, ds, kd, nc, nr, pc, pr, fc, fr, nm, vl⟩ : Ch)).2.1.length c7) (takeR room H kn (⟨ac, ar, sq, ds, kd, nc, nr, pc, pr, fc, fr, nm, vl⟩ : Ch)).2.1) := by rw [eG2]; exact hf7
          clear hf6 hf7 eG2 HN6
          clear hb
          refine wpAnyH_take (i := 8) (oi := ⟨some 67, _, _, _, _, _⟩) (v := ?vg1u_7x8) rfl (by kernel_rfl) (by kernel_rfl) (by kernel_rfl) (fun _ _ _ h => h) (Or.inl ⟨by rfl, ?hyg1u_7x8⟩) hHeld ?restg1u_7x8
          case hyg1u_7x8 => (intro w _; go_simp; try with_reducible rfl)
          simp only [Act.put, List.setIfInBounds_toArray, List.set_cons_zero, List.set_cons_succ]
          refine wpAnyH_take (i := 9) (oi := ⟨some 76, _, _, _, _, _⟩) (v := ?vg1u_7x9) rfl (by kernel_rfl) (by kernel_rfl) (by kernel_rfl) (fun _ _ _ h => h) (Or.inl ⟨by rfl, ?hyg1u_7x9⟩) hHeld ?restg1u_7x9
          case hyg1u_7x9 => (intro w _; go_simp; try with_reducible rfl)
          simp only [Act.put, List.setIfInBounds_toArray, List.set_cons_zero, List.set_cons_succ]
          refine wpAnyH_take (i := 10) (oi := ⟨some 77, _, _, _, _, _⟩) (v := ?vg1u_7x10) rfl (by kernel_rfl) (by kernel_rfl) (by kernel_rfl) (fun _ _ _ h => h) (Or.inl ⟨by rfl, ?hyg1u_7x10⟩) hHeld ?restg1u_7x10
          case hyg1u_7x10 => (intro w _; go_simp; try with_reducible rfl)
          simp only [Act.put, List.setIfInBounds_toArray, List.set_cons_zero, List.set_cons_succ]
          refine wpAnyH_take (i := 11) (oi := ⟨some 78, _, _, _, _, _⟩) (v := ?vg1u_7x11) rfl (by kernel_rfl) (by kernel_rfl) (by kernel_rfl) (fun _ _ _ h => h) (Or.inl ⟨by rfl, ?hyg1u_7x11⟩) hHeld ?restg1u_7x11
          case hyg1u_7x11 => (intro w _; go_simp; try with_reducible rfl)
          simp only [Act.put, List.setIfInBounds_toArray, List.set_cons_zero, List.set_cons_succ]
          refine wpAnyH_ready (rs := [12]) (by kernel_rfl) (by simp) ?_
          refine AllReadyH.cons (o := ⟨some 10, _, _, _, _, _⟩) rfl (fun K hK => ?_) AllReadyH.nil
          have HZ0 : Hid (¬ F Ug1u1.heap.size ∧ ¬ G2 Ug1u1.heap.size ∧ Ug1u1.heap.size ≠ yb ∧ w.heap.size ≤ Ug1u1.heap.size) := HF6.out.fresh
          have HZk : Hid (∀ k, ((.slice a9 kn.length c9) : Value).ownBlock = some k → k ≠ Ug1u1.heap.size) := fun k e => by have := (World.ownsRow.lt HKn.out k e).2; omega
          go_simp
          refine hK.out _ _ (⟨hHeld.1.trans (((Below.refl _ _).alloc (Nat.le_refl _) _).mono hHeld.1.size), (((Below.refl _ _).alloc (Nat.le_refl _) _).block _ (row_lt hHeld.2)).trans hHeld.2⟩) (fun hHeld2 => ?_)
          clear hK K hHeld
          have hHeld := hHeld2
          clear hHeld2
          (try simp only [Act.put, List.setIfInBounds_toArray, List.set_cons_zero, List.set_cons_succ])
          obtain ⟨Ug1u2, eW⟩ : ∃ X, X = Ug1u1.alloc (.cells #[.int .i64 0, .slice none 0 0] 30) := ⟨_, rfl⟩
          have hb : Below Ug1u1.heap.size Ug1u1 Ug1u2 := by rw [eW]; exact (Below.refl _ _).alloc (Nat.le_refl _) _
          replace HA : Hid (OwS w bb yb room H H (.slice ay H.length cy) (.slice ay H.length cy) F G Ug1u2) := HA.out.below hb
          replace HKn : Hid (OwnI N1 Ug1u2 (.slice a9 kn.length c9) kn) := HKn.out.below hb
          replace HF6 : Hid (OwS w bb yb room H (takeR room H kn (⟨ac, ar, sq, ds, kd, nc, nr, pc, pr, fc, fr, nm, vl⟩ : Ch)).1 (.slice a6 (takeR room H kn (⟨ac, ar, sq, ds, kd, nc, nr, pc, pr, fc, fr, nm, vl⟩ : Ch)).1.length c6) (.slice ay H.length cy) F G2 Ug1u2) := HF6.out.below hb
          replace HF7 : Hid (HFirm G2 Ug1u2 (.slice a7 (takeR room H kn (⟨ac, ar, sq, ds, kd, nc, nr, pc, pr, fc, fr, nm, vl⟩ : Ch)).2.1.length c7) (takeR room H kn (⟨ac, ar, sq, ds, kd, nc, nr, pc, pr, fc, fr, nm, vl⟩ : Ch)).2.1) := HF7.out.below hb
          obtain ⟨zb, ezb⟩ : ∃ b, b = Ug1u1.heap.size := ⟨_, rfl⟩
          rw [← eW] at hHeld ⊢
          (try rw [← ezb])
          have HZ : Hid (BxU zb Ug1u2) := by rw [ezb, eW]; exact heap_alloc_new _ _
          have HZn : Hid (¬ F zb ∧ ¬ G2 zb ∧ zb ≠ yb ∧ w.heap.size ≤ zb) := by rw [ezb]; exact HZ0.out
          have HZq : Hid (∀ k, ((.slice a9 kn.length c9) : Value).ownBlock = some k → k ≠ zb) := by rw [ezb]; exact HZk.out
          have HZ6 : Hid (¬ G2 zb) := HZn.out.2.1
          clear eW
          clear ezb
          clear hb
          refine wpAnyH_ready (rs := [13]) (by kernel_rfl) (by simp) ?_
          refine AllReadyH.cons (o := ⟨none, _, _, _, _, _⟩) rfl (fun K hK => ?_) AllReadyH.nil
          obtain ⟨r_0, r_1, r_2, r_3⟩ := row2_cells HZ.out
          go_simp
          refine hK.out _ _ (⟨((HF6.out.far (i := 0) (v := .int .i64 room) ⟨HZn.out.1, HZ6.out, HZn.out.2.2⟩).far (i := 1) (v := (.slice a6 (takeR room H kn (⟨ac, ar, sq, ds, kd, nc, nr, pc, pr, fc, fr, nm, vl⟩ : Ch)).1.length c6)) ⟨HZn.out.1, HZ6.out, HZn.out.2.2⟩).bel, ((HF6.out.far (i := 0) (v := .int .i64 room) ⟨HZn.out.1, HZ6.out, HZn.out.2.2⟩).far (i := 1) (v := (.slice a6 (takeR room H kn (⟨ac, ar, sq, ds, kd, nc, nr, pc, pr, fc, fr, nm, vl⟩ : Ch)).1.length c6)) ⟨HZn.out.1, HZ6.out, HZn.out.2.2⟩).box⟩) (fun hHeld2 => ?_)
          clear hK K hHeld
          have hHeld := hHeld2
          clear hHeld2
          (try simp only [Act.put, List.setIfInBounds_toArray, List.set_cons_zero, List.set_cons_succ])
          have HA9 : Hid (OwS w bb yb room H (takeR room H kn (⟨ac, ar, sq, ds, kd, nc, nr, pc, pr, fc, fr, nm, vl⟩ : Ch)).1 (.slice a6 (takeR room H kn (⟨ac, ar, sq, ds, kd, nc, nr, pc, pr, fc, fr, nm, vl⟩ : Ch)).1.length c6) (.slice ay H.length cy) F G2 ((Ug1u2.setCell ⟨zb, 0, none⟩ (.int .i64 room)).setCell ⟨zb, 1, none⟩ (.slice a6 (takeR room H kn (⟨ac, ar, sq, ds, kd, nc, nr, pc, pr, fc, fr, nm, vl⟩ : Ch)).1.length c6))) := (HF6.out.far (i := 0) (v := .int .i64 room) ⟨HZn.out.1, HZ6.out, HZn.out.2.2⟩).far (i := 1) (v := (.slice a6 (takeR room H kn (⟨ac, ar, sq, ds, kd, nc, nr, pc, pr, fc, fr, nm, vl⟩ : Ch)).1.length c6)) ⟨HZn.out.1, HZ6.out, HZn.out.2.2⟩
          have HZ9 : Hid (((Ug1u2.setCell ⟨zb, 0, none⟩ (.int .i64 room)).setCell ⟨zb, 1, none⟩ (.slice a6 (takeR room H kn (⟨ac, ar, sq, ds, kd, nc, nr, pc, pr, fc, fr, nm, vl⟩ : Ch)).1.length c6)).heap[zb]? = some (.cells #[.int .i64 room, (.slice a6 (takeR room H kn (⟨ac, ar, sq, ds, kd, nc, nr, pc, pr, fc, fr, nm, vl⟩ : Ch)).1.length c6)] 30)) := row_set2 HZ.out
          have HF9 : Hid (HFirm G2 ((Ug1u2.setCell ⟨zb, 0, none⟩ (.int .i64 room)).setCell ⟨zb, 1, none⟩ (.slice a6 (takeR room H kn (⟨ac, ar, sq, ds, kd, nc, nr, pc, pr, fc, fr, nm, vl⟩ : Ch)).1.length c6)) (.slice a7 (takeR room H kn (⟨ac, ar, sq, ds, kd, nc, nr, pc, pr, fc, fr, nm, vl⟩ : Ch)).2.1.length c7) (takeR room H kn (⟨ac, ar, sq, ds, kd, nc, nr, pc, pr, fc, fr, nm, vl⟩ : Ch)).2.1) := HF7.out.keep ⟨by simp [World.setCell], fun k hk => (RowKit.Below.heap_setCell _ _ _ _ (fun (e : k = zb) => HZ6.out (e ▸ hk))).trans (RowKit.Below.heap_setCell _ _ _ _ (fun (e : k = zb) => HZ6.out (e ▸ hk)))⟩
          have HK9 : Hid (OwnI N1 ((Ug1u2.setCell ⟨zb, 0, none⟩ (.int .i64 room)).setCell ⟨zb, 1, none⟩ (.slice a6 (takeR room H kn (⟨ac, ar, sq, ds, kd, nc, nr, pc, pr, fc, fr, nm, vl⟩ : Ch)).1.length c6)) (.slice a9 kn.length c9) kn) := HKn.out.keepF fun k ek => (RowKit.Below.heap_setCell _ _ _ _ (fun (e : k = zb) => HZq.out k ek e)).trans (RowKit.Below.heap_setCell _ _ _ _ (fun (e : k = zb) => HZq.out k ek e))
          obtain ⟨W9, eW9⟩ : ∃ X, X = ((Ug1u2.setCell ⟨zb, 0, none⟩ (.int .i64 room)).setCell ⟨zb, 1, none⟩ (.slice a6 (takeR room H kn (⟨ac, ar, sq, ds, kd, nc, nr, pc, pr, fc, fr, nm, vl⟩ : Ch)).1.length c6)) := ⟨_, rfl⟩
          rw [← eW9] at HA9 HZ9 HF9 HK9 hHeld ⊢
          clear eW9 r_0 r_1 r_2 r_3 HF6 HF7 HZ HKn HA
          refine wpAnyH_take (i := 14) (oi := ⟨some 11, _, _, _, _, _⟩) (v := ?vg1u_7_12_13x14) rfl (by kernel_rfl) (by kernel_rfl) (by kernel_rfl) (fun _ _ _ h => h) (Or.inl ⟨by rfl, ?hyg1u_7_12_13x14⟩) hHeld ?restg1u_7_12_13x14
          case hyg1u_7_12_13x14 => (intro w _; go_simp; try with_reducible rfl)
          simp only [Act.put, List.setIfInBounds_toArray, List.set_cons_zero, List.set_cons_succ]
          refine wpAnyH_take (i := 15) (oi := ⟨some 12, _, _, _, _, _⟩) (v := ?vg1u_7_12_13x15) rfl (by kernel_rfl) (by kernel_rfl) (by kernel_rfl) (fun _ _ _ h => h) (Or.inl ⟨by rfl, ?hyg1u_7_12_13x15⟩) hHeld ?restg1u_7_12_13x15
          case hyg1u_7_12_13x15 => (intro w _; go_simp; try with_reducible rfl)
          simp only [Act.put, List.setIfInBounds_toArray, List.set_cons_zero, List.set_cons_succ]
          refine wpAnyH_done (by kernel_rfl) ?_ _
          clear hHeld
          obtain ⟨z_0, z_1, _, _⟩ := row2_cells HZ9.out
          obtain ⟨y_0, y_1, y_2, y_3⟩ := row2_cells HA9.out.box
          have HA4 : Hid (OwS w bb yb room H (takeR room H kn (⟨ac, ar, sq, ds, kd, nc, nr, pc, pr, fc, fr, nm, vl⟩ : Ch)).1 (.slice a6 (takeR room H kn (⟨ac, ar, sq, ds, kd, nc, nr, pc, pr, fc, fr, nm, vl⟩ : Ch)).1.length c6) (.slice a6 (takeR room H kn (⟨ac, ar, sq, ds, kd, nc, nr, pc, pr, fc, fr, nm, vl⟩ : Ch)).1.length c6) F G2 ((W9.setCell ⟨yb, 0, none⟩ (.int .i64 room)).setCell ⟨yb, 1, none⟩ (.slice a6 (takeR room H kn (⟨ac, ar, sq, ds, kd, nc, nr, pc, pr, fc, fr, nm, vl⟩ : Ch)).1.length c6))) := HA9.out.put HA9.out.yG
          have HF4 : Hid (HFirm G2 ((W9.setCell ⟨yb, 0, none⟩ (.int .i64 room)).setCell ⟨yb, 1, none⟩ (.slice a6 (takeR room H kn (⟨ac, ar, sq, ds, kd, nc, nr, pc, pr, fc, fr, nm, vl⟩ : Ch)).1.length c6)) (.slice a7 (takeR room H kn (⟨ac, ar, sq, ds, kd, nc, nr, pc, pr, fc, fr, nm, vl⟩ : Ch)).2.1.length c7) (takeR room H kn (⟨ac, ar, sq, ds, kd, nc, nr, pc, pr, fc, fr, nm, vl⟩ : Ch)).2.1) := HF9.out.keep ⟨by simp [World.setCell], fun k hk => (RowKit.Below.heap_setCell _ _ _ _ (fun (e : k = yb) => HA9.out.yG (e ▸ hk))).trans (RowKit.Below.heap_setCell _ _ _ _ (fun (e : k = yb) => HA9.out.yG (e ▸ hk)))⟩
          have HK4 : Hid (OwnI N1 ((W9.setCell ⟨yb, 0, none⟩ (.int .i64 room)).setCell ⟨yb, 1, none⟩ (.slice a6 (takeR room H kn (⟨ac, ar, sq, ds, kd, nc, nr, pc, pr, fc, fr, nm, vl⟩ : Ch)).1.length c6)) (.slice a9 kn.length c9) kn) := HK9.out.keepF fun k ek => (RowKit.Below.heap_setCell _ _ _ _ (fun (e : k = yb) => HYk.out k ek e)).trans (RowKit.Below.heap_setCell _ _ _ _ (fun (e : k = yb) => HYk.out k ek e))
          obtain ⟨p_0, p_1, p_2, p_3, p_4, p_5, p_6, p_7, p_8, p_9, p_10, p_11, p_12, p_13, p_14⟩ := HC.out _ HA4.out.bel
          clear HA9 HF9 HK9 HZ9 HZn HZ6 HZq
          go_wp2_with fail
          obtain ⟨W4, eW4⟩ : ∃ X, X = ((W9.setCell ⟨yb, 0, none⟩ (.int .i64 room)).setCell ⟨yb, 1, none⟩ (.slice a6 (takeR room H kn (⟨ac, ar, sq, ds, kd, nc, nr, pc, pr, fc, fr, nm, vl⟩ : Ch)).1.length c6)) := ⟨_, rfl⟩
          rw [← eW4] at HA4 HF4 HK4 ⊢
          rw [← eW4] at p_0 p_1 p_2 p_3 p_4 p_5 p_6 p_7 p_8 p_9 p_10 p_11 p_12 p_13 p_14
          clear eW4 z_0 z_1 y_0 y_1 y_2 y_3 p_0 p_1 p_2 p_3 p_4 p_5 p_6 p_7 p_8 p_9 p_10 p_11 p_12 p_13 p_14
          refine (refCopyCh_any ac ar sq (.slice a3 ds.length c3) kd nc nr pc pr fc fr nm vl ds _ (HIc.out.below HA4.out.bel)).mono ?_
          rintro e w1 ⟨v2, rfl, ho2, hb1⟩
          obtain ⟨a2, c2, e2, hov⟩ := OvG.of ho2
          subst e2
          obtain ⟨w2, eW2⟩ : ∃ X, X = w1.alloc (.cells #[.int .i64 ac, .int .i64 ar, .int .i64 sq, .slice a2 ds.length c2, .int .i64 kd, .int .i64 nc, .int .i64 nr, .int .i64 pc, .int .i64 pr, .int .i64 fc, .int .i64 fr, .string nm, .string vl] 35) := ⟨_, rfl⟩
          obtain ⟨kb, ekb⟩ : ∃ b, b = w1.heap.size := ⟨_, rfl⟩
          have hb2 : Below w1.heap.size w1 w2 := by rw [eW2]; exact (Below.refl _ _).alloc (Nat.le_refl _) _
          have hb12 : Below W4.heap.size W4 w2 := hb1.trans (hb2.mono hb1.size)
          have HKb : Hid (w2.heap[kb]? = some (.cells #[.int .i64 ac, .int .i64 ar, .int .i64 sq, .slice a2 ds.length c2, .int .i64 kd, .int .i64 nc, .int .i64 nr, .int .i64 pc, .int .i64 pr, .int .i64 fc, .int .i64 fr, .string nm, .string vl] 35)) := by rw [ekb, eW2]; exact heap_alloc_new _ _
          have HA5 : Hid (OwS w bb yb room H (takeR room H kn (⟨ac, ar, sq, ds, kd, nc, nr, pc, pr, fc, fr, nm, vl⟩ : Ch)).1 (.slice a6 (takeR room H kn (⟨ac, ar, sq, ds, kd, nc, nr, pc, pr, fc, fr, nm, vl⟩ : Ch)).1.length c6) (.slice a6 (takeR room H kn (⟨ac, ar, sq, ds, kd, nc, nr, pc, pr, fc, fr, nm, vl⟩ : Ch)).1.length c6) F G2 w2) := HA4.out.below hb12
          have HF5 : Hid (HFirm G2 w2 (.slice a7 (takeR room H kn (⟨ac, ar, sq, ds, kd, nc, nr, pc, pr, fc, fr, nm, vl⟩ : Ch)).2.1.length c7) (takeR room H kn (⟨ac, ar, sq, ds, kd, nc, nr, pc, pr, fc, fr, nm, vl⟩ : Ch)).2.1) := HF4.out.below hb12
          have HK5 : Hid (OwnI N1 w2 (.slice a9 kn.length c9) kn) := HK4.out.below hb12
          have HD5 : Hid (OwnI W4.heap.size w2 (.slice a2 ds.length c2) ds) := (ho2.below hb2).low (by omega)
          have HKw : Hid (W4.heap.size ≤ kb ∧ w1.heap.size = kb) := ⟨by rw [ekb]; exact hb1.size, ekb.symm⟩
          have hdl : ds.length ≤ 17592186044416 := by obtain ⟨_, _, _, _, hl, _⟩ := HIc.out; exact hl
          -- the block that is written over
          have HOV : Hid ((ds.length = 0 ∧ (.slice a2 ds.length c2 : Value).ownBlock = none) ∨ ∃ g, a2 = some ⟨g, 0, none⟩ ∧ W4.heap.size ≤ g ∧ g < kb ∧ OvG g w2 ds.length) := by
            rcases hov with h | ⟨g, e, e2, h1, h2, h3⟩
            · exact .inl h
            · exact .inr ⟨g, e, by omega, by omega, fun k hk => ⟨by rw [(hb2.cell (p := ⟨g, k, none⟩) (by show g < _; omega))]; exact (h3 k hk).1, by subst e; exact World.ownsRow.frozenAt HD5.out k⟩⟩
          have HKk : Hid (∀ k, ((.slice a9 kn.length c9) : Value).ownBlock = some k → k < W4.heap.size) := fun k e => (World.ownsRow.lt HK4.out k e).2
          have HGk : Hid ((∀ k, F k → k < W4.heap.size) ∧ (∀ k, G2 k → k < W4.heap.size) ∧ yb < W4.heap.size ∧ w.heap.size ≤ W4.heap.size) := ⟨HA4.out.buf.lt, HA4.out.doc.1, HA4.out.ylt, HA4.out.bel.size⟩
          have hkb : w2.heap[kb]? = some (.cells #[.int .i64 ac, .int .i64 ar, .int .i64 sq, .slice a2 ds.length c2, .int .i64 kd, .int .i64 nc, .int .i64 nr, .int .i64 pc, .int .i64 pr, .int .i64 fc, .int .i64 fr, .string nm, .string vl] 35) := HKb.out
          obtain ⟨o_0, o_1, o_2, o_3, o_4, o_5, o_6, o_7, o_8, o_9, o_10, o_11, o_12⟩ := row_cells hkb
          rw [eW2, ekb] at o_0 o_1 o_2 o_3 o_4 o_5 o_6 o_7 o_8 o_9 o_10 o_11 o_12
          clear ho2 hov hb1 hb2 hb12 HA4 HF4 HK4 hkb
          go_wp2_with fail
          rw [← eW2]
          rw [← ekb]
          clear eW2 ekb o_0 o_1 o_2 o_3 o_4 o_5 o_6 o_7 o_8 o_9 o_10 o_11 o_12
          refine (take_anyQ F _ room H ac ar sq (.slice a2 ds.length c2) kd nc nr pc pr fc fr nm vl ds _ kn _ HA5.out.buf (by omega) (HK5.out.isI HKl.out) (HD5.out.isI hdl) HSz.out).mono ?_
          rintro e w5 ⟨v5, E5, F5, rfl, hA5, hE5, hL5, hF5, ht5, _⟩
          have hlen5 : ((takeR room H kn (⟨ac, ar, sq, ds, kd, nc, nr, pc, pr, fc, fr, nm, vl⟩ : Ch)).1.length : Int) ≤ room := takeR_len (by omega)
          have hn5 : E5.length ≤ 257 := by have h1 := congrArg List.length hE5; have h2 := takeR_out (room := room) (H := H) (kn := kn) (c := (⟨ac, ar, sq, ds, kd, nc, nr, pc, pr, fc, fr, nm, vl⟩ : Ch)); rw [List.length_map] at h1; omega
          obtain ⟨a5, c5, e5⟩ := hA5.own.form
          subst e5
          have HA6 : Hid (OwS w bb yb room (takeR room H kn (⟨ac, ar, sq, ds, kd, nc, nr, pc, pr, fc, fr, nm, vl⟩ : Ch)).1 (takeR room H kn (⟨ac, ar, sq, ds, kd, nc, nr, pc, pr, fc, fr, nm, vl⟩ : Ch)).1 (.slice a6 (takeR room H kn (⟨ac, ar, sq, ds, kd, nc, nr, pc, pr, fc, fr, nm, vl⟩ : Ch)).1.length c6) (.slice a6 (takeR room H kn (⟨ac, ar, sq, ds, kd, nc, nr, pc, pr, fc, fr, nm, vl⟩ : Ch)).1.length c6) F5 G2 w5) := HA5.out.take hL5 hF5 ht5
          have HE6 : Hid (AccH w2.heap.size (.slice a5 E5.length c5) E5 w5 ∧ E5.map Prod.fst = (takeR room H kn (⟨ac, ar, sq, ds, kd, nc, nr, pc, pr, fc, fr, nm, vl⟩ : Ch)).2.1) := ⟨hA5, hE5⟩
          have HF6 : Hid (HFirm G2 w5 (.slice a7 (takeR room H kn (⟨ac, ar, sq, ds, kd, nc, nr, pc, pr, fc, fr, nm, vl⟩ : Ch)).2.1.length c7) (takeR room H kn (⟨ac, ar, sq, ds, kd, nc, nr, pc, pr, fc, fr, nm, vl⟩ : Ch)).2.1) := HF5.out.keep (ht5.keeps fun k hk => ⟨HF5.out.1 k hk, fun q => HA5.out.apart k q hk⟩)
          have HK6 : Hid (OwnI N1 w5 (.slice a9 kn.length c9) kn) := HK5.out.keepF fun k e => ht5.block k (by have := HKk.out k e; have := HKw.out.1; have := row_lt HKb.out; omega) (fun q => HNk.out k e q)
          have HB6 : Hid (w5.heap[kb]? = some (.cells #[.int .i64 ac, .int .i64 ar, .int .i64 sq, .slice a2 ds.length c2, .int .i64 kd, .int .i64 nc, .int .i64 nr, .int .i64 pc, .int .i64 pr, .int .i64 fc, .int .i64 fr, .string nm, .string vl] 35)) := (ht5.block kb (row_lt HKb.out) (fun q => by have := HGk.out.1 kb q; have := HKw.out.1; omega)).trans HKb.out
          -- the block that is written over, and who does not lie there
          obtain ⟨g, hg1, hg2⟩ : ∃ g, (ds.length = 0 ∨ (a2 = some ⟨g, 0, none⟩ ∧ OvG g w5 ds.length)) ∧ (¬ F5 g ∧ ¬ G2 g ∧ g ≠ yb ∧ g ≠ kb ∧ w.heap.size ≤ g ∧ (g < w2.heap.size ∨ w5.heap.size ≤ g) ∧ ∀ k, ((.slice a9 kn.length c9) : Value).ownBlock = some k → k ≠ g) := by
            have h1 := HGk.out
            have h2 := HKw.out
            have h3 := row_lt HKb.out
            have h4 := ht5.size
            rcases HOV.out with ⟨h, _⟩ | ⟨g, e, h5, h6, h7⟩
            · exact ⟨w5.heap.size, .inl h, fun q => by have := hL5.lt _ q; omega, fun q => by have := h1.2.1 _ q; omega, by omega, by omega, by omega, .inr (Nat.le_refl _), fun k e => by have := HKk.out k e; omega⟩
            · have hnf : ¬ F g := fun q => by have := h1.1 g q; omega
              refine ⟨g, .inr ⟨e, fun k hk => ?_⟩, fun q => by rcases hF5 g q with q | q; exact hnf q; omega, fun q => by have := h1.2.1 g q; omega, by omega, by omega, by omega, .inl (by omega), fun k e => by have := HKk.out k e; omega⟩
              have hbl := ht5.block g (by omega) hnf
              exact ⟨by rw [World.cell?_of_block hbl]; exact (h7 k hk).1, by rw [World.frozen?_of_block hbl]; exact (h7 k hk).2⟩
          have HG1 : Hid (ds.length = 0 ∨ (a2 = some ⟨g, 0, none⟩ ∧ OvG g w5 ds.length)) := hg1
          have HG2 : Hid (¬ F5 g ∧ ¬ G2 g ∧ g ≠ yb ∧ g ≠ kb ∧ w.heap.size ≤ g ∧ (g < w2.heap.size ∨ w5.heap.size ≤ g) ∧ ∀ k, ((.slice a9 kn.length c9) : Value).ownBlock = some k → k ≠ g) := hg2
          generalize (takeR room H kn (⟨ac, ar, sq, ds, kd, nc, nr, pc, pr, fc, fr, nm, vl⟩ : Ch)) = R5 at *
          obtain ⟨H5, O5, f5⟩ := R5
          simp only at HA6 HE6 HF6 hlen5 ⊢
          clear hA5 hE5 hL5 hF5 ht5 HA5 HF5 HK5 HD5 HKb HOV hg1 hg2
          go_wp2
          go_loopw [16] (fun iv wr => ∃ (j : Nat), j ≤ ds.length ∧ iv = .int .i64 (j : Int) ∧ Hid (KeepsS (fun k => k ≠ g) w5 wr) ∧ Hid (Below w.heap.size w wr) ∧ Hid (ds.length = 0 ∨ (a2 = some ⟨g, 0, none⟩ ∧ OvG g wr ds.length))) (fun iv _ => ds.length - (intOf iv).toNat)
          case atStart => exact ⟨0, Nat.zero_le _, rfl, KeepsS.refl _ _, HA6.out.bel, HG1⟩
          case round =>
            rename World => wq
            obtain ⟨j, hj, rfl, HKq, HBq, HOq⟩ := hrel
            have hkb : wq.heap[kb]? = some (.cells #[.int .i64 ac, .int .i64 ar, .int .i64 sq, .slice a2 ds.length c2, .int .i64 kd, .int .i64 nc, .int .i64 nr, .int .i64 pc, .int .i64 pr, .int .i64 fc, .int .i64 fr, .string nm, .string vl] 35) := (HKq.out.2 kb (fun e => HG2.out.2.2.2.1 e.symm)).trans HB6.out
            obtain ⟨o_0, o_1, o_2, o_3, o_4, o_5, o_6, o_7, o_8, o_9, o_10, o_11, o_12⟩ := row_cells hkb
            by_cases hjl : j < ds.length
            · obtain ⟨e7, h7⟩ := HOq.out.resolve_left (by omega)
              subst e7
              obtain ⟨u7, hu7⟩ := Option.isSome_iff_exists.1 (h7 j hjl).1
              have f7 := (h7 j hjl).2
              have j1 : (j : Int) < (ds.length : Int) := by omega
              have j0 : (0 : Int) ≤ (j : Int) := by omega
              clear hkb h7 HG1
              go_wp2
              go_roundw
              case rel => exact ⟨j + 1, by omega, by go_num, HKq.out.set, HBq.out.setCell (p := ⟨g, j, none⟩) HG2.out.2.2.2.2.1 _, .inr ⟨by simp, (HOq.out.resolve_left (by omega)).2.set _ _⟩⟩
              case measure => simp [intOf]; omega
            · have HI5 : Hid (IsH wq (.slice a5 E5.length c5) O5) := by
                rw [← HE6.out.2]
                exact (HE6.out.1.keep HKq.out.1 fun k h1 h2 => HKq.out.2 k (by rcases HG2.out.2.2.2.2.2.1 with q | q <;> omega)).isH (by omega)
              have HI7 : Hid (IsH wq (.slice a7 O5.length c7) O5) := (HF6.out.keep (HKq.out.mono fun k q e => HG2.out.2.1 (e ▸ q))).isH
              have HK7 : Hid (OwnI N1 wq (.slice a9 kn.length c9) kn) := HK6.out.keepF fun k e => HKq.out.2 k (HG2.out.2.2.2.2.2.2 k e)
              have HA7 : Hid (OwS w bb yb room H5 H5 (.slice a6 H5.length c6) (.slice a6 H5.length c6) F5 G2 wq) := HA6.out.keep (HKq.out.mono fun k q e => by subst e; rcases q with q | q | q; exact HG2.out.1 q; exact HG2.out.2.1 q; exact HG2.out.2.2.1 q) HBq.out
              clear hkb HKq HBq HOq HA6 HE6 HF6 HK6 HB6 HG1 HG2
              have qf : (f5 != f5) = false := by simp
              go_wp2_with fail
              clear o_0 o_1 o_2 o_3 o_4 o_5 o_6 o_7 o_8 o_9 o_10 o_11 o_12
              refine (sameAll_eq _ _ O5 _ HI5.out HI7.out).mono ?_
              rintro e w6 ⟨rfl, hb6⟩
              have HA8 : Hid (OwS w bb yb room H5 H5 (.slice a6 H5.length c6) (.slice a6 H5.length c6) F5 G2 w6) := HA7.out.below hb6
              have HK8 : Hid (OwnI N1 w6 (.slice a9 kn.length c9) kn) := HK7.out.below hb6
              obtain ⟨p_0, p_1, p_2, p_3, p_4, p_5, p_6, p_7, p_8, p_9, p_10, p_11, p_12, p_13, p_14⟩ := HC.out _ HA8.out.bel
              clear hb6 HI5 HI7 HA7 HK7
              go_wp2_with fail
              clear p_0 p_1 p_2 p_3 p_4 p_5 p_6 p_7 p_8 p_9 p_10 p_11 p_12 p_13 p_14
              refine (sameI_any _ _ kn kn _ (HK8.out.isI HKl.out) (HIk.out.below HA8.out.bel)).mono ?_
              rintro e w7 ⟨rfl, hb7⟩
              rw [decide_eq_true (rfl : kn = kn)]
              have HAe : Hid (OwS w bb yb room H5 H5 (.slice a6 H5.length c6) (.slice a6 H5.length c6) F5 G2 w7) := HA8.out.below hb7
              obtain ⟨p_0, p_1, p_2, p_3, p_4, p_5, p_6, p_7, p_8, p_9, p_10, p_11, p_12, p_13, p_14⟩ := HC.out _ HAe.out.bel
              clear hb7 HA8 HK8
              obtain ⟨u_0, u_1, _, _⟩ := row2_cells HAe.out.box
              go_wp2_with fail
              clear u_0 u_1
              refine (told_any F5 G2 _ room H5 _ _ HAe.out.buf HAe.out.doc (by omega)).mono ?_
              rintro e wt ⟨rfl, hbt⟩
              have HAt : Hid (OwS w bb yb room H5 H5 (.slice a6 H5.length c6) (.slice a6 H5.length c6) F5 G2 wt) := HAe.out.below hbt
              clear hbt HAe
              go_wp2
              go_roundw
              case rel => exact ⟨i + 1, H5, F5, G2, (.slice a6 H5.length c6), bb, rfl, by omega, by go_num, by omega, HAt⟩
              case measure => simp [intOf]; omega
        · have HZ0 : Hid (¬ F Ug1u0.heap.size ∧ ¬ G Ug1u0.heap.size ∧ Ug1u0.heap.size ≠ yb ∧ w.heap.size ≤ Ug1u0.heap.size) := HA.out.fresh
          have HZk : Hid (∀ k, ((.slice a9 kn.length c9) : Value).ownBlock = some k → k ≠ Ug1u0.heap.size) := fun k e => by have := (World.ownsRow.lt HKn.out k e).2; omega
          go_simp
          refine hK.out _ _ (⟨hHeld.1.trans (((Below.refl _ _).alloc (Nat.le_refl _) _).mono hHeld.1.size), (((Below.refl _ _).alloc (Nat.le_refl _) _).block _ (row_lt hHeld.2)).trans hHeld.2⟩) (fun hHeld2 => ?_)
          clear hK K hHeld
          have hHeld := hHeld2
          clear hHeld2
          (try simp only [Act.put, List.setIfInBounds_toArray, List.set_cons_zero, List.set_cons_succ])
          obtain ⟨Ug1u4, eW⟩ : ∃ X, X = Ug1u0.alloc (.cells #[.int .i64 0, .slice none 0 0] 30) := ⟨_, rfl⟩
          have hb : Below Ug1u0.heap.size Ug1u0 Ug1u4 := by rw [eW]; exact (Below.refl _ _).alloc (Nat.le_refl _) _
          replace HA : Hid (OwS w bb yb room H H (.slice ay H.length cy) (.slice ay H.length cy) F G Ug1u4) := HA.out.below hb
          replace HKn : Hid (OwnI N1 Ug1u4 (.slice a9 kn.length c9) kn) := HKn.out.below hb
          obtain ⟨zb, ezb⟩ : ∃ b, b = Ug1u0.heap.size := ⟨_, rfl⟩
          rw [← eW] at hHeld ⊢
          (try rw [← ezb])
          have HZ : Hid (BxU zb Ug1u4) := by rw [ezb, eW]; exact heap_alloc_new _ _
          have HZn : Hid (¬ F zb ∧ ¬ G zb ∧ zb ≠ yb ∧ w.heap.size ≤ zb) := by rw [ezb]; exact HZ0.out
          have HZq : Hid (∀ k, ((.slice a9 kn.length c9) : Value).ownBlock = some k → k ≠ zb) := by rw [ezb]; exact HZk.out
          clear eW
          clear ezb
          clear hb
          refine wpAnyH_ready (rs := [7]) (by kernel_rfl) (by simp) ?_
          refine AllReadyH.cons (o := ⟨some 75, _, _, _, _, _⟩) rfl (fun K hK => ?_) AllReadyH.nil
          have HN6 : Hid (OwS w bb yb room H H (.slice ay H.length cy) (.slice ay H.length cy) F G Ug1u4) := HA.out
          have HKk : Hid (∀ k, ((.slice a9 kn.length c9) : Value).ownBlock = some k → k < Ug1u4.heap.size) := fun k e => (World.ownsRow.lt HKn.out k e).2
          have HZl : Hid (zb < Ug1u4.heap.size) := row_lt HZ.out
          go_simp
          refine (refTake_any G room _ H ac ar sq (.slice a3 ds.length c3) kd nc nr pc pr fc fr nm vl ds (.slice a9 kn.length c9) kn Ug1u4 (HKn.out.isI HKl.out) HA.out.doc (HGc.out _ HA.out) HSz.out HPC.out.1 HPC.out.2 (by omega)).mono ?_
          rintro e Ug1u5 ⟨v6, v7, rfl, hf6, hf7, hb⟩
          (try go_wp2_with fail)
          refine hK.out _ _ (⟨hHeld.1.trans (hb.mono hHeld.1.size), (hb.block _ (row_lt hHeld.2)).trans hHeld.2⟩) (fun hHeld2 => ?_)
          clear hK K hHeld
          have hHeld := hHeld2
          clear hHeld2
          (try simp only [Act.put, List.setIfInBounds_toArray, List.set_cons_zero, List.set_cons_succ])
          replace HA : Hid (OwS w bb yb room H H (.slice ay H.length cy) (.slice ay H.length cy) F G Ug1u5) := HA.out.below hb
          replace HKn : Hid (OwnI N1 Ug1u5 (.slice a9 kn.length c9) kn) := HKn.out.below hb
          replace HZ : Hid (BxU zb Ug1u5) := HZ.out.below hb
          obtain ⟨a6, c6, e6⟩ := hf6.isH.form
          subst e6
          obtain ⟨a7, c7, e7⟩ := hf7.isH.form
          subst e7
          obtain ⟨G2, eG2⟩ : ∃ G2 : Nat → Prop, G2 = fun k => G k ∨ (Ug1u4.heap.size ≤ k ∧ k < Ug1u5.heap.size) := ⟨_, rfl⟩
          have HF6 : Hid (OwS w bb yb room H (takeR room H kn (⟨ac, ar, sq, ds, kd, nc, nr, pc, pr, fc, fr, nm, vl⟩ : Ch)).1 (.slice a6 (takeR room H kn (⟨ac, ar, sq, ds, kd, nc, nr, pc, pr, fc, fr, nm, vl⟩ : Ch)).1.length c6) (.slice ay H.length cy) F G2 Ug1u5) := by rw [eG2]; exact HN6.out.docTake hf6 hb
          have HF7 : Hid (HFirm G2 Ug1u5 (.slice a7 (takeR room H kn (⟨ac, ar, sq, ds, kd, nc, nr, pc, pr, fc, fr, nm, vl⟩ : Ch)).2.1.length c7) (takeR room H kn (⟨ac, ar, sq, ds, kd, nc, nr, pc, pr, fc, fr, nm, vl⟩ : Ch)).2.1) := by rw [eG2]; exact hf7
          have HZ6 : Hid (¬ G2 zb) := fun hk => by rw [eG2] at hk; rcases hk with q | q; exact HZn.out.2.1 q; have := HZl.out; omega
          clear hf6 hf7 eG2 HN6
          clear hb
          refine wpAnyH_take (i := 8) (oi := ⟨some 67, _, _, _, _, _⟩) (v := ?vg1u_12_7x8) rfl (by kernel_rfl) (by kernel_rfl) (by kernel_rfl) (fun _ _ _ h => h) (Or.inl ⟨by rfl, ?hyg1u_12_7x8⟩) hHeld ?restg1u_12_7x8
          case hyg1u_12_7x8 => (intro w _; go_simp; try with_reducible rfl)
          simp only [Act.put, List.setIfInBounds_toArray, List.set_cons_zero, List.set_cons_succ]
          refine wpAnyH_take (i := 9) (oi := ⟨some 76, _, _, _, _, _⟩) (v := ?vg1u_12_7x9) rfl (by kernel_rfl) (by kernel_rfl) (by kernel_rfl) (fun _ _ _ h => h) (Or.inl ⟨by rfl, ?hyg1u_12_7x9⟩) hHeld ?restg1u_12_7x9
          case hyg1u_12_7x9 => (intro w _; go_simp; try with_reducible rfl)
          simp only [Act.put, List.setIfInBounds_toArray, List.set_cons_zero, List.set_cons_succ]
          refine wpAnyH_take (i := 10) (oi := ⟨some 77, _, _, _, _, _⟩) (v := ?vg1u_12_7x10) rfl (by kernel_rfl) (by kernel_rfl) (by kernel_rfl) (fun _ _ _ h => h) (Or.inl ⟨by rfl, ?hyg1u_12_7x10⟩) hHeld ?restg1u_12_7x10
          case hyg1u_12_7x10 => (intro w _; go_simp; try with_reducible rfl)
          simp only [Act.put, List.setIfInBounds_toArray, List.set_cons_zero, List.set_cons_succ]
          refine wpAnyH_take (i := 11) (oi := ⟨some 78, _, _, _, _, _⟩) (v := ?vg1u_12_7x11) rfl (by kernel_rfl) (by kernel_rfl) (by kernel_rfl) (fun _ _ _ h => h) (Or.inl ⟨by rfl, ?hyg1u_12_7x11⟩) hHeld ?restg1u_12_7x11
          case hyg1u_12_7x11 => (intro w _; go_simp; try with_reducible rfl)
          simp only [Act.put, List.setIfInBounds_toArray, List.set_cons_zero, List.set_cons_succ]
          refine wpAnyH_ready (rs := [13]) (by kernel_rfl) (by simp) ?_
          refine AllReadyH.cons (o := ⟨none, _, _, _, _, _⟩) rfl (fun K hK => ?_) AllReadyH.nil
          obtain ⟨r_0, r_1, r_2, r_3⟩ := row2_cells HZ.out
          go_simp
          refine hK.out _ _ (⟨((HF6.out.far (i := 0) (v := .int .i64 room) ⟨HZn.out.1, HZ6.out, HZn.out.2.2⟩).far (i := 1) (v := (.slice a6 (takeR room H kn (⟨ac, ar, sq, ds, kd, nc, nr, pc, pr, fc, fr, nm, vl⟩ : Ch)).1.length c6)) ⟨HZn.out.1, HZ6.out, HZn.out.2.2⟩).bel, ((HF6.out.far (i := 0) (v := .int .i64 room) ⟨HZn.out.1, HZ6.out, HZn.out.2.2⟩).far (i := 1) (v := (.slice a6 (takeR room H kn (⟨ac, ar, sq, ds, kd, nc, nr, pc, pr, fc, fr, nm, vl⟩ : Ch)).1.length c6)) ⟨HZn.out.1, HZ6.out, HZn.out.2.2⟩).box⟩) (fun hHeld2 => ?_)
          clear hK K hHeld
          have hHeld := hHeld2
          clear hHeld2
          (try simp only [Act.put, List.setIfInBounds_toArray, List.set_cons_zero, List.set_cons_succ])
          have HA9 : Hid (OwS w bb yb room H (takeR room H kn (⟨ac, ar, sq, ds, kd, nc, nr, pc, pr, fc, fr, nm, vl⟩ : Ch)).1 (.slice a6 (takeR room H kn (⟨ac, ar, sq, ds, kd, nc, nr, pc, pr, fc, fr, nm, vl⟩ : Ch)).1.length c6) (.slice ay H.length cy) F G2 ((Ug1u5.setCell ⟨zb, 0, none⟩ (.int .i64 room)).setCell ⟨zb, 1, none⟩ (.slice a6 (takeR room H kn (⟨ac, ar, sq, ds, kd, nc, nr, pc, pr, fc, fr, nm, vl⟩ : Ch)).1.length c6))) := (HF6.out.far (i := 0) (v := .int .i64 room) ⟨HZn.out.1, HZ6.out, HZn.out.2.2⟩).far (i := 1) (v := (.slice a6 (takeR room H kn (⟨ac, ar, sq, ds, kd, nc, nr, pc, pr, fc, fr, nm, vl⟩ : Ch)).1.length c6)) ⟨HZn.out.1, HZ6.out, HZn.out.2.2⟩
          have HZ9 : Hid (((Ug1u5.setCell ⟨zb, 0, none⟩ (.int .i64 room)).setCell ⟨zb, 1, none⟩ (.slice a6 (takeR room H kn (⟨ac, ar, sq, ds, kd, nc, nr, pc, pr, fc, fr, nm, vl⟩ : Ch)).1.length c6)).heap[zb]? = some (.cells #[.int .i64 room, (.slice a6 (takeR room H kn (⟨ac, ar, sq, ds, kd, nc, nr, pc, pr, fc, fr, nm, vl⟩ : Ch)).1.length c6)] 30)) := row_set2 HZ.out
          have HF9 : Hid (HFirm G2 ((Ug1u5.setCell ⟨zb, 0, none⟩ (.int .i64 room)).setCell ⟨zb, 1, none⟩ (.slice a6 (takeR room H kn (⟨ac, ar, sq, ds, kd, nc, nr, pc, pr, fc, fr, nm, vl⟩ : Ch)).1.length c6)) (.slice a7 (takeR room H kn (⟨ac, ar, sq, ds, kd, nc, nr, pc, pr, fc, fr, nm, vl⟩ : Ch)).2.1.length c7) (takeR room H kn (⟨ac, ar, sq, ds, kd, nc, nr, pc, pr, fc, fr, nm, vl⟩ : Ch)).2.1) := HF7.out.keep ⟨by simp [World.setCell], fun k hk => (RowKit.Below.heap_setCell _ _ _ _ (fun (e : k = zb) => HZ6.out (e ▸ hk))).trans (RowKit.Below.heap_setCell _ _ _ _ (fun (e : k = zb) => HZ6.out (e ▸ hk)))⟩
          have HK9 : Hid (OwnI N1 ((Ug1u5.setCell ⟨zb, 0, none⟩ (.int .i64 room)).setCell ⟨zb, 1, none⟩ (.slice a6 (takeR room H kn (⟨ac, ar, sq, ds, kd, nc, nr, pc, pr, fc, fr, nm, vl⟩ : Ch)).1.length c6)) (.slice a9 kn.length c9) kn) := HKn.out.keepF fun k ek => (RowKit.Below.heap_setCell _ _ _ _ (fun (e : k = zb) => HZq.out k ek e)).trans (RowKit.Below.heap_setCell _ _ _ _ (fun (e : k = zb) => HZq.out k ek e))
          obtain ⟨W9, eW9⟩ : ∃ X, X = ((Ug1u5.setCell ⟨zb, 0, none⟩ (.int .i64 room)).setCell ⟨zb, 1, none⟩ (.slice a6 (takeR room H kn (⟨ac, ar, sq, ds, kd, nc, nr, pc, pr, fc, fr, nm, vl⟩ : Ch)).1.length c6)) := ⟨_, rfl⟩
          rw [← eW9] at HA9 HZ9 HF9 HK9 hHeld ⊢
          clear eW9 r_0 r_1 r_2 r_3 HF6 HF7 HZ HKn HA
          refine wpAnyH_take (i := 14) (oi := ⟨some 11, _, _, _, _, _⟩) (v := ?vg1u_12_7_13x14) rfl (by kernel_rfl) (by kernel_rfl) (by kernel_rfl) (fun _ _ _ h => h) (Or.inl ⟨by rfl, ?hyg1u_12_7_13x14⟩) hHeld ?restg1u_12_7_13x14
          case hyg1u_12_7_13x14 => (intro w _; go_simp; try with_reducible rfl)
          simp only [Act.put, List.setIfInBounds_toArray, List.set_cons_zero, List.set_cons_succ]
          refine wpAnyH_take (i := 15) (oi := ⟨some 12, _, _, _, _, _⟩) (v := ?vg1u_12_7_13x15) rfl (by kernel_rfl) (by kernel_rfl) (by kernel_rfl) (fun _ _ _ h => h) (Or.inl ⟨by rfl, ?hyg1u_12_7_13x15⟩) hHeld ?restg1u_12_7_13x15
          case hyg1u_12_7_13x15 => (intro w _; go_simp; try with_reducible rfl)
          simp only [Act.put, List.setIfInBounds_toArray, List.set_cons_zero, List.set_cons_succ]
          refine wpAnyH_done (by kernel_rfl) ?_ _
          clear hHeld
          obtain ⟨z_0, z_1, _, _⟩ := row2_cells HZ9.out
          obtain ⟨y_0, y_1, y_2, y_3⟩ := row2_cells HA9.out.box
          have HA4 : Hid (OwS w bb yb room H (takeR room H kn (⟨ac, ar, sq, ds, kd, nc, nr, pc, pr, fc, fr, nm, vl⟩ : Ch)).1 (.slice a6 (takeR room H kn (⟨ac, ar, sq, ds, kd, nc, nr, pc, pr, fc, fr, nm, vl⟩ : Ch)).1.length c6) (.slice a6 (takeR room H kn (⟨ac, ar, sq, ds, kd, nc, nr, pc, pr, fc, fr, nm, vl⟩ : Ch)).1.length c6) F G2 ((W9.setCell ⟨yb, 0, none⟩ (.int .i64 room)).setCell ⟨yb, 1, none⟩ (.slice a6 (takeR room H kn (⟨ac, ar, sq, ds, kd, nc, nr, pc, pr, fc, fr, nm, vl⟩ : Ch)).1.length c6))) := HA9.out.put HA9.out.yG
          have HF4 : Hid (HFirm G2 ((W9.setCell ⟨yb, 0, none⟩ (.int .i64 room)).setCell ⟨yb, 1, none⟩ (.slice a6 (takeR room H kn (⟨ac, ar, sq, ds, kd, nc, nr, pc, pr, fc, fr, nm, vl⟩ : Ch)).1.length c6)) (.slice a7 (takeR room H kn (⟨ac, ar, sq, ds, kd, nc, nr, pc, pr, fc, fr, nm, vl⟩ : Ch)).2.1.length c7) (takeR room H kn (⟨ac, ar, sq, ds, kd, nc, nr, pc, pr, fc, fr, nm, vl⟩ : Ch)).2.1) := HF9.out.keep ⟨by simp [World.setCell], fun k hk => (RowKit.Below.heap_setCell _ _ _ _ (fun (e : k = yb) => HA9.out.yG (e ▸ hk))).trans (RowKit.Below.heap_setCell _ _ _ _ (fun (e : k = yb) => HA9.out.yG (e ▸ hk)))⟩
          have HK4 : Hid (OwnI N1 ((W9.setCell ⟨yb, 0, none⟩ (.int .i64 room)).setCell ⟨yb, 1, none⟩ (.slice a6 (takeR room H kn (⟨ac, ar, sq, ds, kd, nc, nr, pc, pr, fc, fr, nm, vl⟩ : Ch)).1.length c6)) (.slice a9 kn.length c9) kn) := HK9.out.keepF fun k ek => (RowKit.Below.heap_setCell _ _ _ _ (fun (e : k = yb) => HYk.out k ek e)).trans (RowKit.Below.heap_setCell _ _ _ _ (fun (e : k = yb) => HYk.out k ek e))
          obtain ⟨p_0, p_1, p_2, p_3, p_4, p_5, p_6, p_7, p_8, p_9, p_10, p_11, p_12, p_13, p_14⟩ := HC.out _ HA4.out.bel
          clear HA9 HF9 HK9 HZ9 HZn HZ6 HZq
          go_wp2_with fail
          obtain ⟨W4, eW4⟩ : ∃ X, X = ((W9.setCell ⟨yb, 0, none⟩ (.int .i64 room)).setCell ⟨yb, 1, none⟩ (.slice a6 (takeR room H kn (⟨ac, ar, sq, ds, kd, nc, nr, pc, pr, fc, fr, nm, vl⟩ : Ch)).1.length c6)) := ⟨_, rfl⟩
          rw [← eW4] at HA4 HF4 HK4 ⊢
          rw [← eW4] at p_0 p_1 p_2 p_3 p_4 p_5 p_6 p_7 p_8 p_9 p_10 p_11 p_12 p_13 p_14
          clear eW4 z_0 z_1 y_0 y_1 y_2 y_3 p_0 p_1 p_2 p_3 p_4 p_5 p_6 p_7 p_8 p_9 p_10 p_11 p_12 p_13 p_14
          refine (refCopyCh_any ac ar sq (.slice a3 ds.length c3) kd nc nr pc pr fc fr nm vl ds _ (HIc.out.below HA4.out.bel)).mono ?_
          rintro e w1 ⟨v2, rfl, ho2, hb1⟩
          obtain ⟨a2, c2, e2, hov⟩ := OvG.of ho2
          subst e2
          obtain ⟨w2, eW2⟩ : ∃ X, X = w1.alloc (.cells #[.int .i64 ac, .int .i64 ar, .int .i64 sq, .slice a2 ds.length c2, .int .i64 kd, .int .i64 nc, .int .i64 nr, .int .i64 pc, .int .i64 pr, .int .i64 fc, .int .i64 fr, .string nm, .string vl] 35) := ⟨_, rfl⟩
          obtain ⟨kb, ekb⟩ : ∃ b, b = w1.heap.size := ⟨_, rfl⟩
          have hb2 : Below w1.heap.size w1 w2 := by rw [eW2]; exact (Below.refl _ _).alloc (Nat.le_refl _) _
          have hb12 : Below W4.heap.size W4 w2 := hb1.trans (hb2.mono hb1.size)
          have HKb : Hid (w2.heap[kb]? = some (.cells #[.int .i64 ac, .int .i64 ar, .int .i64 sq, .slice a2 ds.length c2, .int .i64 kd, .int .i64 nc, .int .i64 nr, .int .i64 pc, .int .i64 pr, .int .i64 fc, .int .i64 fr, .string nm, .string vl] 35)) := by rw [ekb, eW2]; exact heap_alloc_new _ _
          have HA5 : Hid (OwS w bb yb room H (takeR room H kn (⟨ac, ar, sq, ds, kd, nc, nr, pc, pr, fc, fr, nm, vl⟩ : Ch)).1 (.slice a6 (takeR room H kn (⟨ac, ar, sq, ds, kd, nc, nr, pc, pr, fc, fr, nm, vl⟩ : Ch)).1.length c6) (.slice a6 (takeR room H kn (⟨ac, ar, sq, ds, kd, nc, nr, pc, pr, fc, fr, nm, vl⟩ : Ch)).1.length c6) F G2 w2) := HA4.out.below hb12
          have HF5 : Hid (HFirm G2 w2 (.slice a7 (takeR room H kn (⟨ac, ar, sq, ds, kd, nc, nr, pc, pr, fc, fr, nm, vl⟩ : Ch)).2.1.length c7) (takeR room H kn (⟨ac, ar, sq, ds, kd, nc, nr, pc, pr, fc, fr, nm, vl⟩ : Ch)).2.1) := HF4.out.below hb12
          have HK5 : Hid (OwnI N1 w2 (.slice a9 kn.length c9) kn) := HK4.out.below hb12
          have HD5 : Hid (OwnI W4.heap.size w2 (.slice a2 ds.length c2) ds) := (ho2.below hb2).low (by omega)
          have HKw : Hid (W4.heap.size ≤ kb ∧ w1.heap.size = kb) := ⟨by rw [ekb]; exact hb1.size, ekb.symm⟩
          have hdl : ds.length ≤ 17592186044416 := by obtain ⟨_, _, _, _, hl, _⟩ := HIc.out; exact hl
          -- the block that is written over
          have HOV : Hid ((ds.length = 0 ∧ (.slice a2 ds.length c2 : Value).ownBlock = none) ∨ ∃ g, a2 = some ⟨g, 0, none⟩ ∧ W4.heap.size ≤ g ∧ g < kb ∧ OvG g w2 ds.length) := by
            rcases hov with h | ⟨g, e, e2, h1, h2, h3⟩
            · exact .inl h
            · exact .inr ⟨g, e, by omega, by omega, fun k hk => ⟨by rw [(hb2.cell (p := ⟨g, k, none⟩) (by show g < _; omega))]; exact (h3 k hk).1, by subst e; exact World.ownsRow.frozenAt HD5.out k⟩⟩
          have HKk : Hid (∀ k, ((.slice a9 kn.length c9) : Value).ownBlock = some k → k < W4.heap.size) := fun k e => (World.ownsRow.lt HK4.out k e).2
          have HGk : Hid ((∀ k, F k → k < W4.heap.size) ∧ (∀ k, G2 k → k < W4.heap.size) ∧ yb < W4.heap.size ∧ w.heap.size ≤ W4.heap.size) := ⟨HA4.out.buf.lt, HA4.out.doc.1, HA4.out.ylt, HA4.out.bel.size⟩
          have hkb : w2.heap[kb]? = some (.cells #[.int .i64 ac, .int .i64 ar, .int .i64 sq, .slice a2 ds.length c2, .int .i64 kd, .int .i64 nc, .int .i64 nr, .int .i64 pc, .int .i64 pr, .int .i64 fc, .int .i64 fr, .string nm, .string vl] 35) := HKb.out
          obtain ⟨o_0, o_1, o_2, o_3, o_4, o_5, o_6, o_7, o_8, o_9, o_10, o_11, o_12⟩ := row_cells hkb
          rw [eW2, ekb] at o_0 o_1 o_2 o_3 o_4 o_5 o_6 o_7 o_8 o_9 o_10 o_11 o_12
          clear ho2 hov hb1 hb2 hb12 HA4 HF4 HK4 hkb
          go_wp2_with fail
          rw [← eW2]
          rw [← ekb]
          clear eW2 ekb o_0 o_1 o_2 o_3 o_4 o_5 o_6 o_7 o_8 o_9 o_10 o_11 o_12
          refine (take_anyQ F _ room H ac ar sq (.slice a2 ds.length c2) kd nc nr pc pr fc fr nm vl ds _ kn _ HA5.out.buf (by omega) (HK5.out.isI HKl.out) (HD5.out.isI hdl) HSz.out).mono ?_
          rintro e w5 ⟨v5, E5, F5, rfl, hA5, hE5, hL5, hF5, ht5, _⟩
          have hlen5 : ((takeR room H kn (⟨ac, ar, sq, ds, kd, nc, nr, pc, pr, fc, fr, nm, vl⟩ : Ch)).1.length : Int) ≤ room := takeR_len (by omega)
          have hn5 : E5.length ≤ 257 := by have h1 := congrArg List.length hE5; have h2 := takeR_out (room := room) (H := H) (kn := kn) (c := (⟨ac, ar, sq, ds, kd, nc, nr, pc, pr, fc, fr, nm, vl⟩ : Ch)); rw [List.length_map] at h1; omega
          obtain ⟨a5, c5, e5⟩ := hA5.own.form
          subst e5
          have HA6 : Hid (OwS w bb yb room (takeR room H kn (⟨ac, ar, sq, ds, kd, nc, nr, pc, pr, fc, fr, nm, vl⟩ : Ch)).1 (takeR room H kn (⟨ac, ar, sq, ds, kd, nc, nr, pc, pr, fc, fr, nm, vl⟩ : Ch)).1 (.slice a6 (takeR room H kn (⟨ac, ar, sq, ds, kd, nc, nr, pc, pr, fc, fr, nm, vl⟩ : Ch)).1.length c6) (.slice a6 (takeR room H kn (⟨ac, ar, sq, ds, kd, nc, nr, pc, pr, fc, fr, nm, vl⟩ : Ch)).1.length c6) F5 G2 w5) := HA5.out.take hL5 hF5 ht5
          have HE6 : Hid (AccH w2.heap.size (.slice a5 E5.length c5) E5 w5 ∧ E5.map Prod.fst = (takeR room H kn (⟨ac, ar, sq, ds, kd, nc, nr, pc, pr, fc, fr, nm, vl⟩ : Ch)).2.1) := ⟨hA5, hE5⟩
          have HF6 : Hid (HFirm G2 w5 (.slice a7 (takeR room H kn (⟨ac, ar, sq, ds, kd, nc, nr, pc, pr, fc, fr, nm, vl⟩ : Ch)).2.1.length c7) (takeR room H kn (⟨ac, ar, sq, ds, kd, nc, nr, pc, pr, fc, fr, nm, vl⟩ : Ch)).2.1) := HF5.out.keep (ht5.keeps fun k hk => ⟨HF5.out.1 k hk, fun q => HA5.out.apart k q hk⟩)
          have HK6 : Hid (OwnI N1 w5 (.slice a9 kn.length c9) kn) := HK5.out.keepF fun k e => ht5.block k (by have := HKk.out k e; have := HKw.out.1; have := row_lt HKb.out; omega) (fun q => HNk.out k e q)
          have HB6 : Hid (w5.heap[kb]? = some (.cells #[.int .i64 ac, .int .i64 ar, .int .i64 sq, .slice a2 ds.length c2, .int .i64 kd, .int .i64 nc, .int .i64 nr, .int .i64 pc, .int .i64 pr, .int .i64 fc, .int .i64 fr, .string nm, .string vl] 35)) := (ht5.block kb (row_lt HKb.out) (fun q => by have := HGk.out.1 kb q; have := HKw.out.1; omega)).trans HKb.out
          -- the block that is written over, and who does not lie there
          obtain ⟨g, hg1, hg2⟩ : ∃ g, (ds.length = 0 ∨ (a2 = some ⟨g, 0, none⟩ ∧ OvG g w5 ds.length)) ∧ (¬ F5 g ∧ ¬ G2 g ∧ g ≠ yb ∧ g ≠ kb ∧ w.heap.size ≤ g ∧ (g < w2.heap.size ∨ w5.heap.size ≤ g) ∧ ∀ k, ((.slice a9 kn.length c9) : Value).ownBlock = some k → k ≠ g) := by
            have h1 := HGk.out
            have h2 := HKw.out
            have h3 := row_lt HKb.out
            have h4 := ht5.size
            rcases HOV.out with ⟨h, _⟩ | ⟨g, e, h5, h6, h7⟩
            · exact ⟨w5.heap.size, .inl h, fun q => by have := hL5.lt _ q; omega, fun q => by have := h1.2.1 _ q; omega, by omega, by omega, by omega, .inr (Nat.le_refl _), fun k e => by have := HKk.out k e; omega⟩
            · have hnf : ¬ F g := fun q => by have := h1.1 g q; omega
              refine ⟨g, .inr ⟨e, fun k hk => ?_⟩, fun q => by rcases hF5 g q with q | q; exact hnf q; omega, fun q => by have := h1.2.1 g q; omega, by omega, by omega, by omega, .inl (by omega), fun k e => by have := HKk.out k e; omega⟩
              have hbl := ht5.block g (by omega) hnf
              exact ⟨by rw [World.cell?_of_block hbl]; exact (h7 k hk).1, by rw [World.frozen?_of_block hbl]; exact (h7 k hk).2⟩
          have HG1 : Hid (ds.length = 0 ∨ (a2 = some ⟨g, 0, none⟩ ∧ OvG g w5 ds.length)) := hg1
          have HG2 : Hid (¬ F5 g ∧ ¬ G2 g ∧ g ≠ yb ∧ g ≠ kb ∧ w.heap.size ≤ g ∧ (g < w2.heap.size ∨ w5.heap.size ≤ g) ∧ ∀ k, ((.slice a9 kn.length c9) : Value).ownBlock = some k → k ≠ g) := hg2
          generalize (takeR room H kn (⟨ac, ar, sq, ds, kd, nc, nr, pc, pr, fc, fr, nm, vl⟩ : Ch)) = R5 at *
          obtain ⟨H5, O5, f5⟩ := R5
          simp only at HA6 HE6 HF6 hlen5 ⊢
          clear hA5 hE5 hL5 hF5 ht5 HA5 HF5 HK5 HD5 HKb HOV hg1 hg2
          go_wp2
          go_loopw [16] (fun iv wr => ∃ (j : Nat), j ≤ ds.length ∧ iv = .int .i64 (j : Int) ∧ Hid (KeepsS (fun k => k ≠ g) w5 wr) ∧ Hid (Below w.heap.size w wr) ∧ Hid (ds.length = 0 ∨ (a2 = some ⟨g, 0, none⟩ ∧ OvG g wr ds.length))) (fun iv _ => ds.length - (intOf iv).toNat)
          case atStart => exact ⟨0, Nat.zero_le _, rfl, KeepsS.refl _ _, HA6.out.bel, HG1⟩
          case round =>
            rename World => wq
            obtain ⟨j, hj, rfl, HKq, HBq, HOq⟩ := hrel
            have hkb : wq.heap[kb]? = some (.cells #[.int .i64 ac, .int .i64 ar, .int .i64 sq, .slice a2 ds.length c2, .int .i64 kd, .int .i64 nc, .int .i64 nr, .int .i64 pc, .int .i64 pr, .int .i64 fc, .int .i64 fr, .string nm, .string vl] 35) := (HKq.out.2 kb (fun e => HG2.out.2.2.2.1 e.symm)).trans HB6.out
            obtain ⟨o_0, o_1, o_2, o_3, o_4, o_5, o_6, o_7, o_8, o_9, o_10, o_11, o_12⟩ := row_cells hkb
            by_cases hjl : j < ds.length
            · obtain ⟨e7, h7⟩ := HOq.out.resolve_left (by omega)
              subst e7
              obtain ⟨u7, hu7⟩ := Option.isSome_iff_exists.1 (h7 j hjl).1
              have f7 := (h7 j hjl).2
              have j1 : (j : Int) < (ds.length : Int) := by omega
              have j0 : (0 : Int) ≤ (j : Int) := by omega
              clear hkb h7 HG1
              go_wp2
              go_roundw
              case rel => exact ⟨j + 1, by omega, by go_num, HKq.out.set, HBq.out.setCell (p := ⟨g, j, none⟩) HG2.out.2.2.2.2.1 _, .inr ⟨by simp, (HOq.out.resolve_left (by omega)).2.set _ _⟩⟩
              case measure => simp [intOf]; omega
            · have HI5 : Hid (IsH wq (.slice a5 E5.length c5) O5) := by
                rw [← HE6.out.2]
                exact (HE6.out.1.keep HKq.out.1 fun k h1 h2 => HKq.out.2 k (by rcases HG2.out.2.2.2.2.2.1 with q | q <;> omega)).isH (by omega)
              have HI7 : Hid (IsH wq (.slice a7 O5.length c7) O5) := (HF6.out.keep (HKq.out.mono fun k q e => HG2.out.2.1 (e ▸ q))).isH
              have HK7 : Hid (OwnI N1 wq (.slice a9 kn.length c9) kn) := HK6.out.keepF fun k e => HKq.out.2 k (HG2.out.2.2.2.2.2.2 k e)
              have HA7 : Hid (OwS w bb yb room H5 H5 (.slice a6 H5.length c6) (.slice a6 H5.length c6) F5 G2 wq) := HA6.out.keep (HKq.out.mono fun k q e => by subst e; rcases q with q | q | q; exact HG2.out.1 q; exact HG2.out.2.1 q; exact HG2.out.2.2.1 q) HBq.out
              clear hkb HKq HBq HOq HA6 HE6 HF6 HK6 HB6 HG1 HG2
              have qf : (f5 != f5) = false := by simp
              go_wp2_with fail
              clear o_0 o_1 o_2 o_3 o_4 o_5 o_6 o_7 o_8 o_9 o_10 o_11 o_12
              refine (sameAll_eq _ _ O5 _ HI5.out HI7.out).mono ?_
              rintro e w6 ⟨rfl, hb6⟩
              have HA8 : Hid (OwS w bb yb room H5 H5 (.slice a6 H5.length c6) (.slice a6 H5.length c6) F5 G2 w6) := HA7.out.below hb6
              have HK8 : Hid (OwnI N1 w6 (.slice a9 kn.length c9) kn) := HK7.out.below hb6
              obtain ⟨p_0, p_1, p_2, p_3, p_4, p_5, p_6, p_7, p_8, p_9, p_10, p_11, p_12, p_13, p_14⟩ := HC.out _ HA8.out.bel
              clear hb6 HI5 HI7 HA7 HK7
              go_wp2_with fail
              clear p_0 p_1 p_2 p_3 p_4 p_5 p_6 p_7 p_8 p_9 p_10 p_11 p_12 p_13 p_14
              refine (sameI_any _ _ kn kn _ (HK8.out.isI HKl.out) (HIk.out.below HA8.out.bel)).mono ?_
              rintro e w7 ⟨rfl, hb7⟩
              rw [decide_eq_true (rfl : kn = kn)]
              have HAe : Hid (OwS w bb yb room H5 H5 (.slice a6 H5.length c6) (.slice a6 H5.length c6) F5 G2 w7) := HA8.out.below hb7
              obtain ⟨p_0, p_1, p_2, p_3, p_4, p_5, p_6, p_7, p_8, p_9, p_10, p_11, p_12, p_13, p_14⟩ := HC.out _ HAe.out.bel
              clear hb7 HA8 HK8
              obtain ⟨u_0, u_1, _, _⟩ := row2_cells HAe.out.box
              go_wp2_with fail
              clear u_0 u_1
              refine (told_any F5 G2 _ room H5 _ _ HAe.out.buf HAe.out.doc (by omega)).mono ?_
              rintro e wt ⟨rfl, hbt⟩
              have HAt : Hid (OwS w bb yb room H5 H5 (.slice a6 H5.length c6) (.slice a6 H5.length c6) F5 G2 wt) := HAe.out.below hbt
              clear hbt HAe
              go_wp2
              go_roundw
              case rel => exact ⟨i + 1, H5, F5, G2, (.slice a6 H5.length c6), bb, rfl, by omega, by go_num, by omega, HAt⟩
              case measure => simp [intOf]; omega
      · by_cases hκ1 : κ = 1
        · subst hκ1
          obtain ⟨x_0, x_1, x_2, x_3⟩ := row2_cells HA.out.box
          go_wp2_with fail
          clear x_0 x_1 x_2 x_3
          refine (refStale_any G room _ H (.slice a9 kn.length c9) kn _ (HKn.out.isI HKl.out) HA.out.doc (by omega)).mono ?_
          rintro e w2 ⟨v6, rfl, hf6, hb2⟩
          obtain ⟨a6, c6, e6⟩ := hf6.isH.form
          subst e6
          obtain ⟨G2, eG2⟩ : ∃ G2 : Nat → Prop, G2 = fun k => G k ∨ (W1.heap.size ≤ k ∧ k < w2.heap.size) := ⟨_, rfl⟩
          have HA2 : Hid (OwS w bb yb room H (staleR H kn).1 (.slice a6 (staleR H kn).1.length c6) (.slice ay H.length cy) F G2 w2) := by rw [eG2]; exact HA.out.docTake hf6 hb2
          obtain ⟨w3, eW3⟩ : ∃ X, X = w2.alloc (.cells #[.int .i64 room, .slice a6 (staleR H kn).1.length c6] 30) := ⟨_, rfl⟩
          obtain ⟨zb, ezb⟩ : ∃ b, b = w2.heap.size := ⟨_, rfl⟩
          have hb3 : Below w2.heap.size w2 w3 := by rw [eW3]; exact (Below.refl _ _).alloc (Nat.le_refl _) _
          have HA3 : Hid (OwS w bb yb room H (staleR H kn).1 (.slice a6 (staleR H kn).1.length c6) (.slice ay H.length cy) F G2 w3) := HA2.out.below hb3
          have HK3 : Hid (OwnI N1 w3 (.slice a9 kn.length c9) kn) := (HKn.out.below hb2).below hb3
          have HZ3 : Hid (w3.heap[zb]? = some (.cells #[.int .i64 room, .slice a6 (staleR H kn).1.length c6] 30)) := by rw [ezb, eW3]; exact heap_alloc_new _ _
          have HA4 : Hid (OwS w bb yb room H (staleR H kn).1 (.slice a6 (staleR H kn).1.length c6) (.slice a6 (staleR H kn).1.length c6) F G2 ((w3.setCell ⟨yb, 0, none⟩ (.int .i64 room)).setCell ⟨yb, 1, none⟩ (.slice a6 (staleR H kn).1.length c6))) := HA3.out.put HA3.out.yG
          have HK4 : Hid (OwnI N1 ((w3.setCell ⟨yb, 0, none⟩ (.int .i64 room)).setCell ⟨yb, 1, none⟩ (.slice a6 (staleR H kn).1.length c6)) (.slice a9 kn.length c9) kn) := HK3.out.keepF fun k ek => (RowKit.Below.heap_setCell _ _ _ _ (fun (e : k = yb) => HYk.out k ek e)).trans (RowKit.Below.heap_setCell _ _ _ _ (fun (e : k = yb) => HYk.out k ek e))
          obtain ⟨y_0, y_1, y_2, y_3⟩ := row2_cells HA3.out.box
          obtain ⟨z_0, z_1, _, _⟩ := row2_cells HZ3.out
          rw [eW3] at y_0 y_1 y_2 y_3 z_0 z_1
          rw [ezb] at z_0 z_1
          clear HA HA2 HKn hf6 hb2 hb3 HK3 HZ3 eG2
          go_wp2_with fail
          rw [← eW3]
          clear y_0 y_1 y_2 y_3 z_0 z_1
          (try rw [← ezb])
          clear HA3 eW3 ezb
          obtain ⟨W4, eW4⟩ : ∃ X, X = (w3.setCell ⟨yb, 0, none⟩ (.int .i64 room)).setCell ⟨yb, 1, none⟩ (.slice a6 (staleR H kn).1.length c6) := ⟨_, rfl⟩
          rw [← eW4] at HA4 HK4 ⊢
          clear eW4
          refine (staleH_any F bb room H (.slice a9 kn.length c9) kn _ HA4.out.buf (fun W ht => (HK4.out.keepF fun k e => ht.block k (World.ownsRow.lt HK4.out k e).2 (HNk.out k e)).isI HKl.out) (by omega)).mono ?_
          rintro e w5 ⟨rfl, hL5, ht5⟩
          have HAe : Hid (OwS w bb yb room (staleR H kn).1 (staleR H kn).1 (.slice a6 (staleR H kn).1.length c6) (.slice a6 (staleR H kn).1.length c6) F G2 w5) := HA4.out.stale hL5 ht5
          have hl5 : (staleR H kn).1.length ≤ H.length := staleR_le H kn
          obtain ⟨p_0, p_1, p_2, p_3, p_4, p_5, p_6, p_7, p_8, p_9, p_10, p_11, p_12, p_13, p_14⟩ := HC.out _ HAe.out.bel
          generalize (staleR H kn) = R5 at *
          obtain ⟨H5, n5⟩ := R5
          simp only at HAe hl5 ⊢
          have qf : (n5 != n5) = false := by simp
          clear HA4 HK4 hL5 ht5
          obtain ⟨u_0, u_1, _, _⟩ := row2_cells HAe.out.box
          go_wp2_with fail
          clear u_0 u_1
          refine (told_any F G2 _ room H5 _ _ HAe.out.buf HAe.out.doc (by omega)).mono ?_
          rintro e wt ⟨rfl, hbt⟩
          have HAt : Hid (OwS w bb yb room H5 H5 (.slice a6 H5.length c6) (.slice a6 H5.length c6) F G2 wt) := HAe.out.below hbt
          clear hbt HAe
          go_wp2
          go_roundw
          case rel => exact ⟨i + 1, H5, F, G2, (.slice a6 H5.length c6), bb, rfl, by omega, by go_num, by omega, HAt⟩
          case measure => simp [intOf]; omega
        · have qk0 : (κ == 0) = false := by simp [hκ0]
          have qk1 : (κ == 1) = false := by simp [hκ1]
          by_cases hκ : κ < 0
          · clear hκ0 hκ1
            go_wp2_with fail
            clear p_0 p_1 p_2 p_3 p_4 p_5 p_6 p_7 p_8 p_9 p_10 p_11 p_12 p_13 p_14
            refine (cloneH_any F bb room H _ HA.out.buf).mono ?_
            rintro e w2 ⟨b2, F2, rfl, hL2, hF2, hb2⟩
            have HA2 : Hid (OwS w b2 yb room H H (.slice ay H.length cy) (.slice ay H.length cy) F2 G w2) := HA.out.clone hL2 hF2 hb2
            have HO2 : Hid (BufH F w2 (.pointer (some ⟨bb, 0, none⟩)) room H) := HA.out.buf.below hb2
            have HX2 : Hid (∀ k, F k → w.heap.size ≤ k ∧ ¬ F2 k ∧ ¬ G k ∧ k ≠ yb) := fun k q => ⟨HA.out.fw k q, fun q2 => by have := hF2 k q2; have := HA.out.buf.lt k q; omega, HA.out.apart k q, fun e => HA.out.yF (e ▸ q)⟩
            clear hL2 hF2 hb2 HA HKn
            go_wp2_with fail
            refine (second_any _).mono ?_
            rintro e w3 ⟨dv, rfl, hd3, hb3⟩
            obtain ⟨ad, cd, ed⟩ := hd3.form
            subst ed
            have HA3 : Hid (OwS w b2 yb room H H (.slice ay H.length cy) (.slice ay H.length cy) F2 G w3) := HA2.out.below hb3
            have HO3 : Hid (BufH F w3 (.pointer (some ⟨bb, 0, none⟩)) room H) := HO2.out.below hb3
            have HD3 : Hid (IsI w3 (.slice ad ([1] : List Int).length cd) [1]) := hd3
            clear hd3 hb3 HA2 HO2
            go_wp2_with fail
            refine (take_anyQ F _ room H 2 1 1 (.slice ad ([1] : List Int).length cd) 5 1 0 0 0 0 0 ⟨#[]⟩ ⟨#[97]⟩ [1] _ [] _ HO3.out (by omega) (IsI.none _) HD3.out ⟨by decide, by decide⟩).mono ?_
            rintro e w4 ⟨v4, E4, F4, rfl, _, _, hL4, hF4, ht4, _⟩
            have hlen4 : ((takeR room H [] (⟨2, 1, 1, [1], 5, 1, 0, 0, 0, 0, 0, ⟨#[]⟩, ⟨#[97]⟩⟩ : Ch)).1.length : Int) ≤ room := takeR_len (by omega)
            have HA4 : Hid (OwS w b2 yb room H H (.slice ay H.length cy) (.slice ay H.length cy) F2 G w4) := HA3.out.touch ht4 HX2.out
            have HX4 : Hid (∀ k, F4 k → w.heap.size ≤ k ∧ ¬ F2 k ∧ ¬ G k ∧ k ≠ yb) := fun k q => by
              rcases hF4 k q with q | q
              · exact HX2.out k q
              · exact ⟨Nat.le_trans HA3.out.bel.size q, fun q2 => by have := HA3.out.buf.lt k q2; omega, fun q2 => by have := HA3.out.doc.1 k q2; omega, fun e => by have := HA3.out.ylt; omega⟩
            generalize takeR room H [] (⟨2, 1, 1, [1], 5, 1, 0, 0, 0, 0, 0, ⟨#[]⟩, ⟨#[97]⟩⟩ : Ch) = R4 at *
            obtain ⟨H4, O4, f4⟩ := R4
            simp only at hL4 hlen4 ⊢
            have HO4 : Hid (BufH F4 w4 (.pointer (some ⟨bb, 0, none⟩)) room H4) := hL4
            clear hL4 hF4 ht4 HA3 HO3 HD3 HX2
            go_wp2_with fail
            refine (first_any _).mono ?_
            rintro e w5 ⟨rfl, hb5⟩
            have HA5 : Hid (OwS w b2 yb room H H (.slice ay H.length cy) (.slice ay H.length cy) F2 G w5) := HA4.out.below hb5
            have HO5 : Hid (BufH F4 w5 (.pointer (some ⟨bb, 0, none⟩)) room H4) := HO4.out.below hb5
            clear hb5 HA4 HO4
            go_wp2_with fail
            refine (take_anyQ F4 _ room H4 1 0 1 (.slice none 0 0) 1 1 0 0 0 0 0 ⟨#[112]⟩ ⟨#[]⟩ [] _ [] _ HO5.out (by omega) (IsI.none _) (IsI.none _) ⟨by decide, by decide⟩).mono ?_
            rintro e w6 ⟨v6, E6, F6, rfl, _, _, _, _, ht6, _⟩
            have HAe : Hid (OwS w b2 yb room H H (.slice ay H.length cy) (.slice ay H.length cy) F2 G w6) := HA5.out.touch ht6 HX4.out
            generalize (takeR room H4 [] (⟨1, 0, 1, [], 1, 1, 0, 0, 0, 0, 0, ⟨#[112]⟩, ⟨#[]⟩⟩ : Ch)).2.2 = f6 at *
            clear ht6 HA5 HO5 HX4
            obtain ⟨u_0, u_1, _, _⟩ := row2_cells HAe.out.box
            go_wp2_with fail
            clear u_0 u_1
            refine (told_any F2 G _ room H _ _ HAe.out.buf HAe.out.doc (by omega)).mono ?_
            rintro e wt ⟨rfl, hbt⟩
            have HAt : Hid (OwS w b2 yb room H H (.slice ay H.length cy) (.slice ay H.length cy) F2 G wt) := HAe.out.below hbt
            clear hbt HAe
            go_wp2
            go_roundw
            case rel => exact ⟨i + 1, H, F2, G, (.slice ay H.length cy), b2, rfl, by omega, by go_num, by omega, HAt⟩
            case measure => simp [intOf]; omega
          · have hκ2 : 1 < κ := by omega
            clear hκ0 hκ1
            go_wp2_with fail
            clear p_0 p_1 p_2 p_3 p_4 p_5 p_6 p_7 p_8 p_9 p_10 p_11 p_12 p_13 p_14
            refine (cloneH_any F bb room H _ HA.out.buf).mono ?_
            rintro e w2 ⟨b2, F2, rfl, hL2, hF2, hb2⟩
            have HA2 : Hid (OwS w b2 yb room H H (.slice ay H.length cy) (.slice ay H.length cy) F2 G w2) := HA.out.clone hL2 hF2 hb2
            have HO2 : Hid (BufH F w2 (.pointer (some ⟨bb, 0, none⟩)) room H) := HA.out.buf.below hb2
            have HX2 : Hid (∀ k, F k → w.heap.size ≤ k ∧ ¬ F2 k ∧ ¬ G k ∧ k ≠ yb) := fun k q => ⟨HA.out.fw k q, fun q2 => by have := hF2 k q2; have := HA.out.buf.lt k q; omega, HA.out.apart k q, fun e => HA.out.yF (e ▸ q)⟩
            clear hL2 hF2 hb2 HA HKn
            go_wp2_with fail
            refine (second_any _).mono ?_
            rintro e w3 ⟨dv, rfl, hd3, hb3⟩
            obtain ⟨ad, cd, ed⟩ := hd3.form
            subst ed
            have HA3 : Hid (OwS w b2 yb room H H (.slice ay H.length cy) (.slice ay H.length cy) F2 G w3) := HA2.out.below hb3
            have HO3 : Hid (BufH F w3 (.pointer (some ⟨bb, 0, none⟩)) room H) := HO2.out.below hb3
            have HD3 : Hid (IsI w3 (.slice ad ([1] : List Int).length cd) [1]) := hd3
            clear hd3 hb3 HA2 HO2
            go_wp2_with fail
            refine (take_anyQ F _ room H 2 1 1 (.slice ad ([1] : List Int).length cd) 5 1 0 0 0 0 0 ⟨#[]⟩ ⟨#[97]⟩ [1] _ [] _ HO3.out (by omega) (IsI.none _) HD3.out ⟨by decide, by decide⟩).mono ?_
            rintro e w4 ⟨v4, E4, F4, rfl, _, _, hL4, hF4, ht4, _⟩
            have hlen4 : ((takeR room H [] (⟨2, 1, 1, [1], 5, 1, 0, 0, 0, 0, 0, ⟨#[]⟩, ⟨#[97]⟩⟩ : Ch)).1.length : Int) ≤ room := takeR_len (by omega)
            have HA4 : Hid (OwS w b2 yb room H H (.slice ay H.length cy) (.slice ay H.length cy) F2 G w4) := HA3.out.touch ht4 HX2.out
            have HX4 : Hid (∀ k, F4 k → w.heap.size ≤ k ∧ ¬ F2 k ∧ ¬ G k ∧ k ≠ yb) := fun k q => by
              rcases hF4 k q with q | q
              · exact HX2.out k q
              · exact ⟨Nat.le_trans HA3.out.bel.size q, fun q2 => by have := HA3.out.buf.lt k q2; omega, fun q2 => by have := HA3.out.doc.1 k q2; omega, fun e => by have := HA3.out.ylt; omega⟩
            generalize takeR room H [] (⟨2, 1, 1, [1], 5, 1, 0, 0, 0, 0, 0, ⟨#[]⟩, ⟨#[97]⟩⟩ : Ch) = R4 at *
            obtain ⟨H4, O4, f4⟩ := R4
            simp only at hL4 hlen4 ⊢
            have HO4 : Hid (BufH F4 w4 (.pointer (some ⟨bb, 0, none⟩)) room H4) := hL4
            clear hL4 hF4 ht4 HA3 HO3 HD3 HX2
            go_wp2_with fail
            refine (first_any _).mono ?_
            rintro e w5 ⟨rfl, hb5⟩
            have HA5 : Hid (OwS w b2 yb room H H (.slice ay H.length cy) (.slice ay H.length cy) F2 G w5) := HA4.out.below hb5
            have HO5 : Hid (BufH F4 w5 (.pointer (some ⟨bb, 0, none⟩)) room H4) := HO4.out.below hb5
            clear hb5 HA4 HO4
            go_wp2_with fail
            refine (take_anyQ F4 _ room H4 1 0 1 (.slice none 0 0) 1 1 0 0 0 0 0 ⟨#[112]⟩ ⟨#[]⟩ [] _ [] _ HO5.out (by omega) (IsI.none _) (IsI.none _) ⟨by decide, by decide⟩).mono ?_
            rintro e w6 ⟨v6, E6, F6, rfl, _, _, _, _, ht6, _⟩
            have HAe : Hid (OwS w b2 yb room H H (.slice ay H.length cy) (.slice ay H.length cy) F2 G w6) := HA5.out.touch ht6 HX4.out
            generalize (takeR room H4 [] (⟨1, 0, 1, [], 1, 1, 0, 0, 0, 0, 0, ⟨#[112]⟩, ⟨#[]⟩⟩ : Ch)).2.2 = f6 at *
            clear ht6 HA5 HO5 HX4
            obtain ⟨u_0, u_1, _, _⟩ := row2_cells HAe.out.box
            go_wp2_with fail
            clear u_0 u_1
            refine (told_any F2 G _ room H _ _ HAe.out.buf HAe.out.doc (by omega)).mono ?_
            rintro e wt ⟨rfl, hbt⟩
            have HAt : Hid (OwS w b2 yb room H H (.slice ay H.length cy) (.slice ay H.length cy) F2 G wt) := HAe.out.below hbt
            clear hbt HAe
            go_wp2
            go_roundw
            case rel => exact ⟨i + 1, H, F2, G, (.slice ay H.length cy), b2, rfl, by omega, by go_num, by omega, HAt⟩
            case measure => simp [intOf]; omega
    · have HBl : Hid (Below w.heap.size w wr) := HA.out.bel
      go_wp2_with (go_at_call 7; refine (awake_any _).mono ?_; rintro e w4 ⟨rfl, hb4⟩)
      go_ret
      exact ⟨rfl, HBl.out.trans (hb4.mono HBl.out.size)⟩

end Go.Proofs.Ythndgmnckpimmaa

namespace Go.Proofs.Ythndgmnckpimmaa
open Go.ChangeShapes Go.WideShapes Go.ChangeAt Go.RowKit
open Go.ChangeMaps (open_string shut_string)
set_option linter.unusedVariables false

set_option maxRecDepth 100000 in
theorem causalTakes_lifted (os : Os) (started : os.Started) (H : Type) (enc : TypeId × Value → H) :
    ReturnsInHanded {} Try.checked os 3 .any (Rows.causalTakesSpec.pre6 enc Try.prog Try.f3 Rows.causalTakesRow.domain false) (Rows.causalTakesSpec.post enc Try.prog Try.f3 false true false false) := by
  refine returnsInHanded_of_change_sized (C := Try.checked) ownI started (by kernel_rfl) Try.func3
    (ChangeSpec.witness6 (enc := enc) (C := Try.checked) false ⟨#[], #[.int .i64 0, .slice none 0 0], []⟩ 8 (by kernel_rfl) (by kernel_rfl) (by kernel_rfl) (by kernel_rfl)) ?_
  intro W base args ds gs before hval0 hW _ hsz0 _
  have hval : ∀ (j : Nat) t v, Try.f3.params[j]? = some t → args[j]? = some v → Value.okWide Try.prog W .any base t v := hval0
  have hW' := hW
  obtain ⟨p, q, hA0, hV, rfl, hfz, hnd⟩ := hW
  have hA : DataW.TrodAll enc Try.prog W 0 (fun _ => true) true Try.f3.params.toList args.toList ds p := hA0
  rw [Try.params3] at hA hval
  obtain ⟨v0, v1, d0, d1, p0, p1, rfl, rfl, rfl, h0, h1⟩ := trodAll_two hA
  obtain ⟨rfl, rfl⟩ := trodVars_none hV
  obtain ⟨x0, rfl, rfl, rfl, wx0⟩ := open_int Try.underlying3 (hval 0 3 v0 rfl rfl) h0
  have hk1 := h1
  have hsz : (DataW.weightsEach Try.prog (Try.f3.params.toList ++ Rows.causalTakesSpec.plain.varTypes Try.prog) (_ ++ _)).all (· ≤ reachBytes) = true := hsz0
  rw [Try.params3] at hsz
  have hw1 : ∀ n ∈ d1.weights Try.prog 22, n ≤ reachBytes := fun n hn => by
    have h1 := List.all_eq_true.1 hsz n (DataW.weights_mem_each (j := 1) rfl rfl n hn)
    simpa using h1
  obtain ⟨D1, is1⟩ := open_cmsV (hval 1 22 v1 rfl rfl) h1 hw1
  have hlt1 : ∀ x ∈ p1, x.block < W.heap.size := fun x hx => by simpa using hW'.lt x (by simp [hx])
  clear hA0 hval0
  refine (takesWalk x0 v1 D1 W wx0 is1).mono fun e W' ⟨he, bel⟩ => ?_
  subst he
  exact ⟨_, rfl, _, _, _, [], _, [], hW', trodAll_mk1 (shut_bool Try.underlying4 _), trodAll_mk2 (shut_int Try.underlying3 wx0) (Below.trod laidOutI (by kernel_rfl) (of_decide_eq_true (by kernel_rfl)) hk1 bel hlt1), rfl, bel.frame _, fun h => by cases h⟩

theorem causalTakes_holds : Rows.CausalTakesSaid :=
  OpenClaim.holds_of_wide 3 Try.f3 rfl rfl rfl rfl rfl rfl rfl ⟨rfl, rfl, rfl, rfl, rfl⟩ rfl rfl rfl rfl rfl (by kernel_rfl) Try.func3 (by kernel_rfl)
    (of_decide_eq_true (by kernel_rfl)) (by unfold Func.isWrapper; first | (rw [if_pos (by decide +kernel)]; kernel_rfl) | (rw [if_neg (by decide +kernel)]; exact ⟨rfl, rfl⟩))
    (fun os started H enc _ => causalTakes_lifted os started H enc)
#print axioms causalTakes_holds
end Go.Proofs.Ythndgmnckpimmaa
