/- What wire's putStamps does. -/
import Derived.Test.YtlioiblpcpaejaaGreatXC
import Derived.Test.YtlioiblpcpaejaaGreatXI
import Derived.Test.YtlioiblpcpaejaaGreatXH
import Derived.Test.YtlioiblpcpaejaaGreatXG
import Derived.Test.YtlioiblpcpaejaaGreatXE
import Derived.Deep.RegionHeld
namespace Go.Proofs.YtlioiblpcpaejaaGreat
open Go.RowKit
set_option linter.unusedVariables false
set_option linter.unusedSimpArgs false

theorem grownBy.toBelow {a b : World} {r : Option Nat} (h : a.grownBy b r) {n : Nat} (hn : n ≤ a.heap.size) (hr : ∀ j, r = some j → n ≤ j) : Below n a b :=
  ⟨h.os, h.tape, h.output, h.size, fun j hj => h.block j (Nat.lt_of_lt_of_le hj hn) (fun e => by have := hr j e.symm; omega)⟩

/-- From block b, offset o on lie these stamps. -/
def RowAt (w : World) (b o : Nat) (d : List (Int × Int)) : Prop :=
  ∀ i (h : i < d.length), w.cell? ⟨b, o + i * 2, none⟩ = some (.int .i64 d[i].1) ∧ w.cell? ⟨b, o + i * 2 + 1, none⟩ = some (.int .i64 d[i].2)
theorem RowAt.lt {w : World} {b o : Nat} {d : List (Int × Int)} (h : RowAt w b o d) (hd : d ≠ []) : b < w.heap.size := by
  have h0 := (h 0 (by cases d with | nil => exact absurd rfl hd | cons x y => simp)).1
  rcases Nat.lt_or_ge b w.heap.size with h' | h'
  · exact h'
  · simp [World.cell?, h'] at h0
theorem RowAt.below {w w' : World} {b o : Nat} {d : List (Int × Int)} (h : RowAt w b o d) (hb : Below w.heap.size w w') : RowAt w' b o d := by
  intro i hi
  have hlt := h.lt (by intro e; subst e; simp at hi)
  exact ⟨(hb.cell (p := ⟨b, o + i * 2, none⟩) hlt).trans (h i hi).1, (hb.cell (p := ⟨b, o + i * 2 + 1, none⟩) hlt).trans (h i hi).2⟩
/-- The value is a slice of these few stamps. -/
def IsS (w : World) (v : Value) (d : List (Int × Int)) : Prop :=
  ∃ (a : Option Addr) (cap : Nat), v = .slice a d.length cap ∧ d.length ≤ cap ∧ d.length ≤ 3 ∧ (d = [] ∨ ∃ b o, a = some ⟨b, o, none⟩ ∧ RowAt w b o d)
theorem IsS.below {w w' : World} {v : Value} {d : List (Int × Int)} (h : IsS w v d) (hb : Below w.heap.size w w') : IsS w' v d := by
  obtain ⟨a, cap, e, hc, hl, h⟩ := h
  refine ⟨a, cap, e, hc, hl, h.imp id fun ⟨b, o, e2, hr⟩ => ⟨b, o, e2, hr.below hb⟩⟩
def flatS (d : List (Int × Int)) : List Int := d.flatMap fun x => [x.1, x.2]
theorem flatS_length (d : List (Int × Int)) : (flatS d).length = d.length * 2 := by
  induction d with
  | nil => rfl
  | cons x y ih => simp [flatS] at ih ⊢; omega
theorem flatS_snoc {d : List (Int × Int)} {k : Nat} (h : k < d.length) : flatS (d.take (k + 1)) = flatS (d.take k) ++ [d[k].1, d[k].2] := by
  rw [List.take_succ_eq_append_getElem h]; simp only [flatS, List.flatMap_append, List.flatMap_cons, List.flatMap_nil, List.append_nil]
theorem OwnI.snoc2 {B : Nat} {w : World} {v : Value} {D : List Int} {x y : Int} (h : w.ownsRow B 3 1 v (D.length + 2) (cellsI D ++ [.int .i64 x, .int .i64 y])) : OwnI B w v (D ++ [x, y]) := by
  unfold OwnI
  have e : cellsI (D ++ [x, y]) = cellsI D ++ [.int .i64 x, .int .i64 y] := by simp [cellsI]
  rw [e]
  simpa using h
theorem cell_two_new (w : World) (x y : Value) (t : TypeId) : ∀ j u, [x, y][j]? = some u → (w.alloc (.cells #[x, y] t)).cell? ((⟨w.heap.size, 0, none⟩ : Addr).add j) = some u := by
  intro j u hj
  rw [Addr.add_lit]
  match j, hj with
  | 0, hj => simp at hj; subst hj; simp [go_sem]
  | 1, hj => simp at hj; subst hj; simp [go_sem]
  | j + 2, hj => simp at hj

set_option maxRecDepth 100000 in
set_option maxHeartbeats 2000000 in
theorem putStamps_any (vb vl : Value) (p : List UInt8) (d : List (Int × Int)) (w : World) (h1 : IsB w vb p) (h2 : IsS w vl d) (hd : ∀ x ∈ d, x.1 < 9223372036854775808 ∧ x.2 < 9223372036854775808) (hl : p.length + (putsL (flatS d)).length ≤ 140737488355328) :
    Calls Tryz.prog 69 #[vb, vl] w fun e w' => ∃ v', e = .returned v' ∧ OwnB w.heap.size w' v' (p ++ putsL (flatS d)) ∧ Below w.heap.size w w' := by
  obtain ⟨a2, c2, rfl, hc2, hl2, r2⟩ := h2
  have H1 : Hid (IsB w vb p) := h1
  have HR : Hid (d = [] ∨ ∃ b o, a2 = some ⟨b, o, none⟩ ∧ RowAt w b o d) := r2
  have HD : Hid (∀ x ∈ flatS d, x < 9223372036854775808) := fun x hx => by
    simp only [flatS, List.mem_flatMap, List.mem_cons, List.not_mem_nil, or_false] at hx
    obtain ⟨z, hz, rfl | rfl⟩ := hx
    · exact (hd z hz).1
    · exact (hd z hz).2
  have HL : Hid (p.length + (putsL (flatS d)).length ≤ 140737488355328) := hl
  obtain ⟨i0, hi, hz0, hz1, hz2⟩ := info_parts infoInt
  have HI : Hid (Tryz.prog.info? 3 = some i0 ∧ i0.zero = some (.int .i64 0) ∧ i0.size = 1 ∧ i0.bytes = 8) := ⟨hi, hz0, hz1, hz2⟩
  clear h1 r2 hd hl hi hz0 hz1 hz2
  go_enter Tryz.func69, Tryz.ntmps69
  go_wp2
  go_loopw [5, 10] (fun u i wr => ∃ k : Nat, k ≤ d.length ∧ i = .int .i64 (k : Int) ∧ Hid (OwnI w.heap.size wr u (flatS (d.take k)) ∧ Below w.heap.size w wr)) (fun _ i _ => d.length - (intOf i).toNat)
  case atStart => exact ⟨0, Nat.zero_le _, rfl, OwnI.nil0 _ _, Below.refl _ _⟩
  case round =>
    obtain ⟨k, hk, rfl, HO⟩ := hrel
    by_cases hlt : k < d.length
    · obtain ⟨b1, o1, rfl, g1⟩ := HR.out.resolve_left (by intro e; subst e; simp at hlt)
      obtain ⟨x1, x2⟩ := (g1.below HO.out.2) k hlt
      have k1 : (k : Int) < (d.length : Int) := by omega
      have k0 : (0 : Int) ≤ (k : Int) := by omega
      have HF : Hid (flatS (d.take (k + 1)) = flatS (d.take k) ++ [d[k].1, d[k].2]) := flatS_snoc hlt
      have hfl : (flatS (d.take k)).length ≤ 6 := by rw [flatS_length, List.length_take]; omega
      have hsz := HO.out.2.size
      clear g1
      generalize d[k] = x at *
      obtain ⟨n1, n2⟩ := x
      simp only at x1 x2 HF
      obtain ⟨WA, eWA⟩ : ∃ WA, WA = wr.alloc (.cells #[.int .i64 n1, .int .i64 n2] 55) := ⟨_, rfl⟩
      have hWA : WA.heap.size = wr.heap.size + 1 := by rw [eWA]; simp
      have HBA : Hid (Below wr.heap.size wr WA) := by rw [eWA]; exact (Below.refl _ _).alloc (Nat.le_refl _) _
      have HBB : Hid (Below WA.heap.size WA (WA.alloc (.cells #[.int .i64 n1, .int .i64 n2] 3))) := (Below.refl _ _).alloc (Nat.le_refl _) _
      have HN2 : Hid (∀ j u, [Value.int .i64 n1, Value.int .i64 n2][j]? = some u → (WA.alloc (.cells #[.int .i64 n1, .int .i64 n2] 3)).cell? ((⟨wr.heap.size + 1, 0, none⟩ : Addr).add j) = some u) := by
        have := cell_two_new WA (.int .i64 n1) (.int .i64 n2) 3
        rw [hWA] at this
        exact this
      have HOW : Hid (OwnI w.heap.size (WA.alloc (.cells #[.int .i64 n1, .int .i64 n2] 3)) u5 (flatS (d.take k))) := (HO.out.1.below HBA.out).below HBB.out
      have HBW : Hid (Below w.heap.size w (WA.alloc (.cells #[.int .i64 n1, .int .i64 n2] 3))) := (HO.out.2.trans (HBA.out.mono hsz)).trans (HBB.out.mono (by omega))
      have hszW : w.heap.size ≤ (WA.alloc (.cells #[.int .i64 n1, .int .i64 n2] 3)).heap.size := HBW.out.size
      rw [eWA] at HN2 HOW HBW hszW
      clear HBA HBB hWA eWA
      go_wp2_with (at_builtin; refine wpList_append_own _ rfl _ _ 23 rfl w.heap.size 3 i0 (.int .i64 0) 1 8 Tryz.underlying23 HI.out.1 HI.out.2.1 HI.out.2.2.1 HI.out.2.2.2 rfl (by decide) _ _ _ rfl HOW.out ⟨wr.heap.size + 1, 0, none⟩ 2 2 [.int .i64 n1, .int .i64 n2] rfl rfl HN2.out (fun x hx => by simp at hx; rcases hx with rfl | rfl <;> rfl) (by unfold maxLen; omega) (by omega) hszW ?_; intro v4 w4 hown4 hgrow4 hnil4)
      have HN4 : Hid (OwnI w.heap.size w4 v4 (flatS (d.take (k + 1))) ∧ Below w.heap.size w w4) := by
        show _ ∧ _
        rw [HF.out]
        exact ⟨OwnI.snoc2 hown4, HBW.out.trans (grownBy.toBelow hgrow4 hszW (fun z hz => HOW.out.block z hz))⟩
      clear hown4 hgrow4 hnil4 HOW HBW HN2 HF HO hszW
      go_wp2
      go_roundw
      case rel => exact ⟨k + 1, by omega, by go_num, HN4⟩
      case measure => simp [intOf]; omega
    · obtain rfl : k = d.length := by omega
      have HTK : Hid (d.take d.length = d) := List.take_length
      rw [HTK.out] at HO
      have hfl := flatS_length d
      have HIN : Hid (IsI wr u5 (flatS d)) := HO.out.1.isI (by omega)
      have HB5 : Hid (Below w.heap.size w wr) := HO.out.2
      have hsz := HB5.out.size
      clear HO HTK hfl
      go_wp2_with fail
      refine (put_any vb u5 p (flatS d) _ (H1.out.below HB5.out) HIN.out HD.out HL.out).mono ?_
      rintro e w5 ⟨v5, rfl, ho5, hb5⟩
      have HO5 : Hid (OwnB wr.heap.size w5 v5 (p ++ putsL (flatS d))) := ho5
      have HBF : Hid (Below w.heap.size w w5) := HB5.out.trans (hb5.mono hsz)
      clear ho5 hb5
      go_wp2
      go_ret
      exact ⟨_, rfl, HO5.out.cut hsz, HBF.out⟩

end Go.Proofs.YtlioiblpcpaejaaGreat

namespace Go.Proofs.YtlioiblpcpaejaaGreat
open Go.RowKit
set_option linter.unusedVariables false
set_option linter.unusedSimpArgs false

theorem IsI.one (w : World) (x : Int) : IsI (w.alloc (.cells #[.int .i64 x] 3)) (.slice (some ⟨w.heap.size, 0, none⟩) 1 1) [x] := by
  refine ⟨_, 1, rfl, Nat.le_refl _, by simp, .inr ⟨w.heap.size, 0, rfl, fun i hi => ?_⟩⟩
  rw [cell_of_row _ _ _ _ _ _ (heap_alloc_new w _)]
  obtain rfl : i = 0 := by simp at hi; omega
  rfl
theorem IsI.two (w : World) (x y : Int) : IsI (w.alloc (.cells #[.int .i64 x, .int .i64 y] 3)) (.slice (some ⟨w.heap.size, 0, none⟩) 2 2) [x, y] := by
  refine ⟨_, 2, rfl, Nat.le_refl _, by simp, .inr ⟨w.heap.size, 0, rfl, fun i hi => ?_⟩⟩
  rw [cell_of_row _ _ _ _ _ _ (heap_alloc_new w _)]
  rcases show i = 0 ∨ i = 1 by simp at hi; omega with rfl | rfl <;> rfl
theorem IsS.one (w : World) (x y : Int) : IsS (w.alloc (.cells #[.int .i64 x, .int .i64 y] 55)) (.slice (some ⟨w.heap.size, 0, none⟩) 1 1) [(x, y)] := by
  refine ⟨_, 1, rfl, Nat.le_refl _, by simp, .inr ⟨w.heap.size, 0, rfl, fun i hi => ?_⟩⟩
  rw [cell_of_row _ _ _ _ _ _ (heap_alloc_new w _), cell_of_row _ _ _ _ _ _ (heap_alloc_new w _)]
  obtain rfl : i = 0 := by simp at hi; omega
  exact ⟨rfl, rfl⟩
theorem IsS.two (w : World) (x y z u : Int) : IsS (w.alloc (.cells #[.int .i64 x, .int .i64 y, .int .i64 z, .int .i64 u] 55)) (.slice (some ⟨w.heap.size, 0, none⟩) 2 2) [(x, y), (z, u)] := by
  refine ⟨_, 2, rfl, Nat.le_refl _, by simp, .inr ⟨w.heap.size, 0, rfl, fun i hi => ?_⟩⟩
  rw [cell_of_row _ _ _ _ _ _ (heap_alloc_new w _), cell_of_row _ _ _ _ _ _ (heap_alloc_new w _)]
  rcases show i = 0 ∨ i = 1 by simp at hi; omega with rfl | rfl <;> exact ⟨rfl, rfl⟩
theorem IsS.three (w : World) (x y z u s t : Int) : IsS (w.alloc (.cells #[.int .i64 x, .int .i64 y, .int .i64 z, .int .i64 u, .int .i64 s, .int .i64 t] 55)) (.slice (some ⟨w.heap.size, 0, none⟩) 3 3) [(x, y), (z, u), (s, t)] := by
  refine ⟨_, 3, rfl, Nat.le_refl _, by simp, .inr ⟨w.heap.size, 0, rfl, fun i hi => ?_⟩⟩
  rw [cell_of_row _ _ _ _ _ _ (heap_alloc_new w _), cell_of_row _ _ _ _ _ _ (heap_alloc_new w _)]
  rcases show i = 0 ∨ i = 1 ∨ i = 2 by simp at hi; omega with rfl | rfl | rfl <;> exact ⟨rfl, rfl⟩
theorem IsT.one (w : World) (s : ByteArray) : IsT (w.alloc (.cells #[.string s] 9)) (.slice (some ⟨w.heap.size, 0, none⟩) 1 1) [s] := by
  refine ⟨_, 1, rfl, Nat.le_refl _, by simp, .inr ⟨w.heap.size, 0, rfl, fun i hi => ?_⟩⟩
  rw [cell_of_row _ _ _ _ _ _ (heap_alloc_new w _)]
  obtain rfl : i = 0 := by simp at hi; omega
  rfl
theorem IsT.two (w : World) (s t : ByteArray) : IsT (w.alloc (.cells #[.string s, .string t] 9)) (.slice (some ⟨w.heap.size, 0, none⟩) 2 2) [s, t] := by
  refine ⟨_, 2, rfl, Nat.le_refl _, by simp, .inr ⟨w.heap.size, 0, rfl, fun i hi => ?_⟩⟩
  rw [cell_of_row _ _ _ _ _ _ (heap_alloc_new w _)]
  rcases show i = 0 ∨ i = 1 by simp at hi; omega with rfl | rfl <;> rfl
theorem KeptC.cells13 {w0 : World} {b : Nat} {v0 v1 v2 v3 v4 v5 v6 v7 v8 v9 v10 v11 v12 : Value} {W : World} (h : KeptC w0 b [v0, v1, v2, v3, v4, v5, v6, v7, v8, v9, v10, v11, v12] W) : W.cell? ⟨b, 0, none⟩ = some v0 ∧ W.cell? ⟨b, 1, none⟩ = some v1 ∧ W.cell? ⟨b, 2, none⟩ = some v2 ∧ W.cell? ⟨b, 3, none⟩ = some v3 ∧ W.cell? ⟨b, 4, none⟩ = some v4 ∧ W.cell? ⟨b, 5, none⟩ = some v5 ∧ W.cell? ⟨b, 6, none⟩ = some v6 ∧ W.cell? ⟨b, 7, none⟩ = some v7 ∧ W.cell? ⟨b, 8, none⟩ = some v8 ∧ W.cell? ⟨b, 9, none⟩ = some v9 ∧ W.cell? ⟨b, 10, none⟩ = some v10 ∧ W.cell? ⟨b, 11, none⟩ = some v11 ∧ W.cell? ⟨b, 12, none⟩ = some v12 :=
  ⟨h.1 0 _ rfl, h.1 1 _ rfl, h.1 2 _ rfl, h.1 3 _ rfl, h.1 4 _ rfl, h.1 5 _ rfl, h.1 6 _ rfl, h.1 7 _ rfl, h.1 8 _ rfl, h.1 9 _ rfl, h.1 10 _ rfl, h.1 11 _ rfl, h.1 12 _ rfl⟩
theorem putsL_two (x y : Int) : putsL (flatS [(x, y)]) = stampP x y := by simp [putsL, flatS, stampP, putI]
theorem textsB_one (s : ByteArray) : textsB [s] = textP s.data.toList := by simp [textsB, textB, textP]
/-- The bytes, in steps. -/
def headA (ac ar kd : Int) : List UInt8 := putI kd ++ stampP ac ar
def headB (ac ar sq kd : Int) (ds : List Int) : List UInt8 := headA ac ar kd ++ (putI sq ++ listP ds)
theorem bytes_head (c : Ch) : bytesCh c = headB c.ac c.ar c.seq c.kind c.deps ++ restP c := by simp [bytesCh, headB, headA]
theorem putsL_nums (ds : List Int) : putsL ds = numsP ds := by simp [putsL, numsP, List.flatMap]; rfl

set_option maxRecDepth 100000 in
set_option maxHeartbeats 8000000 in
theorem putOk_any (ac ar sq : Int) (a1 : Option Addr) (ds : List Int) (c1 : Nat) (kd nc nr pc pr fc fr : Int) (nm vl : ByteArray) (hs : nm.size ≤ 281474976710656) (w : World) (h1 : IsI w (.slice a1 ds.length c1) ds) (hc : checkCh ⟨ac, ar, sq, ds, kd, nc, nr, pc, pr, fc, fr, nm, vl⟩ = 0) :
    Calls Tryz.prog 54 #[.agg #[.int .i64 ac, .int .i64 ar, .int .i64 sq, .slice a1 ds.length c1, .int .i64 kd, .int .i64 nc, .int .i64 nr, .int .i64 pc, .int .i64 pr, .int .i64 fc, .int .i64 fr, .string nm, .string vl]] w fun e w' => ∃ v, e = .returned (.tuple #[v, .int .i64 0]) ∧ OwnB w.heap.size w' v (bytesCh ⟨ac, ar, sq, ds, kd, nc, nr, pc, pr, fc, fr, nm, vl⟩) ∧ Below w.heap.size w w' := by
  have K0 := KeptC.start w [.int .i64 ac, .int .i64 ar, .int .i64 sq, .slice a1 ds.length c1, .int .i64 kd, .int .i64 nc, .int .i64 nr, .int .i64 pc, .int .i64 pr, .int .i64 fc, .int .i64 fr, .string nm, .string vl] 57
  have H1 : Hid (IsI w (.slice a1 ds.length c1) ds) := h1
  have hfine := fine _ hc
  have hkd : kd = 1 ∨ kd = 2 ∨ kd = 3 ∨ kd = 4 ∨ kd = 5 := hfine.kind
  have hA := node_lays hfine.at_
  have hN := node_lays hfine.node
  have hP := node_lays hfine.parent
  have hF := node_lays hfine.after
  simp only at hA hN hP hF
  have hsq : sq < 9223372036854775808 := by have := hfine.seq1; simp only at this; omega
  have hdl := clock_lays hfine.deps
  simp only at hdl
  have hds : ds.length ≤ 64 := hdl.1
  have HDL : Hid (∀ x ∈ ds, x < 9223372036854775808) := fun x hx => (hdl.2 x hx).2
  have hnm := name_len hc
  have hvl := value_len hc
  simp only at hnm hvl
  have z1 := stampP_len hA
  have z2 := stampP_len hN
  have z3 := stampP_len hP
  have z4 := stampP_len hF
  have z5 : (putI kd).length ≤ 9 := putI_len (by omega)
  have z6 : (putI sq).length ≤ 9 := putI_len hsq
  have z7 := listP_len hds hdl.2
  have z8 := textP_len (t := nm.data.toList) (by omega)
  have z9 := textP_len (t := vl.data.toList) (by omega)
  have HAL : Hid (ac < 9223372036854775808 ∧ ar < 9223372036854775808) := ⟨hA.1.2, hA.2.2⟩
  have HNL : Hid (nc < 9223372036854775808 ∧ nr < 9223372036854775808) := ⟨hN.1.2, hN.2.2⟩
  have HPL : Hid (pc < 9223372036854775808 ∧ pr < 9223372036854775808) := ⟨hP.1.2, hP.2.2⟩
  have HFL : Hid (fc < 9223372036854775808 ∧ fr < 9223372036854775808) := ⟨hF.1.2, hF.2.2⟩
  have HC : Hid (checkCh ⟨ac, ar, sq, ds, kd, nc, nr, pc, pr, fc, fr, nm, vl⟩ = 0) := hc
  clear hA hN hP hF hfine hdl h1
  go_enter Tryz.func54, Tryz.ntmps54
  go_wp2_with fail
  refine (checkCh_any ac ar sq (.slice a1 ds.length c1) kd nc nr pc pr fc fr nm vl ds hs _ (H1.out.below K0.2.2)).mono ?_
  rintro e w1 ⟨rfl, hb1⟩
  rw [hc]
  have K1 := K0.step hb1
  clear hb1 K0 hc
  go_upto_region 4 with fail
  go_cut [5] from 6 (fun v W => OwnB w.heap.size W v (headA ac ar kd) ∧ KeptC w w.heap.size [.int .i64 ac, .int .i64 ar, .int .i64 sq, .slice a1 ds.length c1, .int .i64 kd, .int .i64 nc, .int .i64 nr, .int .i64 pc, .int .i64 pr, .int .i64 fc, .int .i64 fr, .string nm, .string vl] W)
  case first =>
    refine wp_region_held_drew (S := fun W' => KeptC w w.heap.size [.int .i64 ac, .int .i64 ar, .int .i64 sq, .slice a1 ds.length c1, .int .i64 kd, .int .i64 nc, .int .i64 nr, .int .i64 pc, .int .i64 pr, .int .i64 fc, .int .i64 fr, .string nm, .string vl] W') (by kernel_rfl) K1.drew (fun hHeld => ?_)
    obtain ⟨Ua0, eW⟩ : ∃ X, X = w1.drew := ⟨_, rfl⟩
    rw [← eW] at hHeld ⊢
    clear eW
    refine wpAnyH_take (i := 0) (oi := ⟨some 11, _, _, _, _, _⟩) (v := ?vax0) rfl (by kernel_rfl) (by kernel_rfl) (by kernel_rfl) (fun _ _ _ h => h) (Or.inl ⟨by rfl, ?hyax0⟩) hHeld ?restax0
    case hyax0 => (intro w hSw; (try dsimp only at hSw); have hc0 := hSw.1 0 _ rfl; have hc1 := hSw.1 1 _ rfl; have hc2 := hSw.1 2 _ rfl; have hc3 := hSw.1 3 _ rfl; have hc4 := hSw.1 4 _ rfl; have hc5 := hSw.1 5 _ rfl; have hc6 := hSw.1 6 _ rfl; have hc7 := hSw.1 7 _ rfl; have hc8 := hSw.1 8 _ rfl; have hc9 := hSw.1 9 _ rfl; have hc10 := hSw.1 10 _ rfl; have hc11 := hSw.1 11 _ rfl; have hc12 := hSw.1 12 _ rfl; go_simp; try with_reducible rfl)
    simp only [Act.put, List.setIfInBounds_toArray, List.set_cons_zero, List.set_cons_succ]
    refine wpAnyH_take (i := 1) (oi := ⟨some 12, _, _, _, _, _⟩) (v := ?vax1) rfl (by kernel_rfl) (by kernel_rfl) (by kernel_rfl) (fun _ _ _ h => h) (Or.inl ⟨by rfl, ?hyax1⟩) hHeld ?restax1
    case hyax1 => (intro w hSw; (try dsimp only at hSw); have hc0 := hSw.1 0 _ rfl; have hc1 := hSw.1 1 _ rfl; have hc2 := hSw.1 2 _ rfl; have hc3 := hSw.1 3 _ rfl; have hc4 := hSw.1 4 _ rfl; have hc5 := hSw.1 5 _ rfl; have hc6 := hSw.1 6 _ rfl; have hc7 := hSw.1 7 _ rfl; have hc8 := hSw.1 8 _ rfl; have hc9 := hSw.1 9 _ rfl; have hc10 := hSw.1 10 _ rfl; have hc11 := hSw.1 11 _ rfl; have hc12 := hSw.1 12 _ rfl; go_simp; try with_reducible rfl)
    simp only [Act.put, List.setIfInBounds_toArray, List.set_cons_zero, List.set_cons_succ]
    refine wpAnyH_take (i := 4) (oi := ⟨some 15, _, _, _, _, _⟩) (v := ?vax4) rfl (by kernel_rfl) (by kernel_rfl) (by kernel_rfl) (fun _ _ _ h => h) (Or.inl ⟨by rfl, ?hyax4⟩) hHeld ?restax4
    case hyax4 => (intro w hSw; (try dsimp only at hSw); have hc0 := hSw.1 0 _ rfl; have hc1 := hSw.1 1 _ rfl; have hc2 := hSw.1 2 _ rfl; have hc3 := hSw.1 3 _ rfl; have hc4 := hSw.1 4 _ rfl; have hc5 := hSw.1 5 _ rfl; have hc6 := hSw.1 6 _ rfl; have hc7 := hSw.1 7 _ rfl; have hc8 := hSw.1 8 _ rfl; have hc9 := hSw.1 9 _ rfl; have hc10 := hSw.1 10 _ rfl; have hc11 := hSw.1 11 _ rfl; have hc12 := hSw.1 12 _ rfl; go_simp; try with_reducible rfl)
    simp only [Act.put, List.setIfInBounds_toArray, List.set_cons_zero, List.set_cons_succ]
    refine wpAnyH_take (i := 5) (oi := ⟨some 16, _, _, _, _, _⟩) (v := ?vax5) rfl (by kernel_rfl) (by kernel_rfl) (by kernel_rfl) (fun _ _ _ h => h) (Or.inl ⟨by rfl, ?hyax5⟩) hHeld ?restax5
    case hyax5 => (intro w hSw; (try dsimp only at hSw); have hc0 := hSw.1 0 _ rfl; have hc1 := hSw.1 1 _ rfl; have hc2 := hSw.1 2 _ rfl; have hc3 := hSw.1 3 _ rfl; have hc4 := hSw.1 4 _ rfl; have hc5 := hSw.1 5 _ rfl; have hc6 := hSw.1 6 _ rfl; have hc7 := hSw.1 7 _ rfl; have hc8 := hSw.1 8 _ rfl; have hc9 := hSw.1 9 _ rfl; have hc10 := hSw.1 10 _ rfl; have hc11 := hSw.1 11 _ rfl; have hc12 := hSw.1 12 _ rfl; go_simp; try with_reducible rfl)
    simp only [Act.put, List.setIfInBounds_toArray, List.set_cons_zero, List.set_cons_succ]
    refine wpAnyH_ready (rs := [2, 6]) (by kernel_rfl) (by simp) ?_
    refine AllReadyH.cons (o := ⟨some 13, _, _, _, _, _⟩) rfl (fun K hK => ?_) (AllReadyH.cons (o := ⟨some 17, _, _, _, _, _⟩) rfl (fun K hK => ?_) AllReadyH.nil)
    · go_simp
      refine hK.out _ _ (hHeld.step ((Below.refl _ _).alloc (Nat.le_refl _) _)) (fun hHeld2 => ?_)
      clear hK K hHeld
      have hHeld := hHeld2
      clear hHeld2
      (try simp only [Act.put, List.setIfInBounds_toArray, List.set_cons_zero, List.set_cons_succ])
      obtain ⟨Ua1, eW⟩ : ∃ X, X = Ua0.alloc (.cells #[.int .i64 kd] 3) := ⟨_, rfl⟩
      have BW : Hid (Below Ua0.heap.size Ua0 Ua1) := by rw [eW]; exact (Below.refl _ _).alloc (Nat.le_refl _) _
      have I2 : Hid (IsI Ua1 (.slice (some ⟨Ua0.heap.size, 0, none⟩) 1 1) [kd]) := by rw [eW]; exact IsI.one Ua0 kd
      rw [← eW] at hHeld ⊢
      clear eW BW
      refine wpAnyH_ready (rs := [3, 6]) (by kernel_rfl) (by simp) ?_
      refine AllReadyH.cons (o := ⟨some 14, _, _, _, _, _⟩) rfl (fun K hK => ?_) (AllReadyH.cons (o := ⟨some 17, _, _, _, _, _⟩) rfl (fun K hK => ?_) AllReadyH.nil)
      · go_simp
        refine (put_any _ _ [] [kd] _ (IsB.non 0) I2.out (fun x hx => by simp at hx; subst hx; omega) (by simp [putsL]; have : (putI kd).length ≤ 9 := z5; unfold putI at this; omega)).mono ?_
        rintro e Va2 ⟨v3, rfl, ho, hb⟩
        (try go_wp2_with fail)
        refine hK.out _ _ (hHeld.step hb) (fun hHeld2 => ?_)
        clear hK K hHeld
        have hHeld := hHeld2
        clear hHeld2
        (try simp only [Act.put, List.setIfInBounds_toArray, List.set_cons_zero, List.set_cons_succ])
        replace I2 : Hid (IsI Va2 (.slice (some ⟨Ua0.heap.size, 0, none⟩) 1 1) [kd]) := I2.out.below hb
        have O3 : Hid (IsB Va2 v3 ([] ++ putsL [kd])) := ho.isB (by simp [putsL]; have : (putI kd).length ≤ 9 := z5; unfold putI at this; omega)
        clear ho hb
        refine wpAnyH_ready (rs := [6]) (by kernel_rfl) (by simp) ?_
        refine AllReadyH.cons (o := ⟨some 17, _, _, _, _, _⟩) rfl (fun K hK => ?_) AllReadyH.nil
        go_simp
        refine hK.out _ _ (hHeld.step ((Below.refl _ _).alloc (Nat.le_refl _) _)) (fun hHeld2 => ?_)
        clear hK K hHeld
        have hHeld := hHeld2
        clear hHeld2
        (try simp only [Act.put, List.setIfInBounds_toArray, List.set_cons_zero, List.set_cons_succ])
        obtain ⟨Ua3, eW⟩ : ∃ X, X = Va2.alloc (.cells #[.int .i64 ac, .int .i64 ar] 55) := ⟨_, rfl⟩
        have BW : Hid (Below Va2.heap.size Va2 Ua3) := by rw [eW]; exact (Below.refl _ _).alloc (Nat.le_refl _) _
        replace I2 : Hid (IsI Ua3 (.slice (some ⟨Ua0.heap.size, 0, none⟩) 1 1) [kd]) := I2.out.below BW.out
        replace O3 : Hid (IsB Ua3 v3 ([] ++ putsL [kd])) := O3.out.below BW.out
        have I6 : Hid (IsS Ua3 (.slice (some ⟨Va2.heap.size, 0, none⟩) 1 1) [(ac, ar)]) := by rw [eW]; exact IsS.one Va2 ac ar
        rw [← eW] at hHeld ⊢
        clear eW BW
        refine wpAnyH_ready (rs := [7]) (by kernel_rfl) (by simp) ?_
        refine AllReadyH.cons (o := ⟨some 18, _, _, _, _, _⟩) rfl (fun K hK => ?_) AllReadyH.nil
        go_simp
        have hsz := hHeld.2.2.size
        refine (putStamps_any _ _ _ [(ac, ar)] _ O3.out I6.out (fun x hx => by simp at hx; subst hx; exact HAL.out) (by rw [putsL_two, List.length_append]; have : (putI kd).length ≤ 9 := z5; simp [putsL]; unfold putI at this; omega)).mono ?_
        rintro e Va4 ⟨v7, rfl, ho, hb⟩
        (try go_wp2_with fail)
        refine hK.out _ _ (hHeld.step hb) (fun hHeld2 => ?_)
        clear hK K hHeld
        have hHeld := hHeld2
        clear hHeld2
        (try simp only [Act.put, List.setIfInBounds_toArray, List.set_cons_zero, List.set_cons_succ])
        replace I2 : Hid (IsI Va4 (.slice (some ⟨Ua0.heap.size, 0, none⟩) 1 1) [kd]) := I2.out.below hb
        replace O3 : Hid (IsB Va4 v3 ([] ++ putsL [kd])) := O3.out.below hb
        replace I6 : Hid (IsS Va4 (.slice (some ⟨Va2.heap.size, 0, none⟩) 1 1) [(ac, ar)]) := I6.out.below hb
        have O7 : Hid (OwnB w.heap.size Va4 v7 (headA ac ar kd)) := by
          have h0 := ho.cut hsz
          rw [putsL_two] at h0
          simp only [putsL, List.flatMap_cons, List.flatMap_nil, List.append_nil, List.nil_append] at h0
          exact h0
        clear ho hb
        refine wpAnyH_take (i := 8) (oi := ⟨some 5, _, _, _, _, _⟩) (v := ?va_2_3_6_7x8) rfl (by kernel_rfl) (by kernel_rfl) (by kernel_rfl) (fun _ _ _ h => h) (Or.inl ⟨by rfl, ?hya_2_3_6_7x8⟩) hHeld ?resta_2_3_6_7x8
        case hya_2_3_6_7x8 => (intro w hSw; (try dsimp only at hSw); have hc0 := hSw.1 0 _ rfl; have hc1 := hSw.1 1 _ rfl; have hc2 := hSw.1 2 _ rfl; have hc3 := hSw.1 3 _ rfl; have hc4 := hSw.1 4 _ rfl; have hc5 := hSw.1 5 _ rfl; have hc6 := hSw.1 6 _ rfl; have hc7 := hSw.1 7 _ rfl; have hc8 := hSw.1 8 _ rfl; have hc9 := hSw.1 9 _ rfl; have hc10 := hSw.1 10 _ rfl; have hc11 := hSw.1 11 _ rfl; have hc12 := hSw.1 12 _ rfl; go_simp; try with_reducible rfl)
        simp only [Act.put, List.setIfInBounds_toArray, List.set_cons_zero, List.set_cons_succ]
        refine wpAnyH_done (by kernel_rfl) ?_ _
        have KZ := hHeld
        have OZ := O7
        clear hHeld
        go_wp2
        go_meet
        case rel => exact ⟨OZ.out, KZ⟩
      · go_simp
        refine hK.out _ _ (hHeld.step ((Below.refl _ _).alloc (Nat.le_refl _) _)) (fun hHeld2 => ?_)
        clear hK K hHeld
        have hHeld := hHeld2
        clear hHeld2
        (try simp only [Act.put, List.setIfInBounds_toArray, List.set_cons_zero, List.set_cons_succ])
        obtain ⟨Ua5, eW⟩ : ∃ X, X = Ua1.alloc (.cells #[.int .i64 ac, .int .i64 ar] 55) := ⟨_, rfl⟩
        have BW : Hid (Below Ua1.heap.size Ua1 Ua5) := by rw [eW]; exact (Below.refl _ _).alloc (Nat.le_refl _) _
        replace I2 : Hid (IsI Ua5 (.slice (some ⟨Ua0.heap.size, 0, none⟩) 1 1) [kd]) := I2.out.below BW.out
        have I6 : Hid (IsS Ua5 (.slice (some ⟨Ua1.heap.size, 0, none⟩) 1 1) [(ac, ar)]) := by rw [eW]; exact IsS.one Ua1 ac ar
        rw [← eW] at hHeld ⊢
        clear eW BW
        refine wpAnyH_ready (rs := [3]) (by kernel_rfl) (by simp) ?_
        refine AllReadyH.cons (o := ⟨some 14, _, _, _, _, _⟩) rfl (fun K hK => ?_) AllReadyH.nil
        go_simp
        refine (put_any _ _ [] [kd] _ (IsB.non 0) I2.out (fun x hx => by simp at hx; subst hx; omega) (by simp [putsL]; have : (putI kd).length ≤ 9 := z5; unfold putI at this; omega)).mono ?_
        rintro e Va6 ⟨v3, rfl, ho, hb⟩
        (try go_wp2_with fail)
        refine hK.out _ _ (hHeld.step hb) (fun hHeld2 => ?_)
        clear hK K hHeld
        have hHeld := hHeld2
        clear hHeld2
        (try simp only [Act.put, List.setIfInBounds_toArray, List.set_cons_zero, List.set_cons_succ])
        replace I2 : Hid (IsI Va6 (.slice (some ⟨Ua0.heap.size, 0, none⟩) 1 1) [kd]) := I2.out.below hb
        replace I6 : Hid (IsS Va6 (.slice (some ⟨Ua1.heap.size, 0, none⟩) 1 1) [(ac, ar)]) := I6.out.below hb
        have O3 : Hid (IsB Va6 v3 ([] ++ putsL [kd])) := ho.isB (by simp [putsL]; have : (putI kd).length ≤ 9 := z5; unfold putI at this; omega)
        clear ho hb
        refine wpAnyH_ready (rs := [7]) (by kernel_rfl) (by simp) ?_
        refine AllReadyH.cons (o := ⟨some 18, _, _, _, _, _⟩) rfl (fun K hK => ?_) AllReadyH.nil
        go_simp
        have hsz := hHeld.2.2.size
        refine (putStamps_any _ _ _ [(ac, ar)] _ O3.out I6.out (fun x hx => by simp at hx; subst hx; exact HAL.out) (by rw [putsL_two, List.length_append]; have : (putI kd).length ≤ 9 := z5; simp [putsL]; unfold putI at this; omega)).mono ?_
        rintro e Va7 ⟨v7, rfl, ho, hb⟩
        (try go_wp2_with fail)
        refine hK.out _ _ (hHeld.step hb) (fun hHeld2 => ?_)
        clear hK K hHeld
        have hHeld := hHeld2
        clear hHeld2
        (try simp only [Act.put, List.setIfInBounds_toArray, List.set_cons_zero, List.set_cons_succ])
        replace I2 : Hid (IsI Va7 (.slice (some ⟨Ua0.heap.size, 0, none⟩) 1 1) [kd]) := I2.out.below hb
        replace I6 : Hid (IsS Va7 (.slice (some ⟨Ua1.heap.size, 0, none⟩) 1 1) [(ac, ar)]) := I6.out.below hb
        replace O3 : Hid (IsB Va7 v3 ([] ++ putsL [kd])) := O3.out.below hb
        have O7 : Hid (OwnB w.heap.size Va7 v7 (headA ac ar kd)) := by
          have h0 := ho.cut hsz
          rw [putsL_two] at h0
          simp only [putsL, List.flatMap_cons, List.flatMap_nil, List.append_nil, List.nil_append] at h0
          exact h0
        clear ho hb
        refine wpAnyH_take (i := 8) (oi := ⟨some 5, _, _, _, _, _⟩) (v := ?va_2_6_3_7x8) rfl (by kernel_rfl) (by kernel_rfl) (by kernel_rfl) (fun _ _ _ h => h) (Or.inl ⟨by rfl, ?hya_2_6_3_7x8⟩) hHeld ?resta_2_6_3_7x8
        case hya_2_6_3_7x8 => (intro w hSw; (try dsimp only at hSw); have hc0 := hSw.1 0 _ rfl; have hc1 := hSw.1 1 _ rfl; have hc2 := hSw.1 2 _ rfl; have hc3 := hSw.1 3 _ rfl; have hc4 := hSw.1 4 _ rfl; have hc5 := hSw.1 5 _ rfl; have hc6 := hSw.1 6 _ rfl; have hc7 := hSw.1 7 _ rfl; have hc8 := hSw.1 8 _ rfl; have hc9 := hSw.1 9 _ rfl; have hc10 := hSw.1 10 _ rfl; have hc11 := hSw.1 11 _ rfl; have hc12 := hSw.1 12 _ rfl; go_simp; try with_reducible rfl)
        simp only [Act.put, List.setIfInBounds_toArray, List.set_cons_zero, List.set_cons_succ]
        refine wpAnyH_done (by kernel_rfl) ?_ _
        have KZ := hHeld
        have OZ := O7
        clear hHeld
        go_wp2
        go_meet
        case rel => exact ⟨OZ.out, KZ⟩
    · go_simp
      refine hK.out _ _ (hHeld.step ((Below.refl _ _).alloc (Nat.le_refl _) _)) (fun hHeld2 => ?_)
      clear hK K hHeld
      have hHeld := hHeld2
      clear hHeld2
      (try simp only [Act.put, List.setIfInBounds_toArray, List.set_cons_zero, List.set_cons_succ])
      obtain ⟨Ua8, eW⟩ : ∃ X, X = Ua0.alloc (.cells #[.int .i64 ac, .int .i64 ar] 55) := ⟨_, rfl⟩
      have BW : Hid (Below Ua0.heap.size Ua0 Ua8) := by rw [eW]; exact (Below.refl _ _).alloc (Nat.le_refl _) _
      have I6 : Hid (IsS Ua8 (.slice (some ⟨Ua0.heap.size, 0, none⟩) 1 1) [(ac, ar)]) := by rw [eW]; exact IsS.one Ua0 ac ar
      rw [← eW] at hHeld ⊢
      clear eW BW
      refine wpAnyH_ready (rs := [2]) (by kernel_rfl) (by simp) ?_
      refine AllReadyH.cons (o := ⟨some 13, _, _, _, _, _⟩) rfl (fun K hK => ?_) AllReadyH.nil
      go_simp
      refine hK.out _ _ (hHeld.step ((Below.refl _ _).alloc (Nat.le_refl _) _)) (fun hHeld2 => ?_)
      clear hK K hHeld
      have hHeld := hHeld2
      clear hHeld2
      (try simp only [Act.put, List.setIfInBounds_toArray, List.set_cons_zero, List.set_cons_succ])
      obtain ⟨Ua9, eW⟩ : ∃ X, X = Ua8.alloc (.cells #[.int .i64 kd] 3) := ⟨_, rfl⟩
      have BW : Hid (Below Ua8.heap.size Ua8 Ua9) := by rw [eW]; exact (Below.refl _ _).alloc (Nat.le_refl _) _
      replace I6 : Hid (IsS Ua9 (.slice (some ⟨Ua0.heap.size, 0, none⟩) 1 1) [(ac, ar)]) := I6.out.below BW.out
      have I2 : Hid (IsI Ua9 (.slice (some ⟨Ua8.heap.size, 0, none⟩) 1 1) [kd]) := by rw [eW]; exact IsI.one Ua8 kd
      rw [← eW] at hHeld ⊢
      clear eW BW
      refine wpAnyH_ready (rs := [3]) (by kernel_rfl) (by simp) ?_
      refine AllReadyH.cons (o := ⟨some 14, _, _, _, _, _⟩) rfl (fun K hK => ?_) AllReadyH.nil
      go_simp
      refine (put_any _ _ [] [kd] _ (IsB.non 0) I2.out (fun x hx => by simp at hx; subst hx; omega) (by simp [putsL]; have : (putI kd).length ≤ 9 := z5; unfold putI at this; omega)).mono ?_
      rintro e Va10 ⟨v3, rfl, ho, hb⟩
      (try go_wp2_with fail)
      refine hK.out _ _ (hHeld.step hb) (fun hHeld2 => ?_)
      clear hK K hHeld
      have hHeld := hHeld2
      clear hHeld2
      (try simp only [Act.put, List.setIfInBounds_toArray, List.set_cons_zero, List.set_cons_succ])
      replace I6 : Hid (IsS Va10 (.slice (some ⟨Ua0.heap.size, 0, none⟩) 1 1) [(ac, ar)]) := I6.out.below hb
      replace I2 : Hid (IsI Va10 (.slice (some ⟨Ua8.heap.size, 0, none⟩) 1 1) [kd]) := I2.out.below hb
      have O3 : Hid (IsB Va10 v3 ([] ++ putsL [kd])) := ho.isB (by simp [putsL]; have : (putI kd).length ≤ 9 := z5; unfold putI at this; omega)
      clear ho hb
      refine wpAnyH_ready (rs := [7]) (by kernel_rfl) (by simp) ?_
      refine AllReadyH.cons (o := ⟨some 18, _, _, _, _, _⟩) rfl (fun K hK => ?_) AllReadyH.nil
      go_simp
      have hsz := hHeld.2.2.size
      refine (putStamps_any _ _ _ [(ac, ar)] _ O3.out I6.out (fun x hx => by simp at hx; subst hx; exact HAL.out) (by rw [putsL_two, List.length_append]; have : (putI kd).length ≤ 9 := z5; simp [putsL]; unfold putI at this; omega)).mono ?_
      rintro e Va11 ⟨v7, rfl, ho, hb⟩
      (try go_wp2_with fail)
      refine hK.out _ _ (hHeld.step hb) (fun hHeld2 => ?_)
      clear hK K hHeld
      have hHeld := hHeld2
      clear hHeld2
      (try simp only [Act.put, List.setIfInBounds_toArray, List.set_cons_zero, List.set_cons_succ])
      replace I6 : Hid (IsS Va11 (.slice (some ⟨Ua0.heap.size, 0, none⟩) 1 1) [(ac, ar)]) := I6.out.below hb
      replace I2 : Hid (IsI Va11 (.slice (some ⟨Ua8.heap.size, 0, none⟩) 1 1) [kd]) := I2.out.below hb
      replace O3 : Hid (IsB Va11 v3 ([] ++ putsL [kd])) := O3.out.below hb
      have O7 : Hid (OwnB w.heap.size Va11 v7 (headA ac ar kd)) := by
        have h0 := ho.cut hsz
        rw [putsL_two] at h0
        simp only [putsL, List.flatMap_cons, List.flatMap_nil, List.append_nil, List.nil_append] at h0
        exact h0
      clear ho hb
      refine wpAnyH_take (i := 8) (oi := ⟨some 5, _, _, _, _, _⟩) (v := ?va_6_2_3_7x8) rfl (by kernel_rfl) (by kernel_rfl) (by kernel_rfl) (fun _ _ _ h => h) (Or.inl ⟨by rfl, ?hya_6_2_3_7x8⟩) hHeld ?resta_6_2_3_7x8
      case hya_6_2_3_7x8 => (intro w hSw; (try dsimp only at hSw); have hc0 := hSw.1 0 _ rfl; have hc1 := hSw.1 1 _ rfl; have hc2 := hSw.1 2 _ rfl; have hc3 := hSw.1 3 _ rfl; have hc4 := hSw.1 4 _ rfl; have hc5 := hSw.1 5 _ rfl; have hc6 := hSw.1 6 _ rfl; have hc7 := hSw.1 7 _ rfl; have hc8 := hSw.1 8 _ rfl; have hc9 := hSw.1 9 _ rfl; have hc10 := hSw.1 10 _ rfl; have hc11 := hSw.1 11 _ rfl; have hc12 := hSw.1 12 _ rfl; go_simp; try with_reducible rfl)
      simp only [Act.put, List.setIfInBounds_toArray, List.set_cons_zero, List.set_cons_succ]
      refine wpAnyH_done (by kernel_rfl) ?_ _
      have KZ := hHeld
      have OZ := O7
      clear hHeld
      go_wp2
      go_meet
      case rel => exact ⟨OZ.out, KZ⟩
  case rest =>
    obtain ⟨OV, KV⟩ := hcut
    have O5 : Hid (OwnB w.heap.size wc u5 (headA ac ar kd)) := OV
    clear OV K1
    have hk5 : (headA ac ar kd).length ≤ 27 := by unfold headA; rw [List.length_append]; omega
    obtain ⟨k_0, k_1, k_2, k_3, k_4, k_5, k_6, k_7, k_8, k_9, k_10, k_11, k_12⟩ := KV.cells13
    go_upto_region 5 with fail
    clear k_0 k_1 k_2 k_3 k_4 k_5 k_6 k_7 k_8 k_9 k_10 k_11 k_12
    have HE5 : Hid ((headA ac ar kd ++ putsL [sq, (ds.length : Int)]) ++ putsL ds = headB ac ar sq kd ds) := by show _ = _; unfold headB listP; rw [putsL_nums ds]; simp [putsL, putI]
    have hB5 : (headB ac ar sq kd ds).length ≤ 700 := by unfold headB; simp only [List.length_append]; omega
    have HL6 : Hid ((headA ac ar kd ++ putsL [sq, (ds.length : Int)]).length + (putsL ds).length ≤ 140737488355328) := by show _ ≤ _; rw [← List.length_append, HE5.out]; omega
    have HL5 : Hid ((headA ac ar kd).length + (putsL [sq, (ds.length : Int)]).length ≤ 140737488355328) := by have h0 := HL6.out; rw [List.length_append] at h0; show _ ≤ _; omega
    go_cut [5] from 6 (fun v W => OwnB w.heap.size W v (headB ac ar sq kd ds) ∧ KeptC w w.heap.size [.int .i64 ac, .int .i64 ar, .int .i64 sq, .slice a1 ds.length c1, .int .i64 kd, .int .i64 nc, .int .i64 nr, .int .i64 pc, .int .i64 pr, .int .i64 fc, .int .i64 fr, .string nm, .string vl] W)
    case first =>
      have IB : Hid (IsB wc u5 (headA ac ar kd)) := O5.out.isB (by omega)
      refine wp_region_held_drew (S := fun W' => KeptC w w.heap.size [.int .i64 ac, .int .i64 ar, .int .i64 sq, .slice a1 ds.length c1, .int .i64 kd, .int .i64 nc, .int .i64 nr, .int .i64 pc, .int .i64 pr, .int .i64 fc, .int .i64 fr, .string nm, .string vl] W') (by kernel_rfl) KV.drew (fun hHeld => ?_)
      obtain ⟨Ub0, eW⟩ : ∃ X, X = wc.drew := ⟨_, rfl⟩
      have IB : Hid (IsB Ub0 u5 (headA ac ar kd)) := by rw [eW]; exact IB.out.below ((Below.refl _ _).drew)
      rw [← eW] at hHeld ⊢
      clear eW
      refine wpAnyH_take (i := 0) (oi := ⟨some 19, _, _, _, _, _⟩) (v := ?vbx0) rfl (by kernel_rfl) (by kernel_rfl) (by kernel_rfl) (fun _ _ _ h => h) (Or.inl ⟨by rfl, ?hybx0⟩) hHeld ?restbx0
      case hybx0 => (intro w hSw; (try dsimp only at hSw); have hc0 := hSw.1 0 _ rfl; have hc1 := hSw.1 1 _ rfl; have hc2 := hSw.1 2 _ rfl; have hc3 := hSw.1 3 _ rfl; have hc4 := hSw.1 4 _ rfl; have hc5 := hSw.1 5 _ rfl; have hc6 := hSw.1 6 _ rfl; have hc7 := hSw.1 7 _ rfl; have hc8 := hSw.1 8 _ rfl; have hc9 := hSw.1 9 _ rfl; have hc10 := hSw.1 10 _ rfl; have hc11 := hSw.1 11 _ rfl; have hc12 := hSw.1 12 _ rfl; go_simp; try with_reducible rfl)
      simp only [Act.put, List.setIfInBounds_toArray, List.set_cons_zero, List.set_cons_succ]
      refine wpAnyH_take (i := 1) (oi := ⟨some 20, _, _, _, _, _⟩) (v := ?vbx1) rfl (by kernel_rfl) (by kernel_rfl) (by kernel_rfl) (fun _ _ _ h => h) (Or.inl ⟨by rfl, ?hybx1⟩) hHeld ?restbx1
      case hybx1 => (intro w hSw; (try dsimp only at hSw); have hc0 := hSw.1 0 _ rfl; have hc1 := hSw.1 1 _ rfl; have hc2 := hSw.1 2 _ rfl; have hc3 := hSw.1 3 _ rfl; have hc4 := hSw.1 4 _ rfl; have hc5 := hSw.1 5 _ rfl; have hc6 := hSw.1 6 _ rfl; have hc7 := hSw.1 7 _ rfl; have hc8 := hSw.1 8 _ rfl; have hc9 := hSw.1 9 _ rfl; have hc10 := hSw.1 10 _ rfl; have hc11 := hSw.1 11 _ rfl; have hc12 := hSw.1 12 _ rfl; go_simp; try with_reducible rfl)
      simp only [Act.put, List.setIfInBounds_toArray, List.set_cons_zero, List.set_cons_succ]
      refine wpAnyH_take (i := 2) (oi := ⟨some 21, _, _, _, _, _⟩) (v := ?vbx2) rfl (by kernel_rfl) (by kernel_rfl) (by kernel_rfl) (fun _ _ _ h => h) (Or.inl ⟨by rfl, ?hybx2⟩) hHeld ?restbx2
      case hybx2 => (intro w hSw; (try dsimp only at hSw); have hc0 := hSw.1 0 _ rfl; have hc1 := hSw.1 1 _ rfl; have hc2 := hSw.1 2 _ rfl; have hc3 := hSw.1 3 _ rfl; have hc4 := hSw.1 4 _ rfl; have hc5 := hSw.1 5 _ rfl; have hc6 := hSw.1 6 _ rfl; have hc7 := hSw.1 7 _ rfl; have hc8 := hSw.1 8 _ rfl; have hc9 := hSw.1 9 _ rfl; have hc10 := hSw.1 10 _ rfl; have hc11 := hSw.1 11 _ rfl; have hc12 := hSw.1 12 _ rfl; go_simp; try with_reducible rfl)
      simp only [Act.put, List.setIfInBounds_toArray, List.set_cons_zero, List.set_cons_succ]
      refine wpAnyH_take (i := 3) (oi := ⟨some 22, _, _, _, _, _⟩) (v := ?vbx3) rfl (by kernel_rfl) (by kernel_rfl) (by kernel_rfl) (fun _ _ _ h => h) (Or.inl ⟨by rfl, ?hybx3⟩) hHeld ?restbx3
      case hybx3 => (intro w hSw; (try dsimp only at hSw); have hc0 := hSw.1 0 _ rfl; have hc1 := hSw.1 1 _ rfl; have hc2 := hSw.1 2 _ rfl; have hc3 := hSw.1 3 _ rfl; have hc4 := hSw.1 4 _ rfl; have hc5 := hSw.1 5 _ rfl; have hc6 := hSw.1 6 _ rfl; have hc7 := hSw.1 7 _ rfl; have hc8 := hSw.1 8 _ rfl; have hc9 := hSw.1 9 _ rfl; have hc10 := hSw.1 10 _ rfl; have hc11 := hSw.1 11 _ rfl; have hc12 := hSw.1 12 _ rfl; go_simp; try with_reducible rfl)
      simp only [Act.put, List.setIfInBounds_toArray, List.set_cons_zero, List.set_cons_succ]
      refine wpAnyH_take (i := 4) (oi := ⟨some 23, _, _, _, _, _⟩) (v := ?vbx4) rfl (by kernel_rfl) (by kernel_rfl) (by kernel_rfl) (fun _ _ _ h => h) (Or.inl ⟨by rfl, ?hybx4⟩) hHeld ?restbx4
      case hybx4 => (intro w hSw; (try dsimp only at hSw); have hc0 := hSw.1 0 _ rfl; have hc1 := hSw.1 1 _ rfl; have hc2 := hSw.1 2 _ rfl; have hc3 := hSw.1 3 _ rfl; have hc4 := hSw.1 4 _ rfl; have hc5 := hSw.1 5 _ rfl; have hc6 := hSw.1 6 _ rfl; have hc7 := hSw.1 7 _ rfl; have hc8 := hSw.1 8 _ rfl; have hc9 := hSw.1 9 _ rfl; have hc10 := hSw.1 10 _ rfl; have hc11 := hSw.1 11 _ rfl; have hc12 := hSw.1 12 _ rfl; go_simp; try with_reducible rfl)
      simp only [Act.put, List.setIfInBounds_toArray, List.set_cons_zero, List.set_cons_succ]
      refine wpAnyH_take (i := 5) (oi := ⟨some 24, _, _, _, _, _⟩) (v := ?vbx5) rfl (by kernel_rfl) (by kernel_rfl) (by kernel_rfl) (fun _ _ _ h => h) (Or.inl ⟨by rfl, ?hybx5⟩) hHeld ?restbx5
      case hybx5 => (intro w hSw; (try dsimp only at hSw); have hc0 := hSw.1 0 _ rfl; have hc1 := hSw.1 1 _ rfl; have hc2 := hSw.1 2 _ rfl; have hc3 := hSw.1 3 _ rfl; have hc4 := hSw.1 4 _ rfl; have hc5 := hSw.1 5 _ rfl; have hc6 := hSw.1 6 _ rfl; have hc7 := hSw.1 7 _ rfl; have hc8 := hSw.1 8 _ rfl; have hc9 := hSw.1 9 _ rfl; have hc10 := hSw.1 10 _ rfl; have hc11 := hSw.1 11 _ rfl; have hc12 := hSw.1 12 _ rfl; go_simp; try with_reducible rfl)
      simp only [Act.put, List.setIfInBounds_toArray, List.set_cons_zero, List.set_cons_succ]
      refine wpAnyH_take (i := 8) (oi := ⟨some 27, _, _, _, _, _⟩) (v := ?vbx8) rfl (by kernel_rfl) (by kernel_rfl) (by kernel_rfl) (fun _ _ _ h => h) (Or.inl ⟨by rfl, ?hybx8⟩) hHeld ?restbx8
      case hybx8 => (intro w hSw; (try dsimp only at hSw); have hc0 := hSw.1 0 _ rfl; have hc1 := hSw.1 1 _ rfl; have hc2 := hSw.1 2 _ rfl; have hc3 := hSw.1 3 _ rfl; have hc4 := hSw.1 4 _ rfl; have hc5 := hSw.1 5 _ rfl; have hc6 := hSw.1 6 _ rfl; have hc7 := hSw.1 7 _ rfl; have hc8 := hSw.1 8 _ rfl; have hc9 := hSw.1 9 _ rfl; have hc10 := hSw.1 10 _ rfl; have hc11 := hSw.1 11 _ rfl; have hc12 := hSw.1 12 _ rfl; go_simp; try with_reducible rfl)
      simp only [Act.put, List.setIfInBounds_toArray, List.set_cons_zero, List.set_cons_succ]
      refine wpAnyH_take (i := 9) (oi := ⟨some 28, _, _, _, _, _⟩) (v := ?vbx9) rfl (by kernel_rfl) (by kernel_rfl) (by kernel_rfl) (fun _ _ _ h => h) (Or.inl ⟨by rfl, ?hybx9⟩) hHeld ?restbx9
      case hybx9 => (intro w hSw; (try dsimp only at hSw); have hc0 := hSw.1 0 _ rfl; have hc1 := hSw.1 1 _ rfl; have hc2 := hSw.1 2 _ rfl; have hc3 := hSw.1 3 _ rfl; have hc4 := hSw.1 4 _ rfl; have hc5 := hSw.1 5 _ rfl; have hc6 := hSw.1 6 _ rfl; have hc7 := hSw.1 7 _ rfl; have hc8 := hSw.1 8 _ rfl; have hc9 := hSw.1 9 _ rfl; have hc10 := hSw.1 10 _ rfl; have hc11 := hSw.1 11 _ rfl; have hc12 := hSw.1 12 _ rfl; go_simp; try with_reducible rfl)
      simp only [Act.put, List.setIfInBounds_toArray, List.set_cons_zero, List.set_cons_succ]
      refine wpAnyH_ready (rs := [6]) (by kernel_rfl) (by simp) ?_
      refine AllReadyH.cons (o := ⟨some 25, _, _, _, _, _⟩) rfl (fun K hK => ?_) AllReadyH.nil
      go_simp
      refine hK.out _ _ (hHeld.step ((Below.refl _ _).alloc (Nat.le_refl _) _)) (fun hHeld2 => ?_)
      clear hK K hHeld
      have hHeld := hHeld2
      clear hHeld2
      (try simp only [Act.put, List.setIfInBounds_toArray, List.set_cons_zero, List.set_cons_succ])
      obtain ⟨Ub1, eW⟩ : ∃ X, X = Ub0.alloc (.cells #[.int .i64 sq, .int .i64 (ds.length : Int)] 3) := ⟨_, rfl⟩
      have BW : Hid (Below Ub0.heap.size Ub0 Ub1) := by rw [eW]; exact (Below.refl _ _).alloc (Nat.le_refl _) _
      replace IB : Hid (IsB Ub1 u5 (headA ac ar kd)) := IB.out.below BW.out
      have I6 : Hid (IsI Ub1 (.slice (some ⟨Ub0.heap.size, 0, none⟩) 2 2) [sq, (ds.length : Int)]) := by rw [eW]; exact IsI.two Ub0 sq _
      rw [← eW] at hHeld ⊢
      clear eW BW
      refine wpAnyH_ready (rs := [7]) (by kernel_rfl) (by simp) ?_
      refine AllReadyH.cons (o := ⟨some 26, _, _, _, _, _⟩) rfl (fun K hK => ?_) AllReadyH.nil
      go_simp
      refine (put_any _ _ _ [sq, (ds.length : Int)] _ IB.out I6.out (fun x hx => by simp at hx; rcases hx with rfl | rfl <;> omega) HL5.out).mono ?_
      rintro e Vb2 ⟨v7, rfl, ho, hb⟩
      (try go_wp2_with fail)
      refine hK.out _ _ (hHeld.step hb) (fun hHeld2 => ?_)
      clear hK K hHeld
      have hHeld := hHeld2
      clear hHeld2
      (try simp only [Act.put, List.setIfInBounds_toArray, List.set_cons_zero, List.set_cons_succ])
      replace IB : Hid (IsB Vb2 u5 (headA ac ar kd)) := IB.out.below hb
      replace I6 : Hid (IsI Vb2 (.slice (some ⟨Ub0.heap.size, 0, none⟩) 2 2) [sq, (ds.length : Int)]) := I6.out.below hb
      have O7 : Hid (IsB Vb2 v7 (headA ac ar kd ++ putsL [sq, (ds.length : Int)])) := ho.isB (by have := HL5.out; rw [List.length_append]; omega)
      clear ho hb
      refine wpAnyH_ready (rs := [10]) (by kernel_rfl) (by simp) ?_
      refine AllReadyH.cons (o := ⟨some 29, _, _, _, _, _⟩) rfl (fun K hK => ?_) AllReadyH.nil
      go_simp
      have hsz := hHeld.2.2.size
      refine (put_any _ _ _ ds _ O7.out (H1.out.below hHeld.2.2) HDL.out HL6.out).mono ?_
      rintro e Vb3 ⟨v10, rfl, ho, hb⟩
      (try go_wp2_with fail)
      refine hK.out _ _ (hHeld.step hb) (fun hHeld2 => ?_)
      clear hK K hHeld
      have hHeld := hHeld2
      clear hHeld2
      (try simp only [Act.put, List.setIfInBounds_toArray, List.set_cons_zero, List.set_cons_succ])
      replace IB : Hid (IsB Vb3 u5 (headA ac ar kd)) := IB.out.below hb
      replace I6 : Hid (IsI Vb3 (.slice (some ⟨Ub0.heap.size, 0, none⟩) 2 2) [sq, (ds.length : Int)]) := I6.out.below hb
      replace O7 : Hid (IsB Vb3 v7 (headA ac ar kd ++ putsL [sq, (ds.length : Int)])) := O7.out.below hb
      have O10 : Hid (OwnB w.heap.size Vb3 v10 (headB ac ar sq kd ds)) := by
        have h0 := ho.cut hsz
        rw [HE5.out] at h0
        exact h0
      clear ho hb
      refine wpAnyH_take (i := 11) (oi := ⟨some 5, _, _, _, _, _⟩) (v := ?vb_6_7_10x11) rfl (by kernel_rfl) (by kernel_rfl) (by kernel_rfl) (fun _ _ _ h => h) (Or.inl ⟨by rfl, ?hyb_6_7_10x11⟩) hHeld ?restb_6_7_10x11
      case hyb_6_7_10x11 => (intro w hSw; (try dsimp only at hSw); have hc0 := hSw.1 0 _ rfl; have hc1 := hSw.1 1 _ rfl; have hc2 := hSw.1 2 _ rfl; have hc3 := hSw.1 3 _ rfl; have hc4 := hSw.1 4 _ rfl; have hc5 := hSw.1 5 _ rfl; have hc6 := hSw.1 6 _ rfl; have hc7 := hSw.1 7 _ rfl; have hc8 := hSw.1 8 _ rfl; have hc9 := hSw.1 9 _ rfl; have hc10 := hSw.1 10 _ rfl; have hc11 := hSw.1 11 _ rfl; have hc12 := hSw.1 12 _ rfl; go_simp; try with_reducible rfl)
      simp only [Act.put, List.setIfInBounds_toArray, List.set_cons_zero, List.set_cons_succ]
      refine wpAnyH_done (by kernel_rfl) ?_ _
      have KZ := hHeld
      have OZ := O10
      clear hHeld
      go_wp2
      go_meet
      case rel => exact ⟨OZ.out, KZ⟩
    case rest =>
      obtain ⟨OV, KV2⟩ := hcut
      have O6 : Hid (OwnB w.heap.size wc u5 (headB ac ar sq kd ds)) := OV
      clear OV KV O5 HE5 HL6 HL5 hk5
      have hlen := bytesCh_len HC.out
      have hszc := KV2.2.2.size
      rcases hkd with rfl | rfl | rfl | rfl | rfl
      · skip
        have HDS : Hid (∀ x ∈ [(pc, pr), (fc, fr)], x.1 < 9223372036854775808 ∧ x.2 < 9223372036854775808) := fun x hx => by
          simp only [List.mem_cons, List.not_mem_nil, or_false] at hx
          rcases hx with rfl | rfl
          · exact HPL.out
          · exact HFL.out
        have HEK : Hid ((headB ac ar sq 1 ds ++ putsL (flatS [(pc, pr), (fc, fr)])) ++ textsB [nm] = bytesCh ⟨ac, ar, sq, ds, 1, nc, nr, pc, pr, fc, fr, nm, vl⟩) := by show _ = _; rw [bytes_head]; simp [restP, putsL, flatS, stampP, putI, textsB, textB, textP]
        have HLT : Hid ((headB ac ar sq 1 ds ++ putsL (flatS [(pc, pr), (fc, fr)])).length + (textsB [nm]).length ≤ 140737488355328) := by show _ ≤ _; rw [← List.length_append, HEK.out]; omega
        have HLS : Hid ((headB ac ar sq 1 ds).length + (putsL (flatS [(pc, pr), (fc, fr)])).length ≤ 140737488355328) := by have h0 := HLT.out; rw [List.length_append] at h0; show _ ≤ _; omega
        obtain ⟨k_0, k_1, k_2, k_3, k_4, k_5, k_6, k_7, k_8, k_9, k_10, k_11, k_12⟩ := KV2.cells13
        go_upto_region 8 with fail
        clear k_0 k_1 k_2 k_3 k_4 k_5 k_6 k_7 k_8 k_9 k_10 k_11 k_12
        have IB : Hid (IsB wc u5 (headB ac ar sq 1 ds)) := O6.out.isB (by omega)
        refine wp_region_held_drew (S := fun W' => KeptC w w.heap.size [.int .i64 ac, .int .i64 ar, .int .i64 sq, .slice a1 ds.length c1, .int .i64 1, .int .i64 nc, .int .i64 nr, .int .i64 pc, .int .i64 pr, .int .i64 fc, .int .i64 fr, .string nm, .string vl] W') (by kernel_rfl) KV2.drew (fun hHeld => ?_)
        obtain ⟨Uk10, eW⟩ : ∃ X, X = wc.drew := ⟨_, rfl⟩
        have IB : Hid (IsB Uk10 u5 (headB ac ar sq 1 ds)) := by rw [eW]; exact IB.out.below ((Below.refl _ _).drew)
        rw [← eW] at hHeld ⊢
        clear eW
        refine wpAnyH_take (i := 0) (oi := ⟨some 34, _, _, _, _, _⟩) (v := ?vk1x0) rfl (by kernel_rfl) (by kernel_rfl) (by kernel_rfl) (fun _ _ _ h => h) (Or.inl ⟨by rfl, ?hyk1x0⟩) hHeld ?restk1x0
        case hyk1x0 => (intro w hSw; (try dsimp only at hSw); have hc0 := hSw.1 0 _ rfl; have hc1 := hSw.1 1 _ rfl; have hc2 := hSw.1 2 _ rfl; have hc3 := hSw.1 3 _ rfl; have hc4 := hSw.1 4 _ rfl; have hc5 := hSw.1 5 _ rfl; have hc6 := hSw.1 6 _ rfl; have hc7 := hSw.1 7 _ rfl; have hc8 := hSw.1 8 _ rfl; have hc9 := hSw.1 9 _ rfl; have hc10 := hSw.1 10 _ rfl; have hc11 := hSw.1 11 _ rfl; have hc12 := hSw.1 12 _ rfl; go_simp; try with_reducible rfl)
        simp only [Act.put, List.setIfInBounds_toArray, List.set_cons_zero, List.set_cons_succ]
        refine wpAnyH_take (i := 1) (oi := ⟨some 35, _, _, _, _, _⟩) (v := ?vk1x1) rfl (by kernel_rfl) (by kernel_rfl) (by kernel_rfl) (fun _ _ _ h => h) (Or.inl ⟨by rfl, ?hyk1x1⟩) hHeld ?restk1x1
        case hyk1x1 => (intro w hSw; (try dsimp only at hSw); have hc0 := hSw.1 0 _ rfl; have hc1 := hSw.1 1 _ rfl; have hc2 := hSw.1 2 _ rfl; have hc3 := hSw.1 3 _ rfl; have hc4 := hSw.1 4 _ rfl; have hc5 := hSw.1 5 _ rfl; have hc6 := hSw.1 6 _ rfl; have hc7 := hSw.1 7 _ rfl; have hc8 := hSw.1 8 _ rfl; have hc9 := hSw.1 9 _ rfl; have hc10 := hSw.1 10 _ rfl; have hc11 := hSw.1 11 _ rfl; have hc12 := hSw.1 12 _ rfl; go_simp; try with_reducible rfl)
        simp only [Act.put, List.setIfInBounds_toArray, List.set_cons_zero, List.set_cons_succ]
        refine wpAnyH_take (i := 2) (oi := ⟨some 36, _, _, _, _, _⟩) (v := ?vk1x2) rfl (by kernel_rfl) (by kernel_rfl) (by kernel_rfl) (fun _ _ _ h => h) (Or.inl ⟨by rfl, ?hyk1x2⟩) hHeld ?restk1x2
        case hyk1x2 => (intro w hSw; (try dsimp only at hSw); have hc0 := hSw.1 0 _ rfl; have hc1 := hSw.1 1 _ rfl; have hc2 := hSw.1 2 _ rfl; have hc3 := hSw.1 3 _ rfl; have hc4 := hSw.1 4 _ rfl; have hc5 := hSw.1 5 _ rfl; have hc6 := hSw.1 6 _ rfl; have hc7 := hSw.1 7 _ rfl; have hc8 := hSw.1 8 _ rfl; have hc9 := hSw.1 9 _ rfl; have hc10 := hSw.1 10 _ rfl; have hc11 := hSw.1 11 _ rfl; have hc12 := hSw.1 12 _ rfl; go_simp; try with_reducible rfl)
        simp only [Act.put, List.setIfInBounds_toArray, List.set_cons_zero, List.set_cons_succ]
        refine wpAnyH_take (i := 3) (oi := ⟨some 37, _, _, _, _, _⟩) (v := ?vk1x3) rfl (by kernel_rfl) (by kernel_rfl) (by kernel_rfl) (fun _ _ _ h => h) (Or.inl ⟨by rfl, ?hyk1x3⟩) hHeld ?restk1x3
        case hyk1x3 => (intro w hSw; (try dsimp only at hSw); have hc0 := hSw.1 0 _ rfl; have hc1 := hSw.1 1 _ rfl; have hc2 := hSw.1 2 _ rfl; have hc3 := hSw.1 3 _ rfl; have hc4 := hSw.1 4 _ rfl; have hc5 := hSw.1 5 _ rfl; have hc6 := hSw.1 6 _ rfl; have hc7 := hSw.1 7 _ rfl; have hc8 := hSw.1 8 _ rfl; have hc9 := hSw.1 9 _ rfl; have hc10 := hSw.1 10 _ rfl; have hc11 := hSw.1 11 _ rfl; have hc12 := hSw.1 12 _ rfl; go_simp; try with_reducible rfl)
        simp only [Act.put, List.setIfInBounds_toArray, List.set_cons_zero, List.set_cons_succ]
        refine wpAnyH_take (i := 4) (oi := ⟨some 38, _, _, _, _, _⟩) (v := ?vk1x4) rfl (by kernel_rfl) (by kernel_rfl) (by kernel_rfl) (fun _ _ _ h => h) (Or.inl ⟨by rfl, ?hyk1x4⟩) hHeld ?restk1x4
        case hyk1x4 => (intro w hSw; (try dsimp only at hSw); have hc0 := hSw.1 0 _ rfl; have hc1 := hSw.1 1 _ rfl; have hc2 := hSw.1 2 _ rfl; have hc3 := hSw.1 3 _ rfl; have hc4 := hSw.1 4 _ rfl; have hc5 := hSw.1 5 _ rfl; have hc6 := hSw.1 6 _ rfl; have hc7 := hSw.1 7 _ rfl; have hc8 := hSw.1 8 _ rfl; have hc9 := hSw.1 9 _ rfl; have hc10 := hSw.1 10 _ rfl; have hc11 := hSw.1 11 _ rfl; have hc12 := hSw.1 12 _ rfl; go_simp; try with_reducible rfl)
        simp only [Act.put, List.setIfInBounds_toArray, List.set_cons_zero, List.set_cons_succ]
        refine wpAnyH_take (i := 7) (oi := ⟨some 41, _, _, _, _, _⟩) (v := ?vk1x7) rfl (by kernel_rfl) (by kernel_rfl) (by kernel_rfl) (fun _ _ _ h => h) (Or.inl ⟨by rfl, ?hyk1x7⟩) hHeld ?restk1x7
        case hyk1x7 => (intro w hSw; (try dsimp only at hSw); have hc0 := hSw.1 0 _ rfl; have hc1 := hSw.1 1 _ rfl; have hc2 := hSw.1 2 _ rfl; have hc3 := hSw.1 3 _ rfl; have hc4 := hSw.1 4 _ rfl; have hc5 := hSw.1 5 _ rfl; have hc6 := hSw.1 6 _ rfl; have hc7 := hSw.1 7 _ rfl; have hc8 := hSw.1 8 _ rfl; have hc9 := hSw.1 9 _ rfl; have hc10 := hSw.1 10 _ rfl; have hc11 := hSw.1 11 _ rfl; have hc12 := hSw.1 12 _ rfl; go_simp; try with_reducible rfl)
        simp only [Act.put, List.setIfInBounds_toArray, List.set_cons_zero, List.set_cons_succ]
        refine wpAnyH_take (i := 8) (oi := ⟨some 42, _, _, _, _, _⟩) (v := ?vk1x8) rfl (by kernel_rfl) (by kernel_rfl) (by kernel_rfl) (fun _ _ _ h => h) (Or.inl ⟨by rfl, ?hyk1x8⟩) hHeld ?restk1x8
        case hyk1x8 => (intro w hSw; (try dsimp only at hSw); have hc0 := hSw.1 0 _ rfl; have hc1 := hSw.1 1 _ rfl; have hc2 := hSw.1 2 _ rfl; have hc3 := hSw.1 3 _ rfl; have hc4 := hSw.1 4 _ rfl; have hc5 := hSw.1 5 _ rfl; have hc6 := hSw.1 6 _ rfl; have hc7 := hSw.1 7 _ rfl; have hc8 := hSw.1 8 _ rfl; have hc9 := hSw.1 9 _ rfl; have hc10 := hSw.1 10 _ rfl; have hc11 := hSw.1 11 _ rfl; have hc12 := hSw.1 12 _ rfl; go_simp; try with_reducible rfl)
        simp only [Act.put, List.setIfInBounds_toArray, List.set_cons_zero, List.set_cons_succ]
        refine wpAnyH_ready (rs := [5, 9]) (by kernel_rfl) (by simp) ?_
        refine AllReadyH.cons (o := ⟨some 39, _, _, _, _, _⟩) rfl (fun K hK => ?_) (AllReadyH.cons (o := ⟨some 43, _, _, _, _, _⟩) rfl (fun K hK => ?_) AllReadyH.nil)
        · go_simp
          refine hK.out _ _ (hHeld.step ((Below.refl _ _).alloc (Nat.le_refl _) _)) (fun hHeld2 => ?_)
          clear hK K hHeld
          have hHeld := hHeld2
          clear hHeld2
          (try simp only [Act.put, List.setIfInBounds_toArray, List.set_cons_zero, List.set_cons_succ])
          obtain ⟨Uk11, eW⟩ : ∃ X, X = Uk10.alloc (.cells #[.int .i64 pc, .int .i64 pr, .int .i64 fc, .int .i64 fr] 55) := ⟨_, rfl⟩
          have BW : Hid (Below Uk10.heap.size Uk10 Uk11) := by rw [eW]; exact (Below.refl _ _).alloc (Nat.le_refl _) _
          replace IB : Hid (IsB Uk11 u5 (headB ac ar sq 1 ds)) := IB.out.below BW.out
          have I5 : Hid (IsS Uk11 (.slice (some ⟨Uk10.heap.size, 0, none⟩) 2 2) [(pc, pr), (fc, fr)]) := by rw [eW]; exact IsS.two Uk10 pc pr fc fr
          rw [← eW] at hHeld ⊢
          clear eW BW
          refine wpAnyH_ready (rs := [6, 9]) (by kernel_rfl) (by simp) ?_
          refine AllReadyH.cons (o := ⟨some 40, _, _, _, _, _⟩) rfl (fun K hK => ?_) (AllReadyH.cons (o := ⟨some 43, _, _, _, _, _⟩) rfl (fun K hK => ?_) AllReadyH.nil)
          · go_simp
            refine (putStamps_any _ _ _ [(pc, pr), (fc, fr)] _ IB.out I5.out HDS.out HLS.out).mono ?_
            rintro e Vk12 ⟨v6, rfl, ho, hb⟩
            (try go_wp2_with fail)
            refine hK.out _ _ (hHeld.step hb) (fun hHeld2 => ?_)
            clear hK K hHeld
            have hHeld := hHeld2
            clear hHeld2
            (try simp only [Act.put, List.setIfInBounds_toArray, List.set_cons_zero, List.set_cons_succ])
            replace IB : Hid (IsB Vk12 u5 (headB ac ar sq 1 ds)) := IB.out.below hb
            replace I5 : Hid (IsS Vk12 (.slice (some ⟨Uk10.heap.size, 0, none⟩) 2 2) [(pc, pr), (fc, fr)]) := I5.out.below hb
            have P6 : Hid (IsB Vk12 v6 (headB ac ar sq 1 ds ++ putsL (flatS [(pc, pr), (fc, fr)]))) := ho.isB (by have := HLS.out; rw [List.length_append]; omega)
            clear ho hb
            refine wpAnyH_ready (rs := [9]) (by kernel_rfl) (by simp) ?_
            refine AllReadyH.cons (o := ⟨some 43, _, _, _, _, _⟩) rfl (fun K hK => ?_) AllReadyH.nil
            go_simp
            refine hK.out _ _ (hHeld.step ((Below.refl _ _).alloc (Nat.le_refl _) _)) (fun hHeld2 => ?_)
            clear hK K hHeld
            have hHeld := hHeld2
            clear hHeld2
            (try simp only [Act.put, List.setIfInBounds_toArray, List.set_cons_zero, List.set_cons_succ])
            obtain ⟨Uk13, eW⟩ : ∃ X, X = Vk12.alloc (.cells #[.string nm] 9) := ⟨_, rfl⟩
            have BW : Hid (Below Vk12.heap.size Vk12 Uk13) := by rw [eW]; exact (Below.refl _ _).alloc (Nat.le_refl _) _
            replace IB : Hid (IsB Uk13 u5 (headB ac ar sq 1 ds)) := IB.out.below BW.out
            replace I5 : Hid (IsS Uk13 (.slice (some ⟨Uk10.heap.size, 0, none⟩) 2 2) [(pc, pr), (fc, fr)]) := I5.out.below BW.out
            replace P6 : Hid (IsB Uk13 v6 (headB ac ar sq 1 ds ++ putsL (flatS [(pc, pr), (fc, fr)]))) := P6.out.below BW.out
            have I9 : Hid (IsT Uk13 (.slice (some ⟨Vk12.heap.size, 0, none⟩) 1 1) [nm]) := by rw [eW]; exact IsT.one Vk12 nm
            rw [← eW] at hHeld ⊢
            clear eW BW
            refine wpAnyH_ready (rs := [10]) (by kernel_rfl) (by simp) ?_
            refine AllReadyH.cons (o := ⟨some 44, _, _, _, _, _⟩) rfl (fun K hK => ?_) AllReadyH.nil
            go_simp
            have hsz := hHeld.2.2.size
            refine (putText_any _ _ _ [nm] _ P6.out I9.out HLT.out).mono ?_
            rintro e Vk14 ⟨v10, rfl, ho, hb⟩
            (try go_wp2_with fail)
            refine hK.out _ _ (hHeld.step hb) (fun hHeld2 => ?_)
            clear hK K hHeld
            have hHeld := hHeld2
            clear hHeld2
            (try simp only [Act.put, List.setIfInBounds_toArray, List.set_cons_zero, List.set_cons_succ])
            replace IB : Hid (IsB Vk14 u5 (headB ac ar sq 1 ds)) := IB.out.below hb
            replace I5 : Hid (IsS Vk14 (.slice (some ⟨Uk10.heap.size, 0, none⟩) 2 2) [(pc, pr), (fc, fr)]) := I5.out.below hb
            replace P6 : Hid (IsB Vk14 v6 (headB ac ar sq 1 ds ++ putsL (flatS [(pc, pr), (fc, fr)]))) := P6.out.below hb
            replace I9 : Hid (IsT Vk14 (.slice (some ⟨Vk12.heap.size, 0, none⟩) 1 1) [nm]) := I9.out.below hb
            have OZ : Hid (OwnB w.heap.size Vk14 v10 (bytesCh ⟨ac, ar, sq, ds, 1, nc, nr, pc, pr, fc, fr, nm, vl⟩)) := by
              have h0 := ho.cut hsz
              rw [HEK.out] at h0
              exact h0
            clear ho hb
            refine wpAnyH_take (i := 11) (oi := ⟨some 5, _, _, _, _, _⟩) (v := ?vk1_5_6_9_10x11) rfl (by kernel_rfl) (by kernel_rfl) (by kernel_rfl) (fun _ _ _ h => h) (Or.inl ⟨by rfl, ?hyk1_5_6_9_10x11⟩) hHeld ?restk1_5_6_9_10x11
            case hyk1_5_6_9_10x11 => (intro w hSw; (try dsimp only at hSw); have hc0 := hSw.1 0 _ rfl; have hc1 := hSw.1 1 _ rfl; have hc2 := hSw.1 2 _ rfl; have hc3 := hSw.1 3 _ rfl; have hc4 := hSw.1 4 _ rfl; have hc5 := hSw.1 5 _ rfl; have hc6 := hSw.1 6 _ rfl; have hc7 := hSw.1 7 _ rfl; have hc8 := hSw.1 8 _ rfl; have hc9 := hSw.1 9 _ rfl; have hc10 := hSw.1 10 _ rfl; have hc11 := hSw.1 11 _ rfl; have hc12 := hSw.1 12 _ rfl; go_simp; try with_reducible rfl)
            simp only [Act.put, List.setIfInBounds_toArray, List.set_cons_zero, List.set_cons_succ]
            refine wpAnyH_done (by kernel_rfl) ?_ _
            have KZ := hHeld
            clear hHeld
            go_wp2
            go_ret2
            exact ⟨_, rfl, OZ.out, KZ.2.2⟩
          · go_simp
            refine hK.out _ _ (hHeld.step ((Below.refl _ _).alloc (Nat.le_refl _) _)) (fun hHeld2 => ?_)
            clear hK K hHeld
            have hHeld := hHeld2
            clear hHeld2
            (try simp only [Act.put, List.setIfInBounds_toArray, List.set_cons_zero, List.set_cons_succ])
            obtain ⟨Uk15, eW⟩ : ∃ X, X = Uk11.alloc (.cells #[.string nm] 9) := ⟨_, rfl⟩
            have BW : Hid (Below Uk11.heap.size Uk11 Uk15) := by rw [eW]; exact (Below.refl _ _).alloc (Nat.le_refl _) _
            replace IB : Hid (IsB Uk15 u5 (headB ac ar sq 1 ds)) := IB.out.below BW.out
            replace I5 : Hid (IsS Uk15 (.slice (some ⟨Uk10.heap.size, 0, none⟩) 2 2) [(pc, pr), (fc, fr)]) := I5.out.below BW.out
            have I9 : Hid (IsT Uk15 (.slice (some ⟨Uk11.heap.size, 0, none⟩) 1 1) [nm]) := by rw [eW]; exact IsT.one Uk11 nm
            rw [← eW] at hHeld ⊢
            clear eW BW
            refine wpAnyH_ready (rs := [6]) (by kernel_rfl) (by simp) ?_
            refine AllReadyH.cons (o := ⟨some 40, _, _, _, _, _⟩) rfl (fun K hK => ?_) AllReadyH.nil
            go_simp
            refine (putStamps_any _ _ _ [(pc, pr), (fc, fr)] _ IB.out I5.out HDS.out HLS.out).mono ?_
            rintro e Vk16 ⟨v6, rfl, ho, hb⟩
            (try go_wp2_with fail)
            refine hK.out _ _ (hHeld.step hb) (fun hHeld2 => ?_)
            clear hK K hHeld
            have hHeld := hHeld2
            clear hHeld2
            (try simp only [Act.put, List.setIfInBounds_toArray, List.set_cons_zero, List.set_cons_succ])
            replace IB : Hid (IsB Vk16 u5 (headB ac ar sq 1 ds)) := IB.out.below hb
            replace I5 : Hid (IsS Vk16 (.slice (some ⟨Uk10.heap.size, 0, none⟩) 2 2) [(pc, pr), (fc, fr)]) := I5.out.below hb
            replace I9 : Hid (IsT Vk16 (.slice (some ⟨Uk11.heap.size, 0, none⟩) 1 1) [nm]) := I9.out.below hb
            have P6 : Hid (IsB Vk16 v6 (headB ac ar sq 1 ds ++ putsL (flatS [(pc, pr), (fc, fr)]))) := ho.isB (by have := HLS.out; rw [List.length_append]; omega)
            clear ho hb
            refine wpAnyH_ready (rs := [10]) (by kernel_rfl) (by simp) ?_
            refine AllReadyH.cons (o := ⟨some 44, _, _, _, _, _⟩) rfl (fun K hK => ?_) AllReadyH.nil
            go_simp
            have hsz := hHeld.2.2.size
            refine (putText_any _ _ _ [nm] _ P6.out I9.out HLT.out).mono ?_
            rintro e Vk17 ⟨v10, rfl, ho, hb⟩
            (try go_wp2_with fail)
            refine hK.out _ _ (hHeld.step hb) (fun hHeld2 => ?_)
            clear hK K hHeld
            have hHeld := hHeld2
            clear hHeld2
            (try simp only [Act.put, List.setIfInBounds_toArray, List.set_cons_zero, List.set_cons_succ])
            replace IB : Hid (IsB Vk17 u5 (headB ac ar sq 1 ds)) := IB.out.below hb
            replace I5 : Hid (IsS Vk17 (.slice (some ⟨Uk10.heap.size, 0, none⟩) 2 2) [(pc, pr), (fc, fr)]) := I5.out.below hb
            replace I9 : Hid (IsT Vk17 (.slice (some ⟨Uk11.heap.size, 0, none⟩) 1 1) [nm]) := I9.out.below hb
            replace P6 : Hid (IsB Vk17 v6 (headB ac ar sq 1 ds ++ putsL (flatS [(pc, pr), (fc, fr)]))) := P6.out.below hb
            have OZ : Hid (OwnB w.heap.size Vk17 v10 (bytesCh ⟨ac, ar, sq, ds, 1, nc, nr, pc, pr, fc, fr, nm, vl⟩)) := by
              have h0 := ho.cut hsz
              rw [HEK.out] at h0
              exact h0
            clear ho hb
            refine wpAnyH_take (i := 11) (oi := ⟨some 5, _, _, _, _, _⟩) (v := ?vk1_5_9_6_10x11) rfl (by kernel_rfl) (by kernel_rfl) (by kernel_rfl) (fun _ _ _ h => h) (Or.inl ⟨by rfl, ?hyk1_5_9_6_10x11⟩) hHeld ?restk1_5_9_6_10x11
            case hyk1_5_9_6_10x11 => (intro w hSw; (try dsimp only at hSw); have hc0 := hSw.1 0 _ rfl; have hc1 := hSw.1 1 _ rfl; have hc2 := hSw.1 2 _ rfl; have hc3 := hSw.1 3 _ rfl; have hc4 := hSw.1 4 _ rfl; have hc5 := hSw.1 5 _ rfl; have hc6 := hSw.1 6 _ rfl; have hc7 := hSw.1 7 _ rfl; have hc8 := hSw.1 8 _ rfl; have hc9 := hSw.1 9 _ rfl; have hc10 := hSw.1 10 _ rfl; have hc11 := hSw.1 11 _ rfl; have hc12 := hSw.1 12 _ rfl; go_simp; try with_reducible rfl)
            simp only [Act.put, List.setIfInBounds_toArray, List.set_cons_zero, List.set_cons_succ]
            refine wpAnyH_done (by kernel_rfl) ?_ _
            have KZ := hHeld
            clear hHeld
            go_wp2
            go_ret2
            exact ⟨_, rfl, OZ.out, KZ.2.2⟩
        · go_simp
          refine hK.out _ _ (hHeld.step ((Below.refl _ _).alloc (Nat.le_refl _) _)) (fun hHeld2 => ?_)
          clear hK K hHeld
          have hHeld := hHeld2
          clear hHeld2
          (try simp only [Act.put, List.setIfInBounds_toArray, List.set_cons_zero, List.set_cons_succ])
          obtain ⟨Uk18, eW⟩ : ∃ X, X = Uk10.alloc (.cells #[.string nm] 9) := ⟨_, rfl⟩
          have BW : Hid (Below Uk10.heap.size Uk10 Uk18) := by rw [eW]; exact (Below.refl _ _).alloc (Nat.le_refl _) _
          replace IB : Hid (IsB Uk18 u5 (headB ac ar sq 1 ds)) := IB.out.below BW.out
          have I9 : Hid (IsT Uk18 (.slice (some ⟨Uk10.heap.size, 0, none⟩) 1 1) [nm]) := by rw [eW]; exact IsT.one Uk10 nm
          rw [← eW] at hHeld ⊢
          clear eW BW
          refine wpAnyH_ready (rs := [5]) (by kernel_rfl) (by simp) ?_
          refine AllReadyH.cons (o := ⟨some 39, _, _, _, _, _⟩) rfl (fun K hK => ?_) AllReadyH.nil
          go_simp
          refine hK.out _ _ (hHeld.step ((Below.refl _ _).alloc (Nat.le_refl _) _)) (fun hHeld2 => ?_)
          clear hK K hHeld
          have hHeld := hHeld2
          clear hHeld2
          (try simp only [Act.put, List.setIfInBounds_toArray, List.set_cons_zero, List.set_cons_succ])
          obtain ⟨Uk19, eW⟩ : ∃ X, X = Uk18.alloc (.cells #[.int .i64 pc, .int .i64 pr, .int .i64 fc, .int .i64 fr] 55) := ⟨_, rfl⟩
          have BW : Hid (Below Uk18.heap.size Uk18 Uk19) := by rw [eW]; exact (Below.refl _ _).alloc (Nat.le_refl _) _
          replace IB : Hid (IsB Uk19 u5 (headB ac ar sq 1 ds)) := IB.out.below BW.out
          replace I9 : Hid (IsT Uk19 (.slice (some ⟨Uk10.heap.size, 0, none⟩) 1 1) [nm]) := I9.out.below BW.out
          have I5 : Hid (IsS Uk19 (.slice (some ⟨Uk18.heap.size, 0, none⟩) 2 2) [(pc, pr), (fc, fr)]) := by rw [eW]; exact IsS.two Uk18 pc pr fc fr
          rw [← eW] at hHeld ⊢
          clear eW BW
          refine wpAnyH_ready (rs := [6]) (by kernel_rfl) (by simp) ?_
          refine AllReadyH.cons (o := ⟨some 40, _, _, _, _, _⟩) rfl (fun K hK => ?_) AllReadyH.nil
          go_simp
          refine (putStamps_any _ _ _ [(pc, pr), (fc, fr)] _ IB.out I5.out HDS.out HLS.out).mono ?_
          rintro e Vk110 ⟨v6, rfl, ho, hb⟩
          (try go_wp2_with fail)
          refine hK.out _ _ (hHeld.step hb) (fun hHeld2 => ?_)
          clear hK K hHeld
          have hHeld := hHeld2
          clear hHeld2
          (try simp only [Act.put, List.setIfInBounds_toArray, List.set_cons_zero, List.set_cons_succ])
          replace IB : Hid (IsB Vk110 u5 (headB ac ar sq 1 ds)) := IB.out.below hb
          replace I9 : Hid (IsT Vk110 (.slice (some ⟨Uk10.heap.size, 0, none⟩) 1 1) [nm]) := I9.out.below hb
          replace I5 : Hid (IsS Vk110 (.slice (some ⟨Uk18.heap.size, 0, none⟩) 2 2) [(pc, pr), (fc, fr)]) := I5.out.below hb
          have P6 : Hid (IsB Vk110 v6 (headB ac ar sq 1 ds ++ putsL (flatS [(pc, pr), (fc, fr)]))) := ho.isB (by have := HLS.out; rw [List.length_append]; omega)
          clear ho hb
          refine wpAnyH_ready (rs := [10]) (by kernel_rfl) (by simp) ?_
          refine AllReadyH.cons (o := ⟨some 44, _, _, _, _, _⟩) rfl (fun K hK => ?_) AllReadyH.nil
          go_simp
          have hsz := hHeld.2.2.size
          refine (putText_any _ _ _ [nm] _ P6.out I9.out HLT.out).mono ?_
          rintro e Vk111 ⟨v10, rfl, ho, hb⟩
          (try go_wp2_with fail)
          refine hK.out _ _ (hHeld.step hb) (fun hHeld2 => ?_)
          clear hK K hHeld
          have hHeld := hHeld2
          clear hHeld2
          (try simp only [Act.put, List.setIfInBounds_toArray, List.set_cons_zero, List.set_cons_succ])
          replace IB : Hid (IsB Vk111 u5 (headB ac ar sq 1 ds)) := IB.out.below hb
          replace I9 : Hid (IsT Vk111 (.slice (some ⟨Uk10.heap.size, 0, none⟩) 1 1) [nm]) := I9.out.below hb
          replace I5 : Hid (IsS Vk111 (.slice (some ⟨Uk18.heap.size, 0, none⟩) 2 2) [(pc, pr), (fc, fr)]) := I5.out.below hb
          replace P6 : Hid (IsB Vk111 v6 (headB ac ar sq 1 ds ++ putsL (flatS [(pc, pr), (fc, fr)]))) := P6.out.below hb
          have OZ : Hid (OwnB w.heap.size Vk111 v10 (bytesCh ⟨ac, ar, sq, ds, 1, nc, nr, pc, pr, fc, fr, nm, vl⟩)) := by
            have h0 := ho.cut hsz
            rw [HEK.out] at h0
            exact h0
          clear ho hb
          refine wpAnyH_take (i := 11) (oi := ⟨some 5, _, _, _, _, _⟩) (v := ?vk1_9_5_6_10x11) rfl (by kernel_rfl) (by kernel_rfl) (by kernel_rfl) (fun _ _ _ h => h) (Or.inl ⟨by rfl, ?hyk1_9_5_6_10x11⟩) hHeld ?restk1_9_5_6_10x11
          case hyk1_9_5_6_10x11 => (intro w hSw; (try dsimp only at hSw); have hc0 := hSw.1 0 _ rfl; have hc1 := hSw.1 1 _ rfl; have hc2 := hSw.1 2 _ rfl; have hc3 := hSw.1 3 _ rfl; have hc4 := hSw.1 4 _ rfl; have hc5 := hSw.1 5 _ rfl; have hc6 := hSw.1 6 _ rfl; have hc7 := hSw.1 7 _ rfl; have hc8 := hSw.1 8 _ rfl; have hc9 := hSw.1 9 _ rfl; have hc10 := hSw.1 10 _ rfl; have hc11 := hSw.1 11 _ rfl; have hc12 := hSw.1 12 _ rfl; go_simp; try with_reducible rfl)
          simp only [Act.put, List.setIfInBounds_toArray, List.set_cons_zero, List.set_cons_succ]
          refine wpAnyH_done (by kernel_rfl) ?_ _
          have KZ := hHeld
          clear hHeld
          go_wp2
          go_ret2
          exact ⟨_, rfl, OZ.out, KZ.2.2⟩
      · skip
        have HDS : Hid (∀ x ∈ [(nc, nr), (pc, pr), (fc, fr)], x.1 < 9223372036854775808 ∧ x.2 < 9223372036854775808) := fun x hx => by
          simp only [List.mem_cons, List.not_mem_nil, or_false] at hx
          rcases hx with rfl | rfl | rfl
          · exact HNL.out
          · exact HPL.out
          · exact HFL.out
        have HEK : Hid (headB ac ar sq 2 ds ++ putsL (flatS [(nc, nr), (pc, pr), (fc, fr)]) = bytesCh ⟨ac, ar, sq, ds, 2, nc, nr, pc, pr, fc, fr, nm, vl⟩) := by show _ = _; rw [bytes_head]; simp [restP, putsL, flatS, stampP, putI]
        have HLS : Hid ((headB ac ar sq 2 ds).length + (putsL (flatS [(nc, nr), (pc, pr), (fc, fr)])).length ≤ 140737488355328) := by show _ ≤ _; rw [← List.length_append, HEK.out]; omega
        obtain ⟨k_0, k_1, k_2, k_3, k_4, k_5, k_6, k_7, k_8, k_9, k_10, k_11, k_12⟩ := KV2.cells13
        have BA : Hid (Below wc.heap.size wc (wc.alloc (.cells #[.int .i64 nc, .int .i64 nr, .int .i64 pc, .int .i64 pr, .int .i64 fc, .int .i64 fr] 55))) := (Below.refl _ _).alloc (Nat.le_refl _) _
        have IS : Hid (IsS (wc.alloc (.cells #[.int .i64 nc, .int .i64 nr, .int .i64 pc, .int .i64 pr, .int .i64 fc, .int .i64 fr] 55)) (.slice (some ⟨wc.heap.size, 0, none⟩) 3 3) [(nc, nr), (pc, pr), (fc, fr)]) := IsS.three wc nc nr pc pr fc fr
        have IB : Hid (IsB (wc.alloc (.cells #[.int .i64 nc, .int .i64 nr, .int .i64 pc, .int .i64 pr, .int .i64 fc, .int .i64 fr] 55)) u5 (headB ac ar sq 2 ds)) := (O6.out.isB (by omega)).below BA.out
        have KA := KV2.step BA.out
        have hsz := KA.2.2.size
        go_wp2_with fail
        clear k_0 k_1 k_2 k_3 k_4 k_5 k_6 k_7 k_8 k_9 k_10 k_11 k_12
        refine (putStamps_any _ _ _ [(nc, nr), (pc, pr), (fc, fr)] _ IB.out IS.out HDS.out HLS.out).mono ?_
        rintro e w7 ⟨v7, rfl, ho, hb⟩
        have KZ := KA.step hb
        have OZ : Hid (OwnB w.heap.size w7 v7 (bytesCh ⟨ac, ar, sq, ds, 2, nc, nr, pc, pr, fc, fr, nm, vl⟩)) := by
          have h0 := ho.cut hsz
          rw [HEK.out] at h0
          exact h0
        clear ho hb
        go_wp2
        go_ret2
        exact ⟨_, rfl, OZ.out, KZ.2.2⟩
      · skip
        have HDS : Hid (∀ x ∈ [(nc, nr)], x.1 < 9223372036854775808 ∧ x.2 < 9223372036854775808) := fun x hx => by simp only [List.mem_cons, List.not_mem_nil, or_false] at hx; rcases hx with rfl; exact HNL.out
        have HEK : Hid ((headB ac ar sq 3 ds ++ putsL (flatS [(nc, nr)])) ++ textsB [nm, vl] = bytesCh ⟨ac, ar, sq, ds, 3, nc, nr, pc, pr, fc, fr, nm, vl⟩) := by show _ = _; rw [bytes_head]; simp [restP, putsL, flatS, stampP, putI, textsB, textB, textP]
        have HLT : Hid ((headB ac ar sq 3 ds ++ putsL (flatS [(nc, nr)])).length + (textsB [nm, vl]).length ≤ 140737488355328) := by show _ ≤ _; rw [← List.length_append, HEK.out]; omega
        have HLS : Hid ((headB ac ar sq 3 ds).length + (putsL (flatS [(nc, nr)])).length ≤ 140737488355328) := by have h0 := HLT.out; rw [List.length_append] at h0; show _ ≤ _; omega
        obtain ⟨k_0, k_1, k_2, k_3, k_4, k_5, k_6, k_7, k_8, k_9, k_10, k_11, k_12⟩ := KV2.cells13
        go_upto_region 12 with fail
        clear k_0 k_1 k_2 k_3 k_4 k_5 k_6 k_7 k_8 k_9 k_10 k_11 k_12
        have IB : Hid (IsB wc u5 (headB ac ar sq 3 ds)) := O6.out.isB (by omega)
        refine wp_region_held_drew (S := fun W' => KeptC w w.heap.size [.int .i64 ac, .int .i64 ar, .int .i64 sq, .slice a1 ds.length c1, .int .i64 3, .int .i64 nc, .int .i64 nr, .int .i64 pc, .int .i64 pr, .int .i64 fc, .int .i64 fr, .string nm, .string vl] W') (by kernel_rfl) KV2.drew (fun hHeld => ?_)
        obtain ⟨Uk30, eW⟩ : ∃ X, X = wc.drew := ⟨_, rfl⟩
        have IB : Hid (IsB Uk30 u5 (headB ac ar sq 3 ds)) := by rw [eW]; exact IB.out.below ((Below.refl _ _).drew)
        rw [← eW] at hHeld ⊢
        clear eW
        refine wpAnyH_take (i := 0) (oi := ⟨some 58, _, _, _, _, _⟩) (v := ?vk3x0) rfl (by kernel_rfl) (by kernel_rfl) (by kernel_rfl) (fun _ _ _ h => h) (Or.inl ⟨by rfl, ?hyk3x0⟩) hHeld ?restk3x0
        case hyk3x0 => (intro w hSw; (try dsimp only at hSw); have hc0 := hSw.1 0 _ rfl; have hc1 := hSw.1 1 _ rfl; have hc2 := hSw.1 2 _ rfl; have hc3 := hSw.1 3 _ rfl; have hc4 := hSw.1 4 _ rfl; have hc5 := hSw.1 5 _ rfl; have hc6 := hSw.1 6 _ rfl; have hc7 := hSw.1 7 _ rfl; have hc8 := hSw.1 8 _ rfl; have hc9 := hSw.1 9 _ rfl; have hc10 := hSw.1 10 _ rfl; have hc11 := hSw.1 11 _ rfl; have hc12 := hSw.1 12 _ rfl; go_simp; try with_reducible rfl)
        simp only [Act.put, List.setIfInBounds_toArray, List.set_cons_zero, List.set_cons_succ]
        refine wpAnyH_take (i := 1) (oi := ⟨some 59, _, _, _, _, _⟩) (v := ?vk3x1) rfl (by kernel_rfl) (by kernel_rfl) (by kernel_rfl) (fun _ _ _ h => h) (Or.inl ⟨by rfl, ?hyk3x1⟩) hHeld ?restk3x1
        case hyk3x1 => (intro w hSw; (try dsimp only at hSw); have hc0 := hSw.1 0 _ rfl; have hc1 := hSw.1 1 _ rfl; have hc2 := hSw.1 2 _ rfl; have hc3 := hSw.1 3 _ rfl; have hc4 := hSw.1 4 _ rfl; have hc5 := hSw.1 5 _ rfl; have hc6 := hSw.1 6 _ rfl; have hc7 := hSw.1 7 _ rfl; have hc8 := hSw.1 8 _ rfl; have hc9 := hSw.1 9 _ rfl; have hc10 := hSw.1 10 _ rfl; have hc11 := hSw.1 11 _ rfl; have hc12 := hSw.1 12 _ rfl; go_simp; try with_reducible rfl)
        simp only [Act.put, List.setIfInBounds_toArray, List.set_cons_zero, List.set_cons_succ]
        refine wpAnyH_take (i := 2) (oi := ⟨some 60, _, _, _, _, _⟩) (v := ?vk3x2) rfl (by kernel_rfl) (by kernel_rfl) (by kernel_rfl) (fun _ _ _ h => h) (Or.inl ⟨by rfl, ?hyk3x2⟩) hHeld ?restk3x2
        case hyk3x2 => (intro w hSw; (try dsimp only at hSw); have hc0 := hSw.1 0 _ rfl; have hc1 := hSw.1 1 _ rfl; have hc2 := hSw.1 2 _ rfl; have hc3 := hSw.1 3 _ rfl; have hc4 := hSw.1 4 _ rfl; have hc5 := hSw.1 5 _ rfl; have hc6 := hSw.1 6 _ rfl; have hc7 := hSw.1 7 _ rfl; have hc8 := hSw.1 8 _ rfl; have hc9 := hSw.1 9 _ rfl; have hc10 := hSw.1 10 _ rfl; have hc11 := hSw.1 11 _ rfl; have hc12 := hSw.1 12 _ rfl; go_simp; try with_reducible rfl)
        simp only [Act.put, List.setIfInBounds_toArray, List.set_cons_zero, List.set_cons_succ]
        refine wpAnyH_take (i := 5) (oi := ⟨some 63, _, _, _, _, _⟩) (v := ?vk3x5) rfl (by kernel_rfl) (by kernel_rfl) (by kernel_rfl) (fun _ _ _ h => h) (Or.inl ⟨by rfl, ?hyk3x5⟩) hHeld ?restk3x5
        case hyk3x5 => (intro w hSw; (try dsimp only at hSw); have hc0 := hSw.1 0 _ rfl; have hc1 := hSw.1 1 _ rfl; have hc2 := hSw.1 2 _ rfl; have hc3 := hSw.1 3 _ rfl; have hc4 := hSw.1 4 _ rfl; have hc5 := hSw.1 5 _ rfl; have hc6 := hSw.1 6 _ rfl; have hc7 := hSw.1 7 _ rfl; have hc8 := hSw.1 8 _ rfl; have hc9 := hSw.1 9 _ rfl; have hc10 := hSw.1 10 _ rfl; have hc11 := hSw.1 11 _ rfl; have hc12 := hSw.1 12 _ rfl; go_simp; try with_reducible rfl)
        simp only [Act.put, List.setIfInBounds_toArray, List.set_cons_zero, List.set_cons_succ]
        refine wpAnyH_take (i := 6) (oi := ⟨some 64, _, _, _, _, _⟩) (v := ?vk3x6) rfl (by kernel_rfl) (by kernel_rfl) (by kernel_rfl) (fun _ _ _ h => h) (Or.inl ⟨by rfl, ?hyk3x6⟩) hHeld ?restk3x6
        case hyk3x6 => (intro w hSw; (try dsimp only at hSw); have hc0 := hSw.1 0 _ rfl; have hc1 := hSw.1 1 _ rfl; have hc2 := hSw.1 2 _ rfl; have hc3 := hSw.1 3 _ rfl; have hc4 := hSw.1 4 _ rfl; have hc5 := hSw.1 5 _ rfl; have hc6 := hSw.1 6 _ rfl; have hc7 := hSw.1 7 _ rfl; have hc8 := hSw.1 8 _ rfl; have hc9 := hSw.1 9 _ rfl; have hc10 := hSw.1 10 _ rfl; have hc11 := hSw.1 11 _ rfl; have hc12 := hSw.1 12 _ rfl; go_simp; try with_reducible rfl)
        simp only [Act.put, List.setIfInBounds_toArray, List.set_cons_zero, List.set_cons_succ]
        refine wpAnyH_take (i := 7) (oi := ⟨some 65, _, _, _, _, _⟩) (v := ?vk3x7) rfl (by kernel_rfl) (by kernel_rfl) (by kernel_rfl) (fun _ _ _ h => h) (Or.inl ⟨by rfl, ?hyk3x7⟩) hHeld ?restk3x7
        case hyk3x7 => (intro w hSw; (try dsimp only at hSw); have hc0 := hSw.1 0 _ rfl; have hc1 := hSw.1 1 _ rfl; have hc2 := hSw.1 2 _ rfl; have hc3 := hSw.1 3 _ rfl; have hc4 := hSw.1 4 _ rfl; have hc5 := hSw.1 5 _ rfl; have hc6 := hSw.1 6 _ rfl; have hc7 := hSw.1 7 _ rfl; have hc8 := hSw.1 8 _ rfl; have hc9 := hSw.1 9 _ rfl; have hc10 := hSw.1 10 _ rfl; have hc11 := hSw.1 11 _ rfl; have hc12 := hSw.1 12 _ rfl; go_simp; try with_reducible rfl)
        simp only [Act.put, List.setIfInBounds_toArray, List.set_cons_zero, List.set_cons_succ]
        refine wpAnyH_take (i := 8) (oi := ⟨some 66, _, _, _, _, _⟩) (v := ?vk3x8) rfl (by kernel_rfl) (by kernel_rfl) (by kernel_rfl) (fun _ _ _ h => h) (Or.inl ⟨by rfl, ?hyk3x8⟩) hHeld ?restk3x8
        case hyk3x8 => (intro w hSw; (try dsimp only at hSw); have hc0 := hSw.1 0 _ rfl; have hc1 := hSw.1 1 _ rfl; have hc2 := hSw.1 2 _ rfl; have hc3 := hSw.1 3 _ rfl; have hc4 := hSw.1 4 _ rfl; have hc5 := hSw.1 5 _ rfl; have hc6 := hSw.1 6 _ rfl; have hc7 := hSw.1 7 _ rfl; have hc8 := hSw.1 8 _ rfl; have hc9 := hSw.1 9 _ rfl; have hc10 := hSw.1 10 _ rfl; have hc11 := hSw.1 11 _ rfl; have hc12 := hSw.1 12 _ rfl; go_simp; try with_reducible rfl)
        simp only [Act.put, List.setIfInBounds_toArray, List.set_cons_zero, List.set_cons_succ]
        refine wpAnyH_ready (rs := [3, 9]) (by kernel_rfl) (by simp) ?_
        refine AllReadyH.cons (o := ⟨some 61, _, _, _, _, _⟩) rfl (fun K hK => ?_) (AllReadyH.cons (o := ⟨some 67, _, _, _, _, _⟩) rfl (fun K hK => ?_) AllReadyH.nil)
        · go_simp
          refine hK.out _ _ (hHeld.step ((Below.refl _ _).alloc (Nat.le_refl _) _)) (fun hHeld2 => ?_)
          clear hK K hHeld
          have hHeld := hHeld2
          clear hHeld2
          (try simp only [Act.put, List.setIfInBounds_toArray, List.set_cons_zero, List.set_cons_succ])
          obtain ⟨Uk31, eW⟩ : ∃ X, X = Uk30.alloc (.cells #[.int .i64 nc, .int .i64 nr] 55) := ⟨_, rfl⟩
          have BW : Hid (Below Uk30.heap.size Uk30 Uk31) := by rw [eW]; exact (Below.refl _ _).alloc (Nat.le_refl _) _
          replace IB : Hid (IsB Uk31 u5 (headB ac ar sq 3 ds)) := IB.out.below BW.out
          have I5 : Hid (IsS Uk31 (.slice (some ⟨Uk30.heap.size, 0, none⟩) 1 1) [(nc, nr)]) := by rw [eW]; exact IsS.one Uk30 nc nr
          rw [← eW] at hHeld ⊢
          clear eW BW
          refine wpAnyH_ready (rs := [4, 9]) (by kernel_rfl) (by simp) ?_
          refine AllReadyH.cons (o := ⟨some 62, _, _, _, _, _⟩) rfl (fun K hK => ?_) (AllReadyH.cons (o := ⟨some 67, _, _, _, _, _⟩) rfl (fun K hK => ?_) AllReadyH.nil)
          · go_simp
            refine (putStamps_any _ _ _ [(nc, nr)] _ IB.out I5.out HDS.out HLS.out).mono ?_
            rintro e Vk32 ⟨v6, rfl, ho, hb⟩
            (try go_wp2_with fail)
            refine hK.out _ _ (hHeld.step hb) (fun hHeld2 => ?_)
            clear hK K hHeld
            have hHeld := hHeld2
            clear hHeld2
            (try simp only [Act.put, List.setIfInBounds_toArray, List.set_cons_zero, List.set_cons_succ])
            replace IB : Hid (IsB Vk32 u5 (headB ac ar sq 3 ds)) := IB.out.below hb
            replace I5 : Hid (IsS Vk32 (.slice (some ⟨Uk30.heap.size, 0, none⟩) 1 1) [(nc, nr)]) := I5.out.below hb
            have P6 : Hid (IsB Vk32 v6 (headB ac ar sq 3 ds ++ putsL (flatS [(nc, nr)]))) := ho.isB (by have := HLS.out; rw [List.length_append]; omega)
            clear ho hb
            refine wpAnyH_ready (rs := [9]) (by kernel_rfl) (by simp) ?_
            refine AllReadyH.cons (o := ⟨some 67, _, _, _, _, _⟩) rfl (fun K hK => ?_) AllReadyH.nil
            go_simp
            refine hK.out _ _ (hHeld.step ((Below.refl _ _).alloc (Nat.le_refl _) _)) (fun hHeld2 => ?_)
            clear hK K hHeld
            have hHeld := hHeld2
            clear hHeld2
            (try simp only [Act.put, List.setIfInBounds_toArray, List.set_cons_zero, List.set_cons_succ])
            obtain ⟨Uk33, eW⟩ : ∃ X, X = Vk32.alloc (.cells #[.string nm, .string vl] 9) := ⟨_, rfl⟩
            have BW : Hid (Below Vk32.heap.size Vk32 Uk33) := by rw [eW]; exact (Below.refl _ _).alloc (Nat.le_refl _) _
            replace IB : Hid (IsB Uk33 u5 (headB ac ar sq 3 ds)) := IB.out.below BW.out
            replace I5 : Hid (IsS Uk33 (.slice (some ⟨Uk30.heap.size, 0, none⟩) 1 1) [(nc, nr)]) := I5.out.below BW.out
            replace P6 : Hid (IsB Uk33 v6 (headB ac ar sq 3 ds ++ putsL (flatS [(nc, nr)]))) := P6.out.below BW.out
            have I9 : Hid (IsT Uk33 (.slice (some ⟨Vk32.heap.size, 0, none⟩) 2 2) [nm, vl]) := by rw [eW]; exact IsT.two Vk32 nm vl
            rw [← eW] at hHeld ⊢
            clear eW BW
            refine wpAnyH_ready (rs := [10]) (by kernel_rfl) (by simp) ?_
            refine AllReadyH.cons (o := ⟨some 68, _, _, _, _, _⟩) rfl (fun K hK => ?_) AllReadyH.nil
            go_simp
            have hsz := hHeld.2.2.size
            refine (putText_any _ _ _ [nm, vl] _ P6.out I9.out HLT.out).mono ?_
            rintro e Vk34 ⟨v10, rfl, ho, hb⟩
            (try go_wp2_with fail)
            refine hK.out _ _ (hHeld.step hb) (fun hHeld2 => ?_)
            clear hK K hHeld
            have hHeld := hHeld2
            clear hHeld2
            (try simp only [Act.put, List.setIfInBounds_toArray, List.set_cons_zero, List.set_cons_succ])
            replace IB : Hid (IsB Vk34 u5 (headB ac ar sq 3 ds)) := IB.out.below hb
            replace I5 : Hid (IsS Vk34 (.slice (some ⟨Uk30.heap.size, 0, none⟩) 1 1) [(nc, nr)]) := I5.out.below hb
            replace P6 : Hid (IsB Vk34 v6 (headB ac ar sq 3 ds ++ putsL (flatS [(nc, nr)]))) := P6.out.below hb
            replace I9 : Hid (IsT Vk34 (.slice (some ⟨Vk32.heap.size, 0, none⟩) 2 2) [nm, vl]) := I9.out.below hb
            have OZ : Hid (OwnB w.heap.size Vk34 v10 (bytesCh ⟨ac, ar, sq, ds, 3, nc, nr, pc, pr, fc, fr, nm, vl⟩)) := by
              have h0 := ho.cut hsz
              rw [HEK.out] at h0
              exact h0
            clear ho hb
            refine wpAnyH_take (i := 11) (oi := ⟨some 5, _, _, _, _, _⟩) (v := ?vk3_3_4_9_10x11) rfl (by kernel_rfl) (by kernel_rfl) (by kernel_rfl) (fun _ _ _ h => h) (Or.inl ⟨by rfl, ?hyk3_3_4_9_10x11⟩) hHeld ?restk3_3_4_9_10x11
            case hyk3_3_4_9_10x11 => (intro w hSw; (try dsimp only at hSw); have hc0 := hSw.1 0 _ rfl; have hc1 := hSw.1 1 _ rfl; have hc2 := hSw.1 2 _ rfl; have hc3 := hSw.1 3 _ rfl; have hc4 := hSw.1 4 _ rfl; have hc5 := hSw.1 5 _ rfl; have hc6 := hSw.1 6 _ rfl; have hc7 := hSw.1 7 _ rfl; have hc8 := hSw.1 8 _ rfl; have hc9 := hSw.1 9 _ rfl; have hc10 := hSw.1 10 _ rfl; have hc11 := hSw.1 11 _ rfl; have hc12 := hSw.1 12 _ rfl; go_simp; try with_reducible rfl)
            simp only [Act.put, List.setIfInBounds_toArray, List.set_cons_zero, List.set_cons_succ]
            refine wpAnyH_done (by kernel_rfl) ?_ _
            have KZ := hHeld
            clear hHeld
            go_wp2
            go_ret2
            exact ⟨_, rfl, OZ.out, KZ.2.2⟩
          · go_simp
            refine hK.out _ _ (hHeld.step ((Below.refl _ _).alloc (Nat.le_refl _) _)) (fun hHeld2 => ?_)
            clear hK K hHeld
            have hHeld := hHeld2
            clear hHeld2
            (try simp only [Act.put, List.setIfInBounds_toArray, List.set_cons_zero, List.set_cons_succ])
            obtain ⟨Uk35, eW⟩ : ∃ X, X = Uk31.alloc (.cells #[.string nm, .string vl] 9) := ⟨_, rfl⟩
            have BW : Hid (Below Uk31.heap.size Uk31 Uk35) := by rw [eW]; exact (Below.refl _ _).alloc (Nat.le_refl _) _
            replace IB : Hid (IsB Uk35 u5 (headB ac ar sq 3 ds)) := IB.out.below BW.out
            replace I5 : Hid (IsS Uk35 (.slice (some ⟨Uk30.heap.size, 0, none⟩) 1 1) [(nc, nr)]) := I5.out.below BW.out
            have I9 : Hid (IsT Uk35 (.slice (some ⟨Uk31.heap.size, 0, none⟩) 2 2) [nm, vl]) := by rw [eW]; exact IsT.two Uk31 nm vl
            rw [← eW] at hHeld ⊢
            clear eW BW
            refine wpAnyH_ready (rs := [4]) (by kernel_rfl) (by simp) ?_
            refine AllReadyH.cons (o := ⟨some 62, _, _, _, _, _⟩) rfl (fun K hK => ?_) AllReadyH.nil
            go_simp
            refine (putStamps_any _ _ _ [(nc, nr)] _ IB.out I5.out HDS.out HLS.out).mono ?_
            rintro e Vk36 ⟨v6, rfl, ho, hb⟩
            (try go_wp2_with fail)
            refine hK.out _ _ (hHeld.step hb) (fun hHeld2 => ?_)
            clear hK K hHeld
            have hHeld := hHeld2
            clear hHeld2
            (try simp only [Act.put, List.setIfInBounds_toArray, List.set_cons_zero, List.set_cons_succ])
            replace IB : Hid (IsB Vk36 u5 (headB ac ar sq 3 ds)) := IB.out.below hb
            replace I5 : Hid (IsS Vk36 (.slice (some ⟨Uk30.heap.size, 0, none⟩) 1 1) [(nc, nr)]) := I5.out.below hb
            replace I9 : Hid (IsT Vk36 (.slice (some ⟨Uk31.heap.size, 0, none⟩) 2 2) [nm, vl]) := I9.out.below hb
            have P6 : Hid (IsB Vk36 v6 (headB ac ar sq 3 ds ++ putsL (flatS [(nc, nr)]))) := ho.isB (by have := HLS.out; rw [List.length_append]; omega)
            clear ho hb
            refine wpAnyH_ready (rs := [10]) (by kernel_rfl) (by simp) ?_
            refine AllReadyH.cons (o := ⟨some 68, _, _, _, _, _⟩) rfl (fun K hK => ?_) AllReadyH.nil
            go_simp
            have hsz := hHeld.2.2.size
            refine (putText_any _ _ _ [nm, vl] _ P6.out I9.out HLT.out).mono ?_
            rintro e Vk37 ⟨v10, rfl, ho, hb⟩
            (try go_wp2_with fail)
            refine hK.out _ _ (hHeld.step hb) (fun hHeld2 => ?_)
            clear hK K hHeld
            have hHeld := hHeld2
            clear hHeld2
            (try simp only [Act.put, List.setIfInBounds_toArray, List.set_cons_zero, List.set_cons_succ])
            replace IB : Hid (IsB Vk37 u5 (headB ac ar sq 3 ds)) := IB.out.below hb
            replace I5 : Hid (IsS Vk37 (.slice (some ⟨Uk30.heap.size, 0, none⟩) 1 1) [(nc, nr)]) := I5.out.below hb
            replace I9 : Hid (IsT Vk37 (.slice (some ⟨Uk31.heap.size, 0, none⟩) 2 2) [nm, vl]) := I9.out.below hb
            replace P6 : Hid (IsB Vk37 v6 (headB ac ar sq 3 ds ++ putsL (flatS [(nc, nr)]))) := P6.out.below hb
            have OZ : Hid (OwnB w.heap.size Vk37 v10 (bytesCh ⟨ac, ar, sq, ds, 3, nc, nr, pc, pr, fc, fr, nm, vl⟩)) := by
              have h0 := ho.cut hsz
              rw [HEK.out] at h0
              exact h0
            clear ho hb
            refine wpAnyH_take (i := 11) (oi := ⟨some 5, _, _, _, _, _⟩) (v := ?vk3_3_9_4_10x11) rfl (by kernel_rfl) (by kernel_rfl) (by kernel_rfl) (fun _ _ _ h => h) (Or.inl ⟨by rfl, ?hyk3_3_9_4_10x11⟩) hHeld ?restk3_3_9_4_10x11
            case hyk3_3_9_4_10x11 => (intro w hSw; (try dsimp only at hSw); have hc0 := hSw.1 0 _ rfl; have hc1 := hSw.1 1 _ rfl; have hc2 := hSw.1 2 _ rfl; have hc3 := hSw.1 3 _ rfl; have hc4 := hSw.1 4 _ rfl; have hc5 := hSw.1 5 _ rfl; have hc6 := hSw.1 6 _ rfl; have hc7 := hSw.1 7 _ rfl; have hc8 := hSw.1 8 _ rfl; have hc9 := hSw.1 9 _ rfl; have hc10 := hSw.1 10 _ rfl; have hc11 := hSw.1 11 _ rfl; have hc12 := hSw.1 12 _ rfl; go_simp; try with_reducible rfl)
            simp only [Act.put, List.setIfInBounds_toArray, List.set_cons_zero, List.set_cons_succ]
            refine wpAnyH_done (by kernel_rfl) ?_ _
            have KZ := hHeld
            clear hHeld
            go_wp2
            go_ret2
            exact ⟨_, rfl, OZ.out, KZ.2.2⟩
        · go_simp
          refine hK.out _ _ (hHeld.step ((Below.refl _ _).alloc (Nat.le_refl _) _)) (fun hHeld2 => ?_)
          clear hK K hHeld
          have hHeld := hHeld2
          clear hHeld2
          (try simp only [Act.put, List.setIfInBounds_toArray, List.set_cons_zero, List.set_cons_succ])
          obtain ⟨Uk38, eW⟩ : ∃ X, X = Uk30.alloc (.cells #[.string nm, .string vl] 9) := ⟨_, rfl⟩
          have BW : Hid (Below Uk30.heap.size Uk30 Uk38) := by rw [eW]; exact (Below.refl _ _).alloc (Nat.le_refl _) _
          replace IB : Hid (IsB Uk38 u5 (headB ac ar sq 3 ds)) := IB.out.below BW.out
          have I9 : Hid (IsT Uk38 (.slice (some ⟨Uk30.heap.size, 0, none⟩) 2 2) [nm, vl]) := by rw [eW]; exact IsT.two Uk30 nm vl
          rw [← eW] at hHeld ⊢
          clear eW BW
          refine wpAnyH_ready (rs := [3]) (by kernel_rfl) (by simp) ?_
          refine AllReadyH.cons (o := ⟨some 61, _, _, _, _, _⟩) rfl (fun K hK => ?_) AllReadyH.nil
          go_simp
          refine hK.out _ _ (hHeld.step ((Below.refl _ _).alloc (Nat.le_refl _) _)) (fun hHeld2 => ?_)
          clear hK K hHeld
          have hHeld := hHeld2
          clear hHeld2
          (try simp only [Act.put, List.setIfInBounds_toArray, List.set_cons_zero, List.set_cons_succ])
          obtain ⟨Uk39, eW⟩ : ∃ X, X = Uk38.alloc (.cells #[.int .i64 nc, .int .i64 nr] 55) := ⟨_, rfl⟩
          have BW : Hid (Below Uk38.heap.size Uk38 Uk39) := by rw [eW]; exact (Below.refl _ _).alloc (Nat.le_refl _) _
          replace IB : Hid (IsB Uk39 u5 (headB ac ar sq 3 ds)) := IB.out.below BW.out
          replace I9 : Hid (IsT Uk39 (.slice (some ⟨Uk30.heap.size, 0, none⟩) 2 2) [nm, vl]) := I9.out.below BW.out
          have I5 : Hid (IsS Uk39 (.slice (some ⟨Uk38.heap.size, 0, none⟩) 1 1) [(nc, nr)]) := by rw [eW]; exact IsS.one Uk38 nc nr
          rw [← eW] at hHeld ⊢
          clear eW BW
          refine wpAnyH_ready (rs := [4]) (by kernel_rfl) (by simp) ?_
          refine AllReadyH.cons (o := ⟨some 62, _, _, _, _, _⟩) rfl (fun K hK => ?_) AllReadyH.nil
          go_simp
          refine (putStamps_any _ _ _ [(nc, nr)] _ IB.out I5.out HDS.out HLS.out).mono ?_
          rintro e Vk310 ⟨v6, rfl, ho, hb⟩
          (try go_wp2_with fail)
          refine hK.out _ _ (hHeld.step hb) (fun hHeld2 => ?_)
          clear hK K hHeld
          have hHeld := hHeld2
          clear hHeld2
          (try simp only [Act.put, List.setIfInBounds_toArray, List.set_cons_zero, List.set_cons_succ])
          replace IB : Hid (IsB Vk310 u5 (headB ac ar sq 3 ds)) := IB.out.below hb
          replace I9 : Hid (IsT Vk310 (.slice (some ⟨Uk30.heap.size, 0, none⟩) 2 2) [nm, vl]) := I9.out.below hb
          replace I5 : Hid (IsS Vk310 (.slice (some ⟨Uk38.heap.size, 0, none⟩) 1 1) [(nc, nr)]) := I5.out.below hb
          have P6 : Hid (IsB Vk310 v6 (headB ac ar sq 3 ds ++ putsL (flatS [(nc, nr)]))) := ho.isB (by have := HLS.out; rw [List.length_append]; omega)
          clear ho hb
          refine wpAnyH_ready (rs := [10]) (by kernel_rfl) (by simp) ?_
          refine AllReadyH.cons (o := ⟨some 68, _, _, _, _, _⟩) rfl (fun K hK => ?_) AllReadyH.nil
          go_simp
          have hsz := hHeld.2.2.size
          refine (putText_any _ _ _ [nm, vl] _ P6.out I9.out HLT.out).mono ?_
          rintro e Vk311 ⟨v10, rfl, ho, hb⟩
          (try go_wp2_with fail)
          refine hK.out _ _ (hHeld.step hb) (fun hHeld2 => ?_)
          clear hK K hHeld
          have hHeld := hHeld2
          clear hHeld2
          (try simp only [Act.put, List.setIfInBounds_toArray, List.set_cons_zero, List.set_cons_succ])
          replace IB : Hid (IsB Vk311 u5 (headB ac ar sq 3 ds)) := IB.out.below hb
          replace I9 : Hid (IsT Vk311 (.slice (some ⟨Uk30.heap.size, 0, none⟩) 2 2) [nm, vl]) := I9.out.below hb
          replace I5 : Hid (IsS Vk311 (.slice (some ⟨Uk38.heap.size, 0, none⟩) 1 1) [(nc, nr)]) := I5.out.below hb
          replace P6 : Hid (IsB Vk311 v6 (headB ac ar sq 3 ds ++ putsL (flatS [(nc, nr)]))) := P6.out.below hb
          have OZ : Hid (OwnB w.heap.size Vk311 v10 (bytesCh ⟨ac, ar, sq, ds, 3, nc, nr, pc, pr, fc, fr, nm, vl⟩)) := by
            have h0 := ho.cut hsz
            rw [HEK.out] at h0
            exact h0
          clear ho hb
          refine wpAnyH_take (i := 11) (oi := ⟨some 5, _, _, _, _, _⟩) (v := ?vk3_9_3_4_10x11) rfl (by kernel_rfl) (by kernel_rfl) (by kernel_rfl) (fun _ _ _ h => h) (Or.inl ⟨by rfl, ?hyk3_9_3_4_10x11⟩) hHeld ?restk3_9_3_4_10x11
          case hyk3_9_3_4_10x11 => (intro w hSw; (try dsimp only at hSw); have hc0 := hSw.1 0 _ rfl; have hc1 := hSw.1 1 _ rfl; have hc2 := hSw.1 2 _ rfl; have hc3 := hSw.1 3 _ rfl; have hc4 := hSw.1 4 _ rfl; have hc5 := hSw.1 5 _ rfl; have hc6 := hSw.1 6 _ rfl; have hc7 := hSw.1 7 _ rfl; have hc8 := hSw.1 8 _ rfl; have hc9 := hSw.1 9 _ rfl; have hc10 := hSw.1 10 _ rfl; have hc11 := hSw.1 11 _ rfl; have hc12 := hSw.1 12 _ rfl; go_simp; try with_reducible rfl)
          simp only [Act.put, List.setIfInBounds_toArray, List.set_cons_zero, List.set_cons_succ]
          refine wpAnyH_done (by kernel_rfl) ?_ _
          have KZ := hHeld
          clear hHeld
          go_wp2
          go_ret2
          exact ⟨_, rfl, OZ.out, KZ.2.2⟩
      · skip
        have HDS : Hid (∀ x ∈ [(nc, nr)], x.1 < 9223372036854775808 ∧ x.2 < 9223372036854775808) := fun x hx => by simp only [List.mem_cons, List.not_mem_nil, or_false] at hx; rcases hx with rfl; exact HNL.out
        have HEK : Hid ((headB ac ar sq 4 ds ++ putsL (flatS [(nc, nr)])) ++ textsB [nm] = bytesCh ⟨ac, ar, sq, ds, 4, nc, nr, pc, pr, fc, fr, nm, vl⟩) := by show _ = _; rw [bytes_head]; simp [restP, putsL, flatS, stampP, putI, textsB, textB, textP]
        have HLT : Hid ((headB ac ar sq 4 ds ++ putsL (flatS [(nc, nr)])).length + (textsB [nm]).length ≤ 140737488355328) := by show _ ≤ _; rw [← List.length_append, HEK.out]; omega
        have HLS : Hid ((headB ac ar sq 4 ds).length + (putsL (flatS [(nc, nr)])).length ≤ 140737488355328) := by have h0 := HLT.out; rw [List.length_append] at h0; show _ ≤ _; omega
        obtain ⟨k_0, k_1, k_2, k_3, k_4, k_5, k_6, k_7, k_8, k_9, k_10, k_11, k_12⟩ := KV2.cells13
        go_upto_region 14 with fail
        clear k_0 k_1 k_2 k_3 k_4 k_5 k_6 k_7 k_8 k_9 k_10 k_11 k_12
        have IB : Hid (IsB wc u5 (headB ac ar sq 4 ds)) := O6.out.isB (by omega)
        refine wp_region_held_drew (S := fun W' => KeptC w w.heap.size [.int .i64 ac, .int .i64 ar, .int .i64 sq, .slice a1 ds.length c1, .int .i64 4, .int .i64 nc, .int .i64 nr, .int .i64 pc, .int .i64 pr, .int .i64 fc, .int .i64 fr, .string nm, .string vl] W') (by kernel_rfl) KV2.drew (fun hHeld => ?_)
        obtain ⟨Uk40, eW⟩ : ∃ X, X = wc.drew := ⟨_, rfl⟩
        have IB : Hid (IsB Uk40 u5 (headB ac ar sq 4 ds)) := by rw [eW]; exact IB.out.below ((Below.refl _ _).drew)
        rw [← eW] at hHeld ⊢
        clear eW
        refine wpAnyH_take (i := 0) (oi := ⟨some 71, _, _, _, _, _⟩) (v := ?vk4x0) rfl (by kernel_rfl) (by kernel_rfl) (by kernel_rfl) (fun _ _ _ h => h) (Or.inl ⟨by rfl, ?hyk4x0⟩) hHeld ?restk4x0
        case hyk4x0 => (intro w hSw; (try dsimp only at hSw); have hc0 := hSw.1 0 _ rfl; have hc1 := hSw.1 1 _ rfl; have hc2 := hSw.1 2 _ rfl; have hc3 := hSw.1 3 _ rfl; have hc4 := hSw.1 4 _ rfl; have hc5 := hSw.1 5 _ rfl; have hc6 := hSw.1 6 _ rfl; have hc7 := hSw.1 7 _ rfl; have hc8 := hSw.1 8 _ rfl; have hc9 := hSw.1 9 _ rfl; have hc10 := hSw.1 10 _ rfl; have hc11 := hSw.1 11 _ rfl; have hc12 := hSw.1 12 _ rfl; go_simp; try with_reducible rfl)
        simp only [Act.put, List.setIfInBounds_toArray, List.set_cons_zero, List.set_cons_succ]
        refine wpAnyH_take (i := 1) (oi := ⟨some 72, _, _, _, _, _⟩) (v := ?vk4x1) rfl (by kernel_rfl) (by kernel_rfl) (by kernel_rfl) (fun _ _ _ h => h) (Or.inl ⟨by rfl, ?hyk4x1⟩) hHeld ?restk4x1
        case hyk4x1 => (intro w hSw; (try dsimp only at hSw); have hc0 := hSw.1 0 _ rfl; have hc1 := hSw.1 1 _ rfl; have hc2 := hSw.1 2 _ rfl; have hc3 := hSw.1 3 _ rfl; have hc4 := hSw.1 4 _ rfl; have hc5 := hSw.1 5 _ rfl; have hc6 := hSw.1 6 _ rfl; have hc7 := hSw.1 7 _ rfl; have hc8 := hSw.1 8 _ rfl; have hc9 := hSw.1 9 _ rfl; have hc10 := hSw.1 10 _ rfl; have hc11 := hSw.1 11 _ rfl; have hc12 := hSw.1 12 _ rfl; go_simp; try with_reducible rfl)
        simp only [Act.put, List.setIfInBounds_toArray, List.set_cons_zero, List.set_cons_succ]
        refine wpAnyH_take (i := 2) (oi := ⟨some 73, _, _, _, _, _⟩) (v := ?vk4x2) rfl (by kernel_rfl) (by kernel_rfl) (by kernel_rfl) (fun _ _ _ h => h) (Or.inl ⟨by rfl, ?hyk4x2⟩) hHeld ?restk4x2
        case hyk4x2 => (intro w hSw; (try dsimp only at hSw); have hc0 := hSw.1 0 _ rfl; have hc1 := hSw.1 1 _ rfl; have hc2 := hSw.1 2 _ rfl; have hc3 := hSw.1 3 _ rfl; have hc4 := hSw.1 4 _ rfl; have hc5 := hSw.1 5 _ rfl; have hc6 := hSw.1 6 _ rfl; have hc7 := hSw.1 7 _ rfl; have hc8 := hSw.1 8 _ rfl; have hc9 := hSw.1 9 _ rfl; have hc10 := hSw.1 10 _ rfl; have hc11 := hSw.1 11 _ rfl; have hc12 := hSw.1 12 _ rfl; go_simp; try with_reducible rfl)
        simp only [Act.put, List.setIfInBounds_toArray, List.set_cons_zero, List.set_cons_succ]
        refine wpAnyH_take (i := 5) (oi := ⟨some 76, _, _, _, _, _⟩) (v := ?vk4x5) rfl (by kernel_rfl) (by kernel_rfl) (by kernel_rfl) (fun _ _ _ h => h) (Or.inl ⟨by rfl, ?hyk4x5⟩) hHeld ?restk4x5
        case hyk4x5 => (intro w hSw; (try dsimp only at hSw); have hc0 := hSw.1 0 _ rfl; have hc1 := hSw.1 1 _ rfl; have hc2 := hSw.1 2 _ rfl; have hc3 := hSw.1 3 _ rfl; have hc4 := hSw.1 4 _ rfl; have hc5 := hSw.1 5 _ rfl; have hc6 := hSw.1 6 _ rfl; have hc7 := hSw.1 7 _ rfl; have hc8 := hSw.1 8 _ rfl; have hc9 := hSw.1 9 _ rfl; have hc10 := hSw.1 10 _ rfl; have hc11 := hSw.1 11 _ rfl; have hc12 := hSw.1 12 _ rfl; go_simp; try with_reducible rfl)
        simp only [Act.put, List.setIfInBounds_toArray, List.set_cons_zero, List.set_cons_succ]
        refine wpAnyH_take (i := 6) (oi := ⟨some 77, _, _, _, _, _⟩) (v := ?vk4x6) rfl (by kernel_rfl) (by kernel_rfl) (by kernel_rfl) (fun _ _ _ h => h) (Or.inl ⟨by rfl, ?hyk4x6⟩) hHeld ?restk4x6
        case hyk4x6 => (intro w hSw; (try dsimp only at hSw); have hc0 := hSw.1 0 _ rfl; have hc1 := hSw.1 1 _ rfl; have hc2 := hSw.1 2 _ rfl; have hc3 := hSw.1 3 _ rfl; have hc4 := hSw.1 4 _ rfl; have hc5 := hSw.1 5 _ rfl; have hc6 := hSw.1 6 _ rfl; have hc7 := hSw.1 7 _ rfl; have hc8 := hSw.1 8 _ rfl; have hc9 := hSw.1 9 _ rfl; have hc10 := hSw.1 10 _ rfl; have hc11 := hSw.1 11 _ rfl; have hc12 := hSw.1 12 _ rfl; go_simp; try with_reducible rfl)
        simp only [Act.put, List.setIfInBounds_toArray, List.set_cons_zero, List.set_cons_succ]
        refine wpAnyH_ready (rs := [3, 7]) (by kernel_rfl) (by simp) ?_
        refine AllReadyH.cons (o := ⟨some 74, _, _, _, _, _⟩) rfl (fun K hK => ?_) (AllReadyH.cons (o := ⟨some 78, _, _, _, _, _⟩) rfl (fun K hK => ?_) AllReadyH.nil)
        · go_simp
          refine hK.out _ _ (hHeld.step ((Below.refl _ _).alloc (Nat.le_refl _) _)) (fun hHeld2 => ?_)
          clear hK K hHeld
          have hHeld := hHeld2
          clear hHeld2
          (try simp only [Act.put, List.setIfInBounds_toArray, List.set_cons_zero, List.set_cons_succ])
          obtain ⟨Uk41, eW⟩ : ∃ X, X = Uk40.alloc (.cells #[.int .i64 nc, .int .i64 nr] 55) := ⟨_, rfl⟩
          have BW : Hid (Below Uk40.heap.size Uk40 Uk41) := by rw [eW]; exact (Below.refl _ _).alloc (Nat.le_refl _) _
          replace IB : Hid (IsB Uk41 u5 (headB ac ar sq 4 ds)) := IB.out.below BW.out
          have I5 : Hid (IsS Uk41 (.slice (some ⟨Uk40.heap.size, 0, none⟩) 1 1) [(nc, nr)]) := by rw [eW]; exact IsS.one Uk40 nc nr
          rw [← eW] at hHeld ⊢
          clear eW BW
          refine wpAnyH_ready (rs := [4, 7]) (by kernel_rfl) (by simp) ?_
          refine AllReadyH.cons (o := ⟨some 75, _, _, _, _, _⟩) rfl (fun K hK => ?_) (AllReadyH.cons (o := ⟨some 78, _, _, _, _, _⟩) rfl (fun K hK => ?_) AllReadyH.nil)
          · go_simp
            refine (putStamps_any _ _ _ [(nc, nr)] _ IB.out I5.out HDS.out HLS.out).mono ?_
            rintro e Vk42 ⟨v6, rfl, ho, hb⟩
            (try go_wp2_with fail)
            refine hK.out _ _ (hHeld.step hb) (fun hHeld2 => ?_)
            clear hK K hHeld
            have hHeld := hHeld2
            clear hHeld2
            (try simp only [Act.put, List.setIfInBounds_toArray, List.set_cons_zero, List.set_cons_succ])
            replace IB : Hid (IsB Vk42 u5 (headB ac ar sq 4 ds)) := IB.out.below hb
            replace I5 : Hid (IsS Vk42 (.slice (some ⟨Uk40.heap.size, 0, none⟩) 1 1) [(nc, nr)]) := I5.out.below hb
            have P6 : Hid (IsB Vk42 v6 (headB ac ar sq 4 ds ++ putsL (flatS [(nc, nr)]))) := ho.isB (by have := HLS.out; rw [List.length_append]; omega)
            clear ho hb
            refine wpAnyH_ready (rs := [7]) (by kernel_rfl) (by simp) ?_
            refine AllReadyH.cons (o := ⟨some 78, _, _, _, _, _⟩) rfl (fun K hK => ?_) AllReadyH.nil
            go_simp
            refine hK.out _ _ (hHeld.step ((Below.refl _ _).alloc (Nat.le_refl _) _)) (fun hHeld2 => ?_)
            clear hK K hHeld
            have hHeld := hHeld2
            clear hHeld2
            (try simp only [Act.put, List.setIfInBounds_toArray, List.set_cons_zero, List.set_cons_succ])
            obtain ⟨Uk43, eW⟩ : ∃ X, X = Vk42.alloc (.cells #[.string nm] 9) := ⟨_, rfl⟩
            have BW : Hid (Below Vk42.heap.size Vk42 Uk43) := by rw [eW]; exact (Below.refl _ _).alloc (Nat.le_refl _) _
            replace IB : Hid (IsB Uk43 u5 (headB ac ar sq 4 ds)) := IB.out.below BW.out
            replace I5 : Hid (IsS Uk43 (.slice (some ⟨Uk40.heap.size, 0, none⟩) 1 1) [(nc, nr)]) := I5.out.below BW.out
            replace P6 : Hid (IsB Uk43 v6 (headB ac ar sq 4 ds ++ putsL (flatS [(nc, nr)]))) := P6.out.below BW.out
            have I9 : Hid (IsT Uk43 (.slice (some ⟨Vk42.heap.size, 0, none⟩) 1 1) [nm]) := by rw [eW]; exact IsT.one Vk42 nm
            rw [← eW] at hHeld ⊢
            clear eW BW
            refine wpAnyH_ready (rs := [8]) (by kernel_rfl) (by simp) ?_
            refine AllReadyH.cons (o := ⟨some 79, _, _, _, _, _⟩) rfl (fun K hK => ?_) AllReadyH.nil
            go_simp
            have hsz := hHeld.2.2.size
            refine (putText_any _ _ _ [nm] _ P6.out I9.out HLT.out).mono ?_
            rintro e Vk44 ⟨v10, rfl, ho, hb⟩
            (try go_wp2_with fail)
            refine hK.out _ _ (hHeld.step hb) (fun hHeld2 => ?_)
            clear hK K hHeld
            have hHeld := hHeld2
            clear hHeld2
            (try simp only [Act.put, List.setIfInBounds_toArray, List.set_cons_zero, List.set_cons_succ])
            replace IB : Hid (IsB Vk44 u5 (headB ac ar sq 4 ds)) := IB.out.below hb
            replace I5 : Hid (IsS Vk44 (.slice (some ⟨Uk40.heap.size, 0, none⟩) 1 1) [(nc, nr)]) := I5.out.below hb
            replace P6 : Hid (IsB Vk44 v6 (headB ac ar sq 4 ds ++ putsL (flatS [(nc, nr)]))) := P6.out.below hb
            replace I9 : Hid (IsT Vk44 (.slice (some ⟨Vk42.heap.size, 0, none⟩) 1 1) [nm]) := I9.out.below hb
            have OZ : Hid (OwnB w.heap.size Vk44 v10 (bytesCh ⟨ac, ar, sq, ds, 4, nc, nr, pc, pr, fc, fr, nm, vl⟩)) := by
              have h0 := ho.cut hsz
              rw [HEK.out] at h0
              exact h0
            clear ho hb
            refine wpAnyH_take (i := 9) (oi := ⟨some 5, _, _, _, _, _⟩) (v := ?vk4_3_4_7_8x9) rfl (by kernel_rfl) (by kernel_rfl) (by kernel_rfl) (fun _ _ _ h => h) (Or.inl ⟨by rfl, ?hyk4_3_4_7_8x9⟩) hHeld ?restk4_3_4_7_8x9
            case hyk4_3_4_7_8x9 => (intro w hSw; (try dsimp only at hSw); have hc0 := hSw.1 0 _ rfl; have hc1 := hSw.1 1 _ rfl; have hc2 := hSw.1 2 _ rfl; have hc3 := hSw.1 3 _ rfl; have hc4 := hSw.1 4 _ rfl; have hc5 := hSw.1 5 _ rfl; have hc6 := hSw.1 6 _ rfl; have hc7 := hSw.1 7 _ rfl; have hc8 := hSw.1 8 _ rfl; have hc9 := hSw.1 9 _ rfl; have hc10 := hSw.1 10 _ rfl; have hc11 := hSw.1 11 _ rfl; have hc12 := hSw.1 12 _ rfl; go_simp; try with_reducible rfl)
            simp only [Act.put, List.setIfInBounds_toArray, List.set_cons_zero, List.set_cons_succ]
            refine wpAnyH_done (by kernel_rfl) ?_ _
            have KZ := hHeld
            clear hHeld
            go_wp2
            go_ret2
            exact ⟨_, rfl, OZ.out, KZ.2.2⟩
          · go_simp
            refine hK.out _ _ (hHeld.step ((Below.refl _ _).alloc (Nat.le_refl _) _)) (fun hHeld2 => ?_)
            clear hK K hHeld
            have hHeld := hHeld2
            clear hHeld2
            (try simp only [Act.put, List.setIfInBounds_toArray, List.set_cons_zero, List.set_cons_succ])
            obtain ⟨Uk45, eW⟩ : ∃ X, X = Uk41.alloc (.cells #[.string nm] 9) := ⟨_, rfl⟩
            have BW : Hid (Below Uk41.heap.size Uk41 Uk45) := by rw [eW]; exact (Below.refl _ _).alloc (Nat.le_refl _) _
            replace IB : Hid (IsB Uk45 u5 (headB ac ar sq 4 ds)) := IB.out.below BW.out
            replace I5 : Hid (IsS Uk45 (.slice (some ⟨Uk40.heap.size, 0, none⟩) 1 1) [(nc, nr)]) := I5.out.below BW.out
            have I9 : Hid (IsT Uk45 (.slice (some ⟨Uk41.heap.size, 0, none⟩) 1 1) [nm]) := by rw [eW]; exact IsT.one Uk41 nm
            rw [← eW] at hHeld ⊢
            clear eW BW
            refine wpAnyH_ready (rs := [4]) (by kernel_rfl) (by simp) ?_
            refine AllReadyH.cons (o := ⟨some 75, _, _, _, _, _⟩) rfl (fun K hK => ?_) AllReadyH.nil
            go_simp
            refine (putStamps_any _ _ _ [(nc, nr)] _ IB.out I5.out HDS.out HLS.out).mono ?_
            rintro e Vk46 ⟨v6, rfl, ho, hb⟩
            (try go_wp2_with fail)
            refine hK.out _ _ (hHeld.step hb) (fun hHeld2 => ?_)
            clear hK K hHeld
            have hHeld := hHeld2
            clear hHeld2
            (try simp only [Act.put, List.setIfInBounds_toArray, List.set_cons_zero, List.set_cons_succ])
            replace IB : Hid (IsB Vk46 u5 (headB ac ar sq 4 ds)) := IB.out.below hb
            replace I5 : Hid (IsS Vk46 (.slice (some ⟨Uk40.heap.size, 0, none⟩) 1 1) [(nc, nr)]) := I5.out.below hb
            replace I9 : Hid (IsT Vk46 (.slice (some ⟨Uk41.heap.size, 0, none⟩) 1 1) [nm]) := I9.out.below hb
            have P6 : Hid (IsB Vk46 v6 (headB ac ar sq 4 ds ++ putsL (flatS [(nc, nr)]))) := ho.isB (by have := HLS.out; rw [List.length_append]; omega)
            clear ho hb
            refine wpAnyH_ready (rs := [8]) (by kernel_rfl) (by simp) ?_
            refine AllReadyH.cons (o := ⟨some 79, _, _, _, _, _⟩) rfl (fun K hK => ?_) AllReadyH.nil
            go_simp
            have hsz := hHeld.2.2.size
            refine (putText_any _ _ _ [nm] _ P6.out I9.out HLT.out).mono ?_
            rintro e Vk47 ⟨v10, rfl, ho, hb⟩
            (try go_wp2_with fail)
            refine hK.out _ _ (hHeld.step hb) (fun hHeld2 => ?_)
            clear hK K hHeld
            have hHeld := hHeld2
            clear hHeld2
            (try simp only [Act.put, List.setIfInBounds_toArray, List.set_cons_zero, List.set_cons_succ])
            replace IB : Hid (IsB Vk47 u5 (headB ac ar sq 4 ds)) := IB.out.below hb
            replace I5 : Hid (IsS Vk47 (.slice (some ⟨Uk40.heap.size, 0, none⟩) 1 1) [(nc, nr)]) := I5.out.below hb
            replace I9 : Hid (IsT Vk47 (.slice (some ⟨Uk41.heap.size, 0, none⟩) 1 1) [nm]) := I9.out.below hb
            replace P6 : Hid (IsB Vk47 v6 (headB ac ar sq 4 ds ++ putsL (flatS [(nc, nr)]))) := P6.out.below hb
            have OZ : Hid (OwnB w.heap.size Vk47 v10 (bytesCh ⟨ac, ar, sq, ds, 4, nc, nr, pc, pr, fc, fr, nm, vl⟩)) := by
              have h0 := ho.cut hsz
              rw [HEK.out] at h0
              exact h0
            clear ho hb
            refine wpAnyH_take (i := 9) (oi := ⟨some 5, _, _, _, _, _⟩) (v := ?vk4_3_7_4_8x9) rfl (by kernel_rfl) (by kernel_rfl) (by kernel_rfl) (fun _ _ _ h => h) (Or.inl ⟨by rfl, ?hyk4_3_7_4_8x9⟩) hHeld ?restk4_3_7_4_8x9
            case hyk4_3_7_4_8x9 => (intro w hSw; (try dsimp only at hSw); have hc0 := hSw.1 0 _ rfl; have hc1 := hSw.1 1 _ rfl; have hc2 := hSw.1 2 _ rfl; have hc3 := hSw.1 3 _ rfl; have hc4 := hSw.1 4 _ rfl; have hc5 := hSw.1 5 _ rfl; have hc6 := hSw.1 6 _ rfl; have hc7 := hSw.1 7 _ rfl; have hc8 := hSw.1 8 _ rfl; have hc9 := hSw.1 9 _ rfl; have hc10 := hSw.1 10 _ rfl; have hc11 := hSw.1 11 _ rfl; have hc12 := hSw.1 12 _ rfl; go_simp; try with_reducible rfl)
            simp only [Act.put, List.setIfInBounds_toArray, List.set_cons_zero, List.set_cons_succ]
            refine wpAnyH_done (by kernel_rfl) ?_ _
            have KZ := hHeld
            clear hHeld
            go_wp2
            go_ret2
            exact ⟨_, rfl, OZ.out, KZ.2.2⟩
        · go_simp
          refine hK.out _ _ (hHeld.step ((Below.refl _ _).alloc (Nat.le_refl _) _)) (fun hHeld2 => ?_)
          clear hK K hHeld
          have hHeld := hHeld2
          clear hHeld2
          (try simp only [Act.put, List.setIfInBounds_toArray, List.set_cons_zero, List.set_cons_succ])
          obtain ⟨Uk48, eW⟩ : ∃ X, X = Uk40.alloc (.cells #[.string nm] 9) := ⟨_, rfl⟩
          have BW : Hid (Below Uk40.heap.size Uk40 Uk48) := by rw [eW]; exact (Below.refl _ _).alloc (Nat.le_refl _) _
          replace IB : Hid (IsB Uk48 u5 (headB ac ar sq 4 ds)) := IB.out.below BW.out
          have I9 : Hid (IsT Uk48 (.slice (some ⟨Uk40.heap.size, 0, none⟩) 1 1) [nm]) := by rw [eW]; exact IsT.one Uk40 nm
          rw [← eW] at hHeld ⊢
          clear eW BW
          refine wpAnyH_ready (rs := [3]) (by kernel_rfl) (by simp) ?_
          refine AllReadyH.cons (o := ⟨some 74, _, _, _, _, _⟩) rfl (fun K hK => ?_) AllReadyH.nil
          go_simp
          refine hK.out _ _ (hHeld.step ((Below.refl _ _).alloc (Nat.le_refl _) _)) (fun hHeld2 => ?_)
          clear hK K hHeld
          have hHeld := hHeld2
          clear hHeld2
          (try simp only [Act.put, List.setIfInBounds_toArray, List.set_cons_zero, List.set_cons_succ])
          obtain ⟨Uk49, eW⟩ : ∃ X, X = Uk48.alloc (.cells #[.int .i64 nc, .int .i64 nr] 55) := ⟨_, rfl⟩
          have BW : Hid (Below Uk48.heap.size Uk48 Uk49) := by rw [eW]; exact (Below.refl _ _).alloc (Nat.le_refl _) _
          replace IB : Hid (IsB Uk49 u5 (headB ac ar sq 4 ds)) := IB.out.below BW.out
          replace I9 : Hid (IsT Uk49 (.slice (some ⟨Uk40.heap.size, 0, none⟩) 1 1) [nm]) := I9.out.below BW.out
          have I5 : Hid (IsS Uk49 (.slice (some ⟨Uk48.heap.size, 0, none⟩) 1 1) [(nc, nr)]) := by rw [eW]; exact IsS.one Uk48 nc nr
          rw [← eW] at hHeld ⊢
          clear eW BW
          refine wpAnyH_ready (rs := [4]) (by kernel_rfl) (by simp) ?_
          refine AllReadyH.cons (o := ⟨some 75, _, _, _, _, _⟩) rfl (fun K hK => ?_) AllReadyH.nil
          go_simp
          refine (putStamps_any _ _ _ [(nc, nr)] _ IB.out I5.out HDS.out HLS.out).mono ?_
          rintro e Vk410 ⟨v6, rfl, ho, hb⟩
          (try go_wp2_with fail)
          refine hK.out _ _ (hHeld.step hb) (fun hHeld2 => ?_)
          clear hK K hHeld
          have hHeld := hHeld2
          clear hHeld2
          (try simp only [Act.put, List.setIfInBounds_toArray, List.set_cons_zero, List.set_cons_succ])
          replace IB : Hid (IsB Vk410 u5 (headB ac ar sq 4 ds)) := IB.out.below hb
          replace I9 : Hid (IsT Vk410 (.slice (some ⟨Uk40.heap.size, 0, none⟩) 1 1) [nm]) := I9.out.below hb
          replace I5 : Hid (IsS Vk410 (.slice (some ⟨Uk48.heap.size, 0, none⟩) 1 1) [(nc, nr)]) := I5.out.below hb
          have P6 : Hid (IsB Vk410 v6 (headB ac ar sq 4 ds ++ putsL (flatS [(nc, nr)]))) := ho.isB (by have := HLS.out; rw [List.length_append]; omega)
          clear ho hb
          refine wpAnyH_ready (rs := [8]) (by kernel_rfl) (by simp) ?_
          refine AllReadyH.cons (o := ⟨some 79, _, _, _, _, _⟩) rfl (fun K hK => ?_) AllReadyH.nil
          go_simp
          have hsz := hHeld.2.2.size
          refine (putText_any _ _ _ [nm] _ P6.out I9.out HLT.out).mono ?_
          rintro e Vk411 ⟨v10, rfl, ho, hb⟩
          (try go_wp2_with fail)
          refine hK.out _ _ (hHeld.step hb) (fun hHeld2 => ?_)
          clear hK K hHeld
          have hHeld := hHeld2
          clear hHeld2
          (try simp only [Act.put, List.setIfInBounds_toArray, List.set_cons_zero, List.set_cons_succ])
          replace IB : Hid (IsB Vk411 u5 (headB ac ar sq 4 ds)) := IB.out.below hb
          replace I9 : Hid (IsT Vk411 (.slice (some ⟨Uk40.heap.size, 0, none⟩) 1 1) [nm]) := I9.out.below hb
          replace I5 : Hid (IsS Vk411 (.slice (some ⟨Uk48.heap.size, 0, none⟩) 1 1) [(nc, nr)]) := I5.out.below hb
          replace P6 : Hid (IsB Vk411 v6 (headB ac ar sq 4 ds ++ putsL (flatS [(nc, nr)]))) := P6.out.below hb
          have OZ : Hid (OwnB w.heap.size Vk411 v10 (bytesCh ⟨ac, ar, sq, ds, 4, nc, nr, pc, pr, fc, fr, nm, vl⟩)) := by
            have h0 := ho.cut hsz
            rw [HEK.out] at h0
            exact h0
          clear ho hb
          refine wpAnyH_take (i := 9) (oi := ⟨some 5, _, _, _, _, _⟩) (v := ?vk4_7_3_4_8x9) rfl (by kernel_rfl) (by kernel_rfl) (by kernel_rfl) (fun _ _ _ h => h) (Or.inl ⟨by rfl, ?hyk4_7_3_4_8x9⟩) hHeld ?restk4_7_3_4_8x9
          case hyk4_7_3_4_8x9 => (intro w hSw; (try dsimp only at hSw); have hc0 := hSw.1 0 _ rfl; have hc1 := hSw.1 1 _ rfl; have hc2 := hSw.1 2 _ rfl; have hc3 := hSw.1 3 _ rfl; have hc4 := hSw.1 4 _ rfl; have hc5 := hSw.1 5 _ rfl; have hc6 := hSw.1 6 _ rfl; have hc7 := hSw.1 7 _ rfl; have hc8 := hSw.1 8 _ rfl; have hc9 := hSw.1 9 _ rfl; have hc10 := hSw.1 10 _ rfl; have hc11 := hSw.1 11 _ rfl; have hc12 := hSw.1 12 _ rfl; go_simp; try with_reducible rfl)
          simp only [Act.put, List.setIfInBounds_toArray, List.set_cons_zero, List.set_cons_succ]
          refine wpAnyH_done (by kernel_rfl) ?_ _
          have KZ := hHeld
          clear hHeld
          go_wp2
          go_ret2
          exact ⟨_, rfl, OZ.out, KZ.2.2⟩
      · skip
        have HDS : Hid (∀ x ∈ [(nc, nr)], x.1 < 9223372036854775808 ∧ x.2 < 9223372036854775808) := fun x hx => by simp only [List.mem_cons, List.not_mem_nil, or_false] at hx; rcases hx with rfl; exact HNL.out
        have HEK : Hid ((headB ac ar sq 5 ds ++ putsL (flatS [(nc, nr)])) ++ textsB [vl] = bytesCh ⟨ac, ar, sq, ds, 5, nc, nr, pc, pr, fc, fr, nm, vl⟩) := by show _ = _; rw [bytes_head]; simp [restP, putsL, flatS, stampP, putI, textsB, textB, textP]
        have HLT : Hid ((headB ac ar sq 5 ds ++ putsL (flatS [(nc, nr)])).length + (textsB [vl]).length ≤ 140737488355328) := by show _ ≤ _; rw [← List.length_append, HEK.out]; omega
        have HLS : Hid ((headB ac ar sq 5 ds).length + (putsL (flatS [(nc, nr)])).length ≤ 140737488355328) := by have h0 := HLT.out; rw [List.length_append] at h0; show _ ≤ _; omega
        obtain ⟨k_0, k_1, k_2, k_3, k_4, k_5, k_6, k_7, k_8, k_9, k_10, k_11, k_12⟩ := KV2.cells13
        go_upto_region 16 with fail
        clear k_0 k_1 k_2 k_3 k_4 k_5 k_6 k_7 k_8 k_9 k_10 k_11 k_12
        have IB : Hid (IsB wc u5 (headB ac ar sq 5 ds)) := O6.out.isB (by omega)
        refine wp_region_held_drew (S := fun W' => KeptC w w.heap.size [.int .i64 ac, .int .i64 ar, .int .i64 sq, .slice a1 ds.length c1, .int .i64 5, .int .i64 nc, .int .i64 nr, .int .i64 pc, .int .i64 pr, .int .i64 fc, .int .i64 fr, .string nm, .string vl] W') (by kernel_rfl) KV2.drew (fun hHeld => ?_)
        obtain ⟨Uk50, eW⟩ : ∃ X, X = wc.drew := ⟨_, rfl⟩
        have IB : Hid (IsB Uk50 u5 (headB ac ar sq 5 ds)) := by rw [eW]; exact IB.out.below ((Below.refl _ _).drew)
        rw [← eW] at hHeld ⊢
        clear eW
        refine wpAnyH_take (i := 0) (oi := ⟨some 82, _, _, _, _, _⟩) (v := ?vk5x0) rfl (by kernel_rfl) (by kernel_rfl) (by kernel_rfl) (fun _ _ _ h => h) (Or.inl ⟨by rfl, ?hyk5x0⟩) hHeld ?restk5x0
        case hyk5x0 => (intro w hSw; (try dsimp only at hSw); have hc0 := hSw.1 0 _ rfl; have hc1 := hSw.1 1 _ rfl; have hc2 := hSw.1 2 _ rfl; have hc3 := hSw.1 3 _ rfl; have hc4 := hSw.1 4 _ rfl; have hc5 := hSw.1 5 _ rfl; have hc6 := hSw.1 6 _ rfl; have hc7 := hSw.1 7 _ rfl; have hc8 := hSw.1 8 _ rfl; have hc9 := hSw.1 9 _ rfl; have hc10 := hSw.1 10 _ rfl; have hc11 := hSw.1 11 _ rfl; have hc12 := hSw.1 12 _ rfl; go_simp; try with_reducible rfl)
        simp only [Act.put, List.setIfInBounds_toArray, List.set_cons_zero, List.set_cons_succ]
        refine wpAnyH_take (i := 1) (oi := ⟨some 83, _, _, _, _, _⟩) (v := ?vk5x1) rfl (by kernel_rfl) (by kernel_rfl) (by kernel_rfl) (fun _ _ _ h => h) (Or.inl ⟨by rfl, ?hyk5x1⟩) hHeld ?restk5x1
        case hyk5x1 => (intro w hSw; (try dsimp only at hSw); have hc0 := hSw.1 0 _ rfl; have hc1 := hSw.1 1 _ rfl; have hc2 := hSw.1 2 _ rfl; have hc3 := hSw.1 3 _ rfl; have hc4 := hSw.1 4 _ rfl; have hc5 := hSw.1 5 _ rfl; have hc6 := hSw.1 6 _ rfl; have hc7 := hSw.1 7 _ rfl; have hc8 := hSw.1 8 _ rfl; have hc9 := hSw.1 9 _ rfl; have hc10 := hSw.1 10 _ rfl; have hc11 := hSw.1 11 _ rfl; have hc12 := hSw.1 12 _ rfl; go_simp; try with_reducible rfl)
        simp only [Act.put, List.setIfInBounds_toArray, List.set_cons_zero, List.set_cons_succ]
        refine wpAnyH_take (i := 2) (oi := ⟨some 84, _, _, _, _, _⟩) (v := ?vk5x2) rfl (by kernel_rfl) (by kernel_rfl) (by kernel_rfl) (fun _ _ _ h => h) (Or.inl ⟨by rfl, ?hyk5x2⟩) hHeld ?restk5x2
        case hyk5x2 => (intro w hSw; (try dsimp only at hSw); have hc0 := hSw.1 0 _ rfl; have hc1 := hSw.1 1 _ rfl; have hc2 := hSw.1 2 _ rfl; have hc3 := hSw.1 3 _ rfl; have hc4 := hSw.1 4 _ rfl; have hc5 := hSw.1 5 _ rfl; have hc6 := hSw.1 6 _ rfl; have hc7 := hSw.1 7 _ rfl; have hc8 := hSw.1 8 _ rfl; have hc9 := hSw.1 9 _ rfl; have hc10 := hSw.1 10 _ rfl; have hc11 := hSw.1 11 _ rfl; have hc12 := hSw.1 12 _ rfl; go_simp; try with_reducible rfl)
        simp only [Act.put, List.setIfInBounds_toArray, List.set_cons_zero, List.set_cons_succ]
        refine wpAnyH_take (i := 5) (oi := ⟨some 87, _, _, _, _, _⟩) (v := ?vk5x5) rfl (by kernel_rfl) (by kernel_rfl) (by kernel_rfl) (fun _ _ _ h => h) (Or.inl ⟨by rfl, ?hyk5x5⟩) hHeld ?restk5x5
        case hyk5x5 => (intro w hSw; (try dsimp only at hSw); have hc0 := hSw.1 0 _ rfl; have hc1 := hSw.1 1 _ rfl; have hc2 := hSw.1 2 _ rfl; have hc3 := hSw.1 3 _ rfl; have hc4 := hSw.1 4 _ rfl; have hc5 := hSw.1 5 _ rfl; have hc6 := hSw.1 6 _ rfl; have hc7 := hSw.1 7 _ rfl; have hc8 := hSw.1 8 _ rfl; have hc9 := hSw.1 9 _ rfl; have hc10 := hSw.1 10 _ rfl; have hc11 := hSw.1 11 _ rfl; have hc12 := hSw.1 12 _ rfl; go_simp; try with_reducible rfl)
        simp only [Act.put, List.setIfInBounds_toArray, List.set_cons_zero, List.set_cons_succ]
        refine wpAnyH_take (i := 6) (oi := ⟨some 88, _, _, _, _, _⟩) (v := ?vk5x6) rfl (by kernel_rfl) (by kernel_rfl) (by kernel_rfl) (fun _ _ _ h => h) (Or.inl ⟨by rfl, ?hyk5x6⟩) hHeld ?restk5x6
        case hyk5x6 => (intro w hSw; (try dsimp only at hSw); have hc0 := hSw.1 0 _ rfl; have hc1 := hSw.1 1 _ rfl; have hc2 := hSw.1 2 _ rfl; have hc3 := hSw.1 3 _ rfl; have hc4 := hSw.1 4 _ rfl; have hc5 := hSw.1 5 _ rfl; have hc6 := hSw.1 6 _ rfl; have hc7 := hSw.1 7 _ rfl; have hc8 := hSw.1 8 _ rfl; have hc9 := hSw.1 9 _ rfl; have hc10 := hSw.1 10 _ rfl; have hc11 := hSw.1 11 _ rfl; have hc12 := hSw.1 12 _ rfl; go_simp; try with_reducible rfl)
        simp only [Act.put, List.setIfInBounds_toArray, List.set_cons_zero, List.set_cons_succ]
        refine wpAnyH_ready (rs := [3, 7]) (by kernel_rfl) (by simp) ?_
        refine AllReadyH.cons (o := ⟨some 85, _, _, _, _, _⟩) rfl (fun K hK => ?_) (AllReadyH.cons (o := ⟨some 89, _, _, _, _, _⟩) rfl (fun K hK => ?_) AllReadyH.nil)
        · go_simp
          refine hK.out _ _ (hHeld.step ((Below.refl _ _).alloc (Nat.le_refl _) _)) (fun hHeld2 => ?_)
          clear hK K hHeld
          have hHeld := hHeld2
          clear hHeld2
          (try simp only [Act.put, List.setIfInBounds_toArray, List.set_cons_zero, List.set_cons_succ])
          obtain ⟨Uk51, eW⟩ : ∃ X, X = Uk50.alloc (.cells #[.int .i64 nc, .int .i64 nr] 55) := ⟨_, rfl⟩
          have BW : Hid (Below Uk50.heap.size Uk50 Uk51) := by rw [eW]; exact (Below.refl _ _).alloc (Nat.le_refl _) _
          replace IB : Hid (IsB Uk51 u5 (headB ac ar sq 5 ds)) := IB.out.below BW.out
          have I5 : Hid (IsS Uk51 (.slice (some ⟨Uk50.heap.size, 0, none⟩) 1 1) [(nc, nr)]) := by rw [eW]; exact IsS.one Uk50 nc nr
          rw [← eW] at hHeld ⊢
          clear eW BW
          refine wpAnyH_ready (rs := [4, 7]) (by kernel_rfl) (by simp) ?_
          refine AllReadyH.cons (o := ⟨some 86, _, _, _, _, _⟩) rfl (fun K hK => ?_) (AllReadyH.cons (o := ⟨some 89, _, _, _, _, _⟩) rfl (fun K hK => ?_) AllReadyH.nil)
          · go_simp
            refine (putStamps_any _ _ _ [(nc, nr)] _ IB.out I5.out HDS.out HLS.out).mono ?_
            rintro e Vk52 ⟨v6, rfl, ho, hb⟩
            (try go_wp2_with fail)
            refine hK.out _ _ (hHeld.step hb) (fun hHeld2 => ?_)
            clear hK K hHeld
            have hHeld := hHeld2
            clear hHeld2
            (try simp only [Act.put, List.setIfInBounds_toArray, List.set_cons_zero, List.set_cons_succ])
            replace IB : Hid (IsB Vk52 u5 (headB ac ar sq 5 ds)) := IB.out.below hb
            replace I5 : Hid (IsS Vk52 (.slice (some ⟨Uk50.heap.size, 0, none⟩) 1 1) [(nc, nr)]) := I5.out.below hb
            have P6 : Hid (IsB Vk52 v6 (headB ac ar sq 5 ds ++ putsL (flatS [(nc, nr)]))) := ho.isB (by have := HLS.out; rw [List.length_append]; omega)
            clear ho hb
            refine wpAnyH_ready (rs := [7]) (by kernel_rfl) (by simp) ?_
            refine AllReadyH.cons (o := ⟨some 89, _, _, _, _, _⟩) rfl (fun K hK => ?_) AllReadyH.nil
            go_simp
            refine hK.out _ _ (hHeld.step ((Below.refl _ _).alloc (Nat.le_refl _) _)) (fun hHeld2 => ?_)
            clear hK K hHeld
            have hHeld := hHeld2
            clear hHeld2
            (try simp only [Act.put, List.setIfInBounds_toArray, List.set_cons_zero, List.set_cons_succ])
            obtain ⟨Uk53, eW⟩ : ∃ X, X = Vk52.alloc (.cells #[.string vl] 9) := ⟨_, rfl⟩
            have BW : Hid (Below Vk52.heap.size Vk52 Uk53) := by rw [eW]; exact (Below.refl _ _).alloc (Nat.le_refl _) _
            replace IB : Hid (IsB Uk53 u5 (headB ac ar sq 5 ds)) := IB.out.below BW.out
            replace I5 : Hid (IsS Uk53 (.slice (some ⟨Uk50.heap.size, 0, none⟩) 1 1) [(nc, nr)]) := I5.out.below BW.out
            replace P6 : Hid (IsB Uk53 v6 (headB ac ar sq 5 ds ++ putsL (flatS [(nc, nr)]))) := P6.out.below BW.out
            have I9 : Hid (IsT Uk53 (.slice (some ⟨Vk52.heap.size, 0, none⟩) 1 1) [vl]) := by rw [eW]; exact IsT.one Vk52 vl
            rw [← eW] at hHeld ⊢
            clear eW BW
            refine wpAnyH_ready (rs := [8]) (by kernel_rfl) (by simp) ?_
            refine AllReadyH.cons (o := ⟨some 90, _, _, _, _, _⟩) rfl (fun K hK => ?_) AllReadyH.nil
            go_simp
            have hsz := hHeld.2.2.size
            refine (putText_any _ _ _ [vl] _ P6.out I9.out HLT.out).mono ?_
            rintro e Vk54 ⟨v10, rfl, ho, hb⟩
            (try go_wp2_with fail)
            refine hK.out _ _ (hHeld.step hb) (fun hHeld2 => ?_)
            clear hK K hHeld
            have hHeld := hHeld2
            clear hHeld2
            (try simp only [Act.put, List.setIfInBounds_toArray, List.set_cons_zero, List.set_cons_succ])
            replace IB : Hid (IsB Vk54 u5 (headB ac ar sq 5 ds)) := IB.out.below hb
            replace I5 : Hid (IsS Vk54 (.slice (some ⟨Uk50.heap.size, 0, none⟩) 1 1) [(nc, nr)]) := I5.out.below hb
            replace P6 : Hid (IsB Vk54 v6 (headB ac ar sq 5 ds ++ putsL (flatS [(nc, nr)]))) := P6.out.below hb
            replace I9 : Hid (IsT Vk54 (.slice (some ⟨Vk52.heap.size, 0, none⟩) 1 1) [vl]) := I9.out.below hb
            have OZ : Hid (OwnB w.heap.size Vk54 v10 (bytesCh ⟨ac, ar, sq, ds, 5, nc, nr, pc, pr, fc, fr, nm, vl⟩)) := by
              have h0 := ho.cut hsz
              rw [HEK.out] at h0
              exact h0
            clear ho hb
            refine wpAnyH_take (i := 9) (oi := ⟨some 5, _, _, _, _, _⟩) (v := ?vk5_3_4_7_8x9) rfl (by kernel_rfl) (by kernel_rfl) (by kernel_rfl) (fun _ _ _ h => h) (Or.inl ⟨by rfl, ?hyk5_3_4_7_8x9⟩) hHeld ?restk5_3_4_7_8x9
            case hyk5_3_4_7_8x9 => (intro w hSw; (try dsimp only at hSw); have hc0 := hSw.1 0 _ rfl; have hc1 := hSw.1 1 _ rfl; have hc2 := hSw.1 2 _ rfl; have hc3 := hSw.1 3 _ rfl; have hc4 := hSw.1 4 _ rfl; have hc5 := hSw.1 5 _ rfl; have hc6 := hSw.1 6 _ rfl; have hc7 := hSw.1 7 _ rfl; have hc8 := hSw.1 8 _ rfl; have hc9 := hSw.1 9 _ rfl; have hc10 := hSw.1 10 _ rfl; have hc11 := hSw.1 11 _ rfl; have hc12 := hSw.1 12 _ rfl; go_simp; try with_reducible rfl)
            simp only [Act.put, List.setIfInBounds_toArray, List.set_cons_zero, List.set_cons_succ]
            refine wpAnyH_done (by kernel_rfl) ?_ _
            have KZ := hHeld
            clear hHeld
            go_wp2
            go_ret2
            exact ⟨_, rfl, OZ.out, KZ.2.2⟩
          · go_simp
            refine hK.out _ _ (hHeld.step ((Below.refl _ _).alloc (Nat.le_refl _) _)) (fun hHeld2 => ?_)
            clear hK K hHeld
            have hHeld := hHeld2
            clear hHeld2
            (try simp only [Act.put, List.setIfInBounds_toArray, List.set_cons_zero, List.set_cons_succ])
            obtain ⟨Uk55, eW⟩ : ∃ X, X = Uk51.alloc (.cells #[.string vl] 9) := ⟨_, rfl⟩
            have BW : Hid (Below Uk51.heap.size Uk51 Uk55) := by rw [eW]; exact (Below.refl _ _).alloc (Nat.le_refl _) _
            replace IB : Hid (IsB Uk55 u5 (headB ac ar sq 5 ds)) := IB.out.below BW.out
            replace I5 : Hid (IsS Uk55 (.slice (some ⟨Uk50.heap.size, 0, none⟩) 1 1) [(nc, nr)]) := I5.out.below BW.out
            have I9 : Hid (IsT Uk55 (.slice (some ⟨Uk51.heap.size, 0, none⟩) 1 1) [vl]) := by rw [eW]; exact IsT.one Uk51 vl
            rw [← eW] at hHeld ⊢
            clear eW BW
            refine wpAnyH_ready (rs := [4]) (by kernel_rfl) (by simp) ?_
            refine AllReadyH.cons (o := ⟨some 86, _, _, _, _, _⟩) rfl (fun K hK => ?_) AllReadyH.nil
            go_simp
            refine (putStamps_any _ _ _ [(nc, nr)] _ IB.out I5.out HDS.out HLS.out).mono ?_
            rintro e Vk56 ⟨v6, rfl, ho, hb⟩
            (try go_wp2_with fail)
            refine hK.out _ _ (hHeld.step hb) (fun hHeld2 => ?_)
            clear hK K hHeld
            have hHeld := hHeld2
            clear hHeld2
            (try simp only [Act.put, List.setIfInBounds_toArray, List.set_cons_zero, List.set_cons_succ])
            replace IB : Hid (IsB Vk56 u5 (headB ac ar sq 5 ds)) := IB.out.below hb
            replace I5 : Hid (IsS Vk56 (.slice (some ⟨Uk50.heap.size, 0, none⟩) 1 1) [(nc, nr)]) := I5.out.below hb
            replace I9 : Hid (IsT Vk56 (.slice (some ⟨Uk51.heap.size, 0, none⟩) 1 1) [vl]) := I9.out.below hb
            have P6 : Hid (IsB Vk56 v6 (headB ac ar sq 5 ds ++ putsL (flatS [(nc, nr)]))) := ho.isB (by have := HLS.out; rw [List.length_append]; omega)
            clear ho hb
            refine wpAnyH_ready (rs := [8]) (by kernel_rfl) (by simp) ?_
            refine AllReadyH.cons (o := ⟨some 90, _, _, _, _, _⟩) rfl (fun K hK => ?_) AllReadyH.nil
            go_simp
            have hsz := hHeld.2.2.size
            refine (putText_any _ _ _ [vl] _ P6.out I9.out HLT.out).mono ?_
            rintro e Vk57 ⟨v10, rfl, ho, hb⟩
            (try go_wp2_with fail)
            refine hK.out _ _ (hHeld.step hb) (fun hHeld2 => ?_)
            clear hK K hHeld
            have hHeld := hHeld2
            clear hHeld2
            (try simp only [Act.put, List.setIfInBounds_toArray, List.set_cons_zero, List.set_cons_succ])
            replace IB : Hid (IsB Vk57 u5 (headB ac ar sq 5 ds)) := IB.out.below hb
            replace I5 : Hid (IsS Vk57 (.slice (some ⟨Uk50.heap.size, 0, none⟩) 1 1) [(nc, nr)]) := I5.out.below hb
            replace I9 : Hid (IsT Vk57 (.slice (some ⟨Uk51.heap.size, 0, none⟩) 1 1) [vl]) := I9.out.below hb
            replace P6 : Hid (IsB Vk57 v6 (headB ac ar sq 5 ds ++ putsL (flatS [(nc, nr)]))) := P6.out.below hb
            have OZ : Hid (OwnB w.heap.size Vk57 v10 (bytesCh ⟨ac, ar, sq, ds, 5, nc, nr, pc, pr, fc, fr, nm, vl⟩)) := by
              have h0 := ho.cut hsz
              rw [HEK.out] at h0
              exact h0
            clear ho hb
            refine wpAnyH_take (i := 9) (oi := ⟨some 5, _, _, _, _, _⟩) (v := ?vk5_3_7_4_8x9) rfl (by kernel_rfl) (by kernel_rfl) (by kernel_rfl) (fun _ _ _ h => h) (Or.inl ⟨by rfl, ?hyk5_3_7_4_8x9⟩) hHeld ?restk5_3_7_4_8x9
            case hyk5_3_7_4_8x9 => (intro w hSw; (try dsimp only at hSw); have hc0 := hSw.1 0 _ rfl; have hc1 := hSw.1 1 _ rfl; have hc2 := hSw.1 2 _ rfl; have hc3 := hSw.1 3 _ rfl; have hc4 := hSw.1 4 _ rfl; have hc5 := hSw.1 5 _ rfl; have hc6 := hSw.1 6 _ rfl; have hc7 := hSw.1 7 _ rfl; have hc8 := hSw.1 8 _ rfl; have hc9 := hSw.1 9 _ rfl; have hc10 := hSw.1 10 _ rfl; have hc11 := hSw.1 11 _ rfl; have hc12 := hSw.1 12 _ rfl; go_simp; try with_reducible rfl)
            simp only [Act.put, List.setIfInBounds_toArray, List.set_cons_zero, List.set_cons_succ]
            refine wpAnyH_done (by kernel_rfl) ?_ _
            have KZ := hHeld
            clear hHeld
            go_wp2
            go_ret2
            exact ⟨_, rfl, OZ.out, KZ.2.2⟩
        · go_simp
          refine hK.out _ _ (hHeld.step ((Below.refl _ _).alloc (Nat.le_refl _) _)) (fun hHeld2 => ?_)
          clear hK K hHeld
          have hHeld := hHeld2
          clear hHeld2
          (try simp only [Act.put, List.setIfInBounds_toArray, List.set_cons_zero, List.set_cons_succ])
          obtain ⟨Uk58, eW⟩ : ∃ X, X = Uk50.alloc (.cells #[.string vl] 9) := ⟨_, rfl⟩
          have BW : Hid (Below Uk50.heap.size Uk50 Uk58) := by rw [eW]; exact (Below.refl _ _).alloc (Nat.le_refl _) _
          replace IB : Hid (IsB Uk58 u5 (headB ac ar sq 5 ds)) := IB.out.below BW.out
          have I9 : Hid (IsT Uk58 (.slice (some ⟨Uk50.heap.size, 0, none⟩) 1 1) [vl]) := by rw [eW]; exact IsT.one Uk50 vl
          rw [← eW] at hHeld ⊢
          clear eW BW
          refine wpAnyH_ready (rs := [3]) (by kernel_rfl) (by simp) ?_
          refine AllReadyH.cons (o := ⟨some 85, _, _, _, _, _⟩) rfl (fun K hK => ?_) AllReadyH.nil
          go_simp
          refine hK.out _ _ (hHeld.step ((Below.refl _ _).alloc (Nat.le_refl _) _)) (fun hHeld2 => ?_)
          clear hK K hHeld
          have hHeld := hHeld2
          clear hHeld2
          (try simp only [Act.put, List.setIfInBounds_toArray, List.set_cons_zero, List.set_cons_succ])
          obtain ⟨Uk59, eW⟩ : ∃ X, X = Uk58.alloc (.cells #[.int .i64 nc, .int .i64 nr] 55) := ⟨_, rfl⟩
          have BW : Hid (Below Uk58.heap.size Uk58 Uk59) := by rw [eW]; exact (Below.refl _ _).alloc (Nat.le_refl _) _
          replace IB : Hid (IsB Uk59 u5 (headB ac ar sq 5 ds)) := IB.out.below BW.out
          replace I9 : Hid (IsT Uk59 (.slice (some ⟨Uk50.heap.size, 0, none⟩) 1 1) [vl]) := I9.out.below BW.out
          have I5 : Hid (IsS Uk59 (.slice (some ⟨Uk58.heap.size, 0, none⟩) 1 1) [(nc, nr)]) := by rw [eW]; exact IsS.one Uk58 nc nr
          rw [← eW] at hHeld ⊢
          clear eW BW
          refine wpAnyH_ready (rs := [4]) (by kernel_rfl) (by simp) ?_
          refine AllReadyH.cons (o := ⟨some 86, _, _, _, _, _⟩) rfl (fun K hK => ?_) AllReadyH.nil
          go_simp
          refine (putStamps_any _ _ _ [(nc, nr)] _ IB.out I5.out HDS.out HLS.out).mono ?_
          rintro e Vk510 ⟨v6, rfl, ho, hb⟩
          (try go_wp2_with fail)
          refine hK.out _ _ (hHeld.step hb) (fun hHeld2 => ?_)
          clear hK K hHeld
          have hHeld := hHeld2
          clear hHeld2
          (try simp only [Act.put, List.setIfInBounds_toArray, List.set_cons_zero, List.set_cons_succ])
          replace IB : Hid (IsB Vk510 u5 (headB ac ar sq 5 ds)) := IB.out.below hb
          replace I9 : Hid (IsT Vk510 (.slice (some ⟨Uk50.heap.size, 0, none⟩) 1 1) [vl]) := I9.out.below hb
          replace I5 : Hid (IsS Vk510 (.slice (some ⟨Uk58.heap.size, 0, none⟩) 1 1) [(nc, nr)]) := I5.out.below hb
          have P6 : Hid (IsB Vk510 v6 (headB ac ar sq 5 ds ++ putsL (flatS [(nc, nr)]))) := ho.isB (by have := HLS.out; rw [List.length_append]; omega)
          clear ho hb
          refine wpAnyH_ready (rs := [8]) (by kernel_rfl) (by simp) ?_
          refine AllReadyH.cons (o := ⟨some 90, _, _, _, _, _⟩) rfl (fun K hK => ?_) AllReadyH.nil
          go_simp
          have hsz := hHeld.2.2.size
          refine (putText_any _ _ _ [vl] _ P6.out I9.out HLT.out).mono ?_
          rintro e Vk511 ⟨v10, rfl, ho, hb⟩
          (try go_wp2_with fail)
          refine hK.out _ _ (hHeld.step hb) (fun hHeld2 => ?_)
          clear hK K hHeld
          have hHeld := hHeld2
          clear hHeld2
          (try simp only [Act.put, List.setIfInBounds_toArray, List.set_cons_zero, List.set_cons_succ])
          replace IB : Hid (IsB Vk511 u5 (headB ac ar sq 5 ds)) := IB.out.below hb
          replace I9 : Hid (IsT Vk511 (.slice (some ⟨Uk50.heap.size, 0, none⟩) 1 1) [vl]) := I9.out.below hb
          replace I5 : Hid (IsS Vk511 (.slice (some ⟨Uk58.heap.size, 0, none⟩) 1 1) [(nc, nr)]) := I5.out.below hb
          replace P6 : Hid (IsB Vk511 v6 (headB ac ar sq 5 ds ++ putsL (flatS [(nc, nr)]))) := P6.out.below hb
          have OZ : Hid (OwnB w.heap.size Vk511 v10 (bytesCh ⟨ac, ar, sq, ds, 5, nc, nr, pc, pr, fc, fr, nm, vl⟩)) := by
            have h0 := ho.cut hsz
            rw [HEK.out] at h0
            exact h0
          clear ho hb
          refine wpAnyH_take (i := 9) (oi := ⟨some 5, _, _, _, _, _⟩) (v := ?vk5_7_3_4_8x9) rfl (by kernel_rfl) (by kernel_rfl) (by kernel_rfl) (fun _ _ _ h => h) (Or.inl ⟨by rfl, ?hyk5_7_3_4_8x9⟩) hHeld ?restk5_7_3_4_8x9
          case hyk5_7_3_4_8x9 => (intro w hSw; (try dsimp only at hSw); have hc0 := hSw.1 0 _ rfl; have hc1 := hSw.1 1 _ rfl; have hc2 := hSw.1 2 _ rfl; have hc3 := hSw.1 3 _ rfl; have hc4 := hSw.1 4 _ rfl; have hc5 := hSw.1 5 _ rfl; have hc6 := hSw.1 6 _ rfl; have hc7 := hSw.1 7 _ rfl; have hc8 := hSw.1 8 _ rfl; have hc9 := hSw.1 9 _ rfl; have hc10 := hSw.1 10 _ rfl; have hc11 := hSw.1 11 _ rfl; have hc12 := hSw.1 12 _ rfl; go_simp; try with_reducible rfl)
          simp only [Act.put, List.setIfInBounds_toArray, List.set_cons_zero, List.set_cons_succ]
          refine wpAnyH_done (by kernel_rfl) ?_ _
          have KZ := hHeld
          clear hHeld
          go_wp2
          go_ret2
          exact ⟨_, rfl, OZ.out, KZ.2.2⟩

end Go.Proofs.YtlioiblpcpaejaaGreat
