/- OctetPuts: numbers and texts are laid in their one form behind what is there, in new memory. -/
import Derived.Test.YtfjejobakknipaaOcSt
import Derived.Test.YtfjejobakknipaaOcH
namespace Go.Proofs.Ytfjejobakknipaa
open Go.RowKit
set_option linter.unusedVariables false

/-- A slice of these bytes that lies in another block than g. -/
def IsBn (g : Option Nat) (w : World) (v : Value) (p : List UInt8) : Prop :=
  ∃ (a : Option Addr) (cap : Nat), v = .slice a p.length cap ∧ p.length ≤ cap ∧ p.length ≤ 140737488355328 ∧ (p = [] ∨ ∃ b o, a = some ⟨b, o, none⟩ ∧ some b ≠ g ∧ BytesAt w b o p)
theorem IsBn.isB {g : Option Nat} {w : World} {v : Value} {p : List UInt8} (h : IsBn g w v p) : IsB w v p := by
  obtain ⟨a, cap, e, hc, hl, h⟩ := h
  exact ⟨a, cap, e, hc, hl, h.imp id fun ⟨b, o, e2, _, hr⟩ => ⟨b, o, e2, hr⟩⟩
theorem IsBn.below {g : Option Nat} {w w' : World} {v : Value} {p : List UInt8} (h : IsBn g w v p) (hb : Below w.heap.size w w') : IsBn g w' v p := by
  obtain ⟨a, cap, e, hc, hl, h⟩ := h
  exact ⟨a, cap, e, hc, hl, h.imp id fun ⟨b, o, e2, hn, hr⟩ => ⟨b, o, e2, hn, hr.below hb⟩⟩
theorem IsBn.grown {g : Option Nat} {w w' : World} {v : Value} {p : List UInt8} (h : IsBn g w v p) (hb : w.grownBy w' g) : IsBn g w' v p := by
  obtain ⟨a, cap, e, hc, hl, h⟩ := h
  refine ⟨a, cap, e, hc, hl, ?_⟩
  by_cases hp : p = []
  · exact .inl hp
  · obtain ⟨b, o, e2, hn, hr⟩ := h.resolve_left hp
    exact .inr ⟨b, o, e2, hn, hr.block (hb.block b (hr.lt hp) hn)⟩
theorem IsB.apart {w w' : World} {v u : Value} {p q : List UInt8} (h : IsB w v p) (hb : Below w.heap.size w w') (ho : OwnB w.heap.size w' u q) : IsBn u.ownBlock w' v p := by
  obtain ⟨a, cap, e, hc, hl, h⟩ := h
  refine ⟨a, cap, e, hc, hl, ?_⟩
  by_cases hp : p = []
  · exact .inl hp
  · obtain ⟨b, o, e2, hr⟩ := h.resolve_left hp
    refine .inr ⟨b, o, e2, fun e => ?_, hr.below hb⟩
    have h1 := ho.block b e.symm
    have h2 := hr.lt hp
    omega
theorem OwnB.apart {B : Nat} {w : World} {v : Value} {p : List UInt8} (h : OwnB B w v p) (hl : p.length ≤ 140737488355328) (g : Option Nat) (hg : ∀ k, g = some k → k < B) : IsBn g w v p := by
  obtain ⟨a, cap, e, hc, r⟩ := h.rows
  exact ⟨a, cap, e, hc, hl, r.imp id fun ⟨b, o, e2, hB, _, hr⟩ => ⟨b, o, e2, fun e3 => by have := hg b e3.symm; omega, hr⟩⟩
theorem IsBn.form {g : Option Nat} {w : World} {v : Value} {p : List UInt8} (h : IsBn g w v p) : ∃ a cap, v = .slice a p.length cap := by obtain ⟨a, cap, e, _⟩ := h; exact ⟨a, cap, e⟩
theorem flip_eq (c : UInt8) : (255 : Int) - (c.toNat : Int) = ((UInt8.ofNat (255 - c.toNat)).toNat : Int) := by
  have := UInt8.toNat_lt c
  rw [toNat_of (by omega)]
  omega
/-- One byte of an own row is written over. -/
theorem OwnB.write {B : Nat} {w : World} {g cap : Nat} {D : List UInt8} (h : OwnB B w (.slice (some ⟨g, 0, none⟩) D.length cap) D) (j : Nat) (c : UInt8) :
    OwnB B (w.setCell ⟨g, j, none⟩ (.int .u8 (c.toNat : Int))) (.slice (some ⟨g, 0, none⟩) D.length cap) (D.set j c) ∧ w.grownBy (w.setCell ⟨g, j, none⟩ (.int .u8 (c.toNat : Int))) (some g) := by
  obtain ⟨h1, h2⟩ := World.ownsRow.stored h j (.int .u8 (c.toNat : Int))
  refine ⟨?_, h2⟩
  unfold OwnB
  rw [List.length_set]
  have e : cellsB (D.set j c) = (cellsB D).set j (.int .u8 (c.toNat : Int)) := by simp [cellsB, List.map_set]
  rw [e]
  exact h1
theorem OwnB.cell {B : Nat} {w : World} {g cap n : Nat} {D : List UInt8} (h : OwnB B w (.slice (some ⟨g, 0, none⟩) n cap) D) (hn : n = D.length) {j : Nat} (hj : j < D.length) :
    w.cell? ⟨g, j, none⟩ = some (.int .u8 (D[j].toNat : Int)) ∧ w.frozen? ⟨g, j, none⟩ = false := by
  subst hn
  refine ⟨?_, World.ownsRow.frozenAt h j⟩
  rw [World.ownsRow.cellAt h j (by omega)]
  simp [cellsB, hj]

set_option maxRecDepth 100000 in
set_option maxHeartbeats 4000000 in
theorem octetPuts_walk (vb : Value) (p : List UInt8) (vl : Value) (d : List Int) (vs : Value) (ss : List ByteArray) (w : World) (h0 : IsB w vb p) (h1 : IsI w vl d) (hd : ∀ x ∈ d, x < 9223372036854775808) (h2 : IsT w vs ss) (hl : p.length + (putsL d).length + (textsL ss).length + 64 ≤ 140737488355328) :
    Calls Try.prog 3 #[vb, vl, vs] w fun e w' => e = .returned (.bool true) ∧ Below w.heap.size w w' := by
  obtain ⟨i0, hi, hz0, hz1, hz2⟩ := info_parts infoByte
  have HV : Hid (IsB w vb p) := h0
  have HI : Hid (IsI w vl d) := h1
  have HT : Hid (IsT w vs ss) := h2
  obtain ⟨a0, c0, rfl, hc0, hl0, r0⟩ := h0
  obtain ⟨a1, c1, rfl, hc1, hl1, r1⟩ := h1
  obtain ⟨a2, c2, rfl, hc2, hl2, r2⟩ := h2
  have HR1 : Hid (d = [] ∨ ∃ b o, a1 = some ⟨b, o, none⟩ ∧ IntsAt w b o d) := r1
  have HR2 : Hid (ss = [] ∨ ∃ b o, a2 = some ⟨b, o, none⟩ ∧ TextsAt w b o ss) := r2
  have HD : Hid (∀ x ∈ d, x < 9223372036854775808) := hd
  obtain ⟨P1, hP1⟩ : ∃ P, P = p ++ putsL d := ⟨_, rfl⟩
  have HP1 : Hid (P1 = p ++ putsL d) := hP1
  have hP1l : P1.length = p.length + (putsL d).length := by rw [hP1, List.length_append]
  have HL : Hid (p.length + (putsL d).length + (textsL ss).length + 64 ≤ 140737488355328) := hl
  have hl3 : P1.length ≤ 140737488355328 := by omega
  have HL1 : Hid (P1.length + (textsL ss).length ≤ 140737488355328) := by show _ ≤ _; omega
  have hl4 : p.length + 64 ≤ 140737488355328 := by omega
  clear r0 r1 r2 hd hP1 hP1l hl
  go_enter Try.func3, Try.ntmps3
  go_wp2_with (at_builtin; refine wpList_copyE rfl _ _ rfl _ p rfl rfl HV.out ?_; intro v1 w1 ho1 hb1)
  have HW1 : Hid (IsB w1 v1 (p ++ putsL (d.take 0))) := by show IsB _ _ _; rw [List.take_zero]; simpa [putsL] using ho1.isB (by omega)
  have HB1 : Hid (Below w.heap.size w w1) := hb1
  clear ho1 hb1
  go_loopw [7, 8] (fun u i wr => ∃ k : Nat, k ≤ d.length ∧ i = .int .i64 (k : Int) ∧ Hid (IsB wr u (p ++ putsL (d.take k))) ∧ Hid (Below w.heap.size w wr)) (fun _ i _ => d.length - (intOf i).toNat)
  case atStart => exact ⟨0, Nat.zero_le _, rfl, HW1, HB1⟩
  case round =>
    obtain ⟨k, hk, rfl, HW, HB⟩ := hrel
    have hsz := HB.out.size
    by_cases hlt : k < d.length
    · obtain ⟨b1, o1, rfl, g1⟩ := HR1.out.resolve_left (by intro e; subst e; simp at hlt)
      have HX : Hid (∀ W, Below w.heap.size w W → W.cell? ⟨b1, o1 + k, none⟩ = some (.int .i64 d[k])) := fun W hb => (g1.below hb) k hlt
      have x1 := HX.out _ HB.out
      clear g1
      have hx := HD.out d[k] (List.getElem_mem hlt)
      have k1 : (k : Int) < (d.length : Int) := by omega
      have k0 : (0 : Int) ≤ (k : Int) := by omega
      have HTS : Hid (p ++ putsL (d.take (k + 1)) = (p ++ putsL (d.take k)) ++ putL d[k].toNat) := by show _ = _; rw [putsL_snoc hlt]; simp
      have HLen : Hid ((p ++ putsL (d.take k)).length + (putL d[k].toNat).length ≤ 140737488355328) := by
        have h1 := congrArg List.length HTS.out
        have h2 := putsL_take d (k + 1)
        have h3 := HL.out
        show _ ≤ _
        simp only [List.length_append] at h1 ⊢
        omega
      generalize d[k] = x at *
      have HXB : Hid (x < 9223372036854775808) := hx
      have hl9 := putL_len9 (n := x.toNat) (by omega)
      clear hx
      go_wp2_with fail
      refine (refPut_any _ _ x _ HXB.out HW.out HLen.out).mono ?_
      rintro e w2 ⟨v2, rfl, ho2, hb2⟩
      have HW2 : Hid (IsB w2 v2 (p ++ putsL (d.take (k + 1)))) := by show IsB _ _ _; rw [HTS.out]; exact ho2.isB (by rw [List.length_append]; exact HLen.out)
      have HB2 : Hid (Below w.heap.size w w2) := HB.out.trans (hb2.mono hsz)
      clear ho2 hb2 x1
      go_wp2_with fail
      have qz : (((putL x.toNat).length : Int) == ((putL x.toNat).length : Int)) = true := by simp
      refine wp_region_held_drew (S := fun W' => W'.cell? ⟨b1, o1 + k, none⟩ = some (.int .i64 x) ∧ Below w.heap.size w W' ∧ IsB W' v2 (p ++ putsL (d.take (k + 1)))) (by kernel_rfl) ⟨HX.out _ HB2.out.drew, HB2.out.drew, HW2.out.drewN 1⟩ (fun hHeld => ?_)
      refine wpAnyH_take (i := 0) (oi := ⟨some 29, _, _, _, _, _⟩) (v := ?va0) rfl (by kernel_rfl) (by kernel_rfl) (by kernel_rfl) (fun _ _ _ h => h) (Or.inl ⟨by rfl, ?hya0⟩) hHeld ?resta0
      case hya0 => (intro w hSw; (try dsimp only at hSw); go_simp; try with_reducible rfl)
      simp only [Act.put, List.setIfInBounds_toArray, List.set_cons_zero, List.set_cons_succ]
      refine wpAnyH_take (i := 1) (oi := ⟨some 30, _, _, _, _, _⟩) (v := ?va1) rfl (by kernel_rfl) (by kernel_rfl) (by kernel_rfl) (fun _ _ _ h => h) (Or.inl ⟨by rfl, ?hya1⟩) hHeld ?resta1
      case hya1 => (intro w hSw; (try dsimp only at hSw); go_simp; try with_reducible rfl)
      simp only [Act.put, List.setIfInBounds_toArray, List.set_cons_zero, List.set_cons_succ]
      refine wpAnyH_take (i := 2) (oi := ⟨some 31, _, _, _, _, _⟩) (v := ?va2) rfl (by kernel_rfl) (by kernel_rfl) (by kernel_rfl) (fun _ _ _ h => h) (Or.inl ⟨by rfl, ?hya2⟩) hHeld ?resta2
      case hya2 => (intro w hSw; (try dsimp only at hSw); go_simp; try with_reducible rfl)
      simp only [Act.put, List.setIfInBounds_toArray, List.set_cons_zero, List.set_cons_succ]
      refine wpAnyH_take (i := 3) (oi := ⟨some 32, _, _, _, _, _⟩) (v := ?va3) rfl (by kernel_rfl) (by kernel_rfl) (by kernel_rfl) (fun _ _ _ h => h) (Or.inl ⟨by rfl, ?hya3⟩) hHeld ?resta3
      case hya3 => (intro w hSw; (try dsimp only at hSw); go_simp; try with_reducible rfl)
      simp only [Act.put, List.setIfInBounds_toArray, List.set_cons_zero, List.set_cons_succ]
      refine wpAnyH_take (i := 5) (oi := ⟨some 34, _, _, _, _, _⟩) (v := ?va5) rfl (by kernel_rfl) (by kernel_rfl) (by kernel_rfl) (fun _ _ _ h => h) (Or.inl ⟨by rfl, ?hya5⟩) hHeld ?resta5
      case hya5 => (intro w hSw; (try dsimp only at hSw); go_simp; try with_reducible rfl)
      simp only [Act.put, List.setIfInBounds_toArray, List.set_cons_zero, List.set_cons_succ]
      refine wpAnyH_take (i := 6) (oi := ⟨some 35, _, _, _, _, _⟩) (v := ?va6) rfl (by kernel_rfl) (by kernel_rfl) (by kernel_rfl) (fun _ _ _ h => h) (Or.inl ⟨by rfl, ?hya6⟩) hHeld ?resta6
      case hya6 => (intro w hSw; (try dsimp only at hSw); go_simp; try with_reducible rfl)
      simp only [Act.put, List.setIfInBounds_toArray, List.set_cons_zero, List.set_cons_succ]
      refine wpAnyH_take (i := 7) (oi := ⟨some 36, _, _, _, _, _⟩) (v := ?va7) rfl (by kernel_rfl) (by kernel_rfl) (by kernel_rfl) (fun _ _ _ h => h) (Or.inl ⟨by rfl, ?hya7⟩) hHeld ?resta7
      case hya7 => (intro w hSw; (try dsimp only at hSw); go_simp; try with_reducible rfl)
      simp only [Act.put, List.setIfInBounds_toArray, List.set_cons_zero, List.set_cons_succ]
      refine wpAnyH_take (i := 8) (oi := ⟨some 37, _, _, _, _, _⟩) (v := ?va8) rfl (by kernel_rfl) (by kernel_rfl) (by kernel_rfl) (fun _ _ _ h => h) (Or.inl ⟨by rfl, ?hya8⟩) hHeld ?resta8
      case hya8 => (intro w hSw; (try dsimp only at hSw); go_simp; try with_reducible rfl)
      simp only [Act.put, List.setIfInBounds_toArray, List.set_cons_zero, List.set_cons_succ]
      refine wpAnyH_ready (rs := [4]) (by kernel_rfl) (by simp) ?_
      refine AllReadyH.cons (o := ⟨some 33, _, _, _, _, _⟩) rfl (fun K hK => ?_) AllReadyH.nil
      go_simp
      refine (size_any _ _ HXB.out).mono ?_
      rintro e w' ⟨rfl, hw⟩; replace hw := hw.symm; subst hw
      (try go_wp2_with fail)
      refine hK.out _ _ (hHeld) (fun hHeld2 => ?_)
      clear hK K hHeld
      have hHeld := hHeld2
      clear hHeld2
      (try simp only [Act.put, List.setIfInBounds_toArray, List.set_cons_zero, List.set_cons_succ])
      refine wpAnyH_ready (rs := [9]) (by kernel_rfl) (by simp) ?_
      refine AllReadyH.cons (o := ⟨some 38, _, _, _, _, _⟩) rfl (fun K hK => ?_) AllReadyH.nil
      go_simp
      refine (refPut_any _ [] x _ HXB.out (IsB.non _) (by simp; omega)).mono ?_
      rintro e w' ⟨v9, rfl, ho9, hb⟩; rw [List.nil_append] at ho9; obtain ⟨a9, c9, rfl⟩ := ho9.form
      (try go_wp2_with fail)
      refine hK.out _ _ (⟨HX.out _ (below_keep hHeld.2.1 hb hHeld.2.1.size), below_keep hHeld.2.1 hb hHeld.2.1.size, hHeld.2.2.below hb⟩) (fun hHeld2 => ?_)
      clear hK K hHeld
      have hHeld := hHeld2
      clear hHeld2
      (try simp only [Act.put, List.setIfInBounds_toArray, List.set_cons_zero, List.set_cons_succ])
      refine wpAnyH_take (i := 10) (oi := ⟨some 39, _, _, _, _, _⟩) (v := ?va10) rfl (by kernel_rfl) (by kernel_rfl) (by kernel_rfl) (fun _ _ _ h => h) (Or.inl ⟨by rfl, ?hya10⟩) hHeld ?resta10
      case hya10 => (intro w hSw; (try dsimp only at hSw); go_simp; try with_reducible rfl)
      simp only [Act.put, List.setIfInBounds_toArray, List.set_cons_zero, List.set_cons_succ]
      refine wpAnyH_take (i := 11) (oi := ⟨some 40, _, _, _, _, _⟩) (v := ?va11) rfl (by kernel_rfl) (by kernel_rfl) (by kernel_rfl) (fun _ _ _ h => h) (Or.inl ⟨by rfl, ?hya11⟩) hHeld ?resta11
      case hya11 => (intro w hSw; (try dsimp only at hSw); go_simp; try with_reducible rfl)
      simp only [Act.put, List.setIfInBounds_toArray, List.set_cons_zero, List.set_cons_succ]
      refine wpAnyH_done (by kernel_rfl) ?_ _
      have HWn : Hid (IsB w' v2 (p ++ putsL (d.take (k + 1)))) := hHeld.2.2
      have HBn : Hid (Below w.heap.size w w') := hHeld.2.1
      clear hHeld ho9 hb
      go_wp2
      go_roundw
      case rel => exact ⟨k + 1, by omega, by go_num, HWn, HBn⟩
      case measure => simp [intOf]; omega
    · obtain rfl : k = d.length := by omega
      have HTK : Hid (d.take d.length = d) := List.take_length
      have HW3 : Hid (IsB wr u7 P1) := by rw [HP1.out, ← HTK.out]; exact HW.out
      have HB3 : Hid (Below w.heap.size w wr) := HB.out
      clear HW HB HB1 HW1 HTK
      generalize wr = w3 at *
      obtain ⟨aw, cw, hvw⟩ := HW3.out.form
      subst hvw
      have HSW : Hid (w.heap.size ≤ w3.heap.size) := hsz
      go_wp2_with (first
        | (at_make; refine wpList_make_own _ rfl _ _ 22 rfl w3.heap.size 5 i0 (.int .u8 0) 1 Try.underlying22 hi hz0 hz1 .i64 .i64 _ (p.length + 64) rfl rfl (by omega) (by rw [hz2]; omega) (by unfold maxLen; omega) (Nat.le_refl _) ?_; intro w4 hown4 hgrow4)
        | (at_builtin; refine wpList_appB rfl _ _ rfl w3.heap.size _ [] rfl hown4 hgrow4.size _ p rfl (HV.out.below (HB3.out.grown hgrow4 HSW.out (fun j e => by cases e))) (by simp; omega) ?_; intro v5 w5 ho5 hgrow5))
      rw [List.nil_append] at ho5
      obtain ⟨a5, c5, rfl⟩ := ho5.form
      have HB4 : Hid (Below w.heap.size w w4) := HB3.out.grown hgrow4 HSW.out (fun j e => by cases e)
      have HB45 : Hid (Below w3.heap.size w3 w5) := ((Below.refl _ _).grown hgrow4 (Nat.le_refl _) (fun j e => by cases e)).trans (((Below.refl _ _).grown hgrow5 hgrow4.size (fun j e => (World.ownsRow.lt hown4 j e).1)))
      have HB5 : Hid (Below w.heap.size w w5) := HB3.out.trans (HB45.out.mono HSW.out)
      have HO5 : Hid (IsB w5 (.slice a5 p.length c5) p) := ho5.isB (by omega)
      have HW5 : Hid (IsB w5 (.slice aw P1.length cw) P1) := HW3.out.below HB45.out
      clear ho5 hgrow5 hown4 hgrow4
      go_wp2_with fail
      refine (put_any _ _ p d _ HO5.out (HI.out.below HB5.out) HD.out (by have := HL.out; omega)).mono ?_
      rintro e w6 ⟨v6, rfl, ho6, hb6⟩
      rw [← HP1.out] at ho6
      obtain ⟨a6, c6, rfl⟩ := ho6.form
      have HG6 : Hid (OwnB w5.heap.size w6 (.slice a6 P1.length c6) P1) := ho6
      have HB6 : Hid (Below w.heap.size w w6) := HB5.out.trans (hb6.mono HB5.out.size)
      have HW6 : Hid (IsBn (Value.slice a6 P1.length c6).ownBlock w6 (.slice aw P1.length cw) P1) := HW5.out.apart hb6 ho6
      have hgk : Hid (∀ k, (Value.slice a6 P1.length c6).ownBlock = some k → w.heap.size ≤ k ∧ k < w6.heap.size) := fun k e => by
        have h1 := World.ownsRow.lt ho6 k e
        have h2 := HB5.out.size
        exact ⟨by omega, h1.2⟩
      have cv1 : (convert 22 9 (.slice a6 P1.length c6)).run Try.prog w6 = .ok (.string (txt P1)) w6 := conv_txt (ho6.isB hl3)
      have cv2 : (convert 22 9 (.slice aw P1.length cw)).run Try.prog w6 = .ok (.string (txt P1)) w6 := conv_txt HW6.out.isB
      have cv3 : (convert 22 9 (.slice a5 p.length c5)).run Try.prog w6 = .ok (.string (txt p)) w6 := conv_txt (HO5.out.below hb6)
      have cv4 : (convert 22 9 (.slice a0 p.length c0)).run Try.prog w6 = .ok (.string (txt p)) w6 := conv_txt (HV.out.below HB6.out)
      have q1 : ((txt P1).toList == (txt P1).toList) = true := by simp
      have q2 : ((txt p).toList == (txt p).toList) = true := by simp
      clear ho6 hb6 HW5 HO5 HW3
      go_wp2
      clear cv1 cv2 cv3 cv4 q1 q2
      have HW60 : Hid (IsBn (Value.slice a6 P1.length c6).ownBlock w6 (.slice aw P1.length cw) (P1 ++ textsL (ss.take 0))) := by show IsBn _ _ _ _; rw [List.take_zero]; simpa [textsL] using HW6.out
      go_loopw [7, 11] (fun u i wr => ∃ k : Nat, k ≤ ss.length ∧ i = .int .i64 (k : Int) ∧ Hid (IsBn (Value.slice a6 P1.length c6).ownBlock wr u (P1 ++ textsL (ss.take k))) ∧ Hid (Below w6.heap.size w6 wr)) (fun _ i _ => ss.length - (intOf i).toNat)
      case atStart => exact ⟨0, Nat.zero_le _, rfl, HW60, Below.refl _ _⟩
      case round =>
        obtain ⟨k, hk, rfl, HW, HB⟩ := hrel
        have hsz6 := HB.out.size
        by_cases hlt : k < ss.length
        · obtain ⟨b1, o1, rfl, g1⟩ := HR2.out.resolve_left (by intro e; subst e; simp at hlt)
          have HBw : Hid (Below w.heap.size w wr) := HB6.out.trans (HB.out.mono HB6.out.size)
          have x1 := (g1.below HBw.out) k hlt
          clear g1
          have k1 : (k : Int) < (ss.length : Int) := by omega
          have k0 : (0 : Int) ≤ (k : Int) := by omega
          have HTS : Hid (P1 ++ textsL (ss.take (k + 1)) = (P1 ++ textsL (ss.take k)) ++ textL ss[k]) := by show _ = _; rw [textsL_snoc hlt]; simp
          have HLen : Hid ((P1 ++ textsL (ss.take k)).length + (textL ss[k]).length ≤ 140737488355328) := by
            have h1 := congrArg List.length HTS.out
            have h2 := textsL_take ss (k + 1)
            have h3 := HL1.out
            show _ ≤ _
            simp only [List.length_append] at h1 ⊢
            omega
          generalize ss[k] = x at *
          go_wp2_with fail
          refine (refPutText_any _ _ x _ HW.out.isB HLen.out).mono ?_
          rintro e w7 ⟨v7, rfl, ho7, hb7⟩
          have HW7 : Hid (IsBn (Value.slice a6 P1.length c6).ownBlock w7 v7 (P1 ++ textsL (ss.take (k + 1)))) := by
            rw [HTS.out]
            exact ho7.apart (by rw [List.length_append]; exact HLen.out) _ (fun j e => by have := (hgk.out j e).2; omega)
          have HB7 : Hid (Below w6.heap.size w6 w7) := HB.out.trans (hb7.mono hsz6)
          clear ho7 hb7 x1
          go_wp2
          go_roundw
          case rel => exact ⟨k + 1, by omega, by go_num, HW7, HB7⟩
          case measure => simp [intOf]; omega
        · obtain rfl : k = ss.length := by omega
          obtain ⟨P2, hP2⟩ : ∃ P, P = P1 ++ textsL ss := ⟨_, rfl⟩
          have HP2 : Hid (P2 = P1 ++ textsL ss) := hP2
          have hl5 : P2.length ≤ 140737488355328 := by rw [hP2, List.length_append]; exact HL1.out
          have HTK : Hid (ss.take ss.length = ss) := List.take_length
          have HW8 : Hid (IsBn (Value.slice a6 P1.length c6).ownBlock wr u7 P2) := by rw [HP2.out, ← HTK.out]; exact HW.out
          have HB8 : Hid (Below w6.heap.size w6 wr) := HB.out
          clear HW HB HTK hP2 HW60 HW6
          generalize wr = w8 at *
          obtain ⟨aw, cw, hvw⟩ := HW8.out.form
          subst hvw
          have HBw8 : Hid (Below w.heap.size w w8) := HB6.out.trans (HB8.out.mono HB6.out.size)
          have HG8 : Hid (OwnB w5.heap.size w8 (.slice a6 P1.length c6) P1) := HG6.out.below HB8.out
          go_wp2_with fail
          refine (putText_any _ _ P1 ss _ (HG8.out.isB hl3) (HT.out.below HBw8.out) HL1.out).mono ?_
          rintro e w9 ⟨v9, rfl, ho9, hb9⟩
          rw [← HP2.out] at ho9
          obtain ⟨a9, c9, rfl⟩ := ho9.form
          have HA9 : Hid (IsBn (Value.slice a6 P1.length c6).ownBlock w9 (.slice a9 P2.length c9) P2) := ho9.apart hl5 _ (fun j e => by have := (hgk.out j e).2; omega)
          have HW9 : Hid (IsBn (Value.slice a6 P1.length c6).ownBlock w9 (.slice aw P2.length cw) P2) := HW8.out.below hb9
          have HG9 : Hid (OwnB w5.heap.size w9 (.slice a6 P1.length c6) P1) := HG8.out.below hb9
          have HB9 : Hid (Below w.heap.size w w9) := HBw8.out.trans (hb9.mono HBw8.out.size)
          clear ho9 hb9 HG8 HW8 HBw8
          go_wp2
          go_loopw [13] (fun i wr => ∃ (k : Nat) (D : List UInt8), k ≤ P1.length ∧ i = .int .i64 (k : Int) ∧ Hid (D.length = P1.length) ∧ Hid (OwnB w5.heap.size wr (.slice a6 D.length c6) D) ∧ Hid (IsBn (Value.slice a6 P1.length c6).ownBlock wr (.slice a9 P2.length c9) P2) ∧ Hid (IsBn (Value.slice a6 P1.length c6).ownBlock wr (.slice aw P2.length cw) P2) ∧ Hid (Below w.heap.size w wr)) (fun i _ => P1.length - (intOf i).toNat)
          case atStart => exact ⟨0, P1, Nat.zero_le _, rfl, rfl, HG9, HA9, HW9, HB9⟩
          case round =>
            obtain ⟨k, D, hk, rfl, HDl, HO, HA, HW, HB⟩ := hrel
            by_cases hlt : k < P1.length
            · have hltD : k < D.length := by rw [HDl.out]; exact hlt
              rcases HO.out.2 with ⟨e5, hn5⟩ | ⟨gb, cap5, cur, e5, hg5, _⟩
              · omega
              · injection e5 with e6 _ e7
                subst e6
                obtain ⟨x1, f1⟩ := HO.out.cell rfl hltD
                have k1 : (k : Int) < (P1.length : Int) := by omega
                have k0 : (0 : Int) ≤ (k : Int) := by omega
                have hc := UInt8.toNat_lt D[k]
                have HFE : Hid ((255 : Int) - (D[k].toNat : Int) = ((UInt8.ofNat (255 - D[k].toNat)).toNat : Int)) := flip_eq _
                have HWr : Hid (OwnB w5.heap.size (wr.setCell ⟨gb, k, none⟩ (.int .u8 ((UInt8.ofNat (255 - D[k].toNat)).toNat : Int))) (.slice (some ⟨gb, 0, none⟩) D.length c6) (D.set k (UInt8.ofNat (255 - D[k].toNat))) ∧ wr.grownBy (wr.setCell ⟨gb, k, none⟩ (.int .u8 ((UInt8.ofNat (255 - D[k].toNat)).toNat : Int))) (some gb)) := HO.out.write k _
                generalize D[k].toNat = c at *
                go_wp2
                rw [HFE.out]
                obtain ⟨hw1, hw2⟩ := HWr.out
                go_roundw
                case rel =>
                  refine ⟨k + 1, D.set k (UInt8.ofNat (255 - c)), by omega, by go_num, ?_, ?_, HA.out.grown hw2, HW.out.grown hw2, HB.out.grown hw2 HB.out.size (fun j e => ?_)⟩
                  · show _ = _
                    rw [List.length_set]; exact HDl.out
                  · show OwnB _ _ _ _
                    rw [List.length_set]; exact hw1
                  · injection e with e
                    subst e
                    exact (hgk.out _ rfl).1
                case measure => simp [intOf]; omega
            · have cv1 : (convert 22 9 (.slice a9 P2.length c9)).run Try.prog wr = .ok (.string (txt P2)) wr := conv_txt HA.out.isB
              have cv2 : (convert 22 9 (.slice aw P2.length cw)).run Try.prog wr = .ok (.string (txt P2)) wr := conv_txt HW.out.isB
              have q1 : ((txt P2).toList == (txt P2).toList) = true := by simp
              go_wp2_with fail
              refine (awake_any _).mono ?_
              rintro e wz ⟨rfl, hbz⟩
              go_wp2
              go_ret
              exact ⟨rfl, HB.out.trans (hbz.mono HB.out.size)⟩

end Go.Proofs.Ytfjejobakknipaa
