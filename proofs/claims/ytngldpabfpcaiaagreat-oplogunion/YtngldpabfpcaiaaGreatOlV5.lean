/- What check and Add do. -/
import Derived.Test.YtngldpabfpcaiaaGreatTk
import Derived.Test.YtngldpabfpcaiaaGreatOlV4
namespace Go.Proofs.YtngldpabfpcaiaaGreat
open Go.RowKit
set_option linter.unusedVariables false
set_option linter.unusedSimpArgs false

set_option maxRecDepth 100000 in
set_option maxHeartbeats 8000000 in
theorem logCheck_any (F : Nat → Prop) (lb : Nat) (room : Int) (L : List Ch) (ac ar sq : Int) (dv : Value) (kd nc nr pc pr fc fr : Int) (nm vl : ByteArray) (ds : List Int) (w : World) (h : LogOk F w lb room L) (hg : Good L) (hL : L.length ≤ 4096) (hd : IsI w dv ds) (hnm : nm.size ≤ 281474976710656) :
    Calls Tryz.prog 21 #[.pointer (some ⟨lb, 0, none⟩), .agg #[.int .i64 ac, .int .i64 ar, .int .i64 sq, dv, .int .i64 kd, .int .i64 nc, .int .i64 nr, .int .i64 pc, .int .i64 pr, .int .i64 fc, .int .i64 fr, .string nm, .string vl]] w fun e w' => e = .returned (.int .i64 (whyR L room (⟨ac, ar, sq, ds, kd, nc, nr, pc, pr, fc, fr, nm, vl⟩ : Ch))) ∧ Below w.heap.size w w' := by
  obtain ⟨a0, c0, e0⟩ := hd.form
  subst e0
  have K0 := KeptC.start w [.int .i64 ac, .int .i64 ar, .int .i64 sq, .slice a0 ds.length c0, .int .i64 kd, .int .i64 nc, .int .i64 nr, .int .i64 pc, .int .i64 pr, .int .i64 fc, .int .i64 fr, .string nm, .string vl] 38
  obtain ⟨W0, eW⟩ : ∃ X, X = w.alloc (.cells #[.int .i64 ac, .int .i64 ar, .int .i64 sq, .slice a0 ds.length c0, .int .i64 kd, .int .i64 nc, .int .i64 nr, .int .i64 pc, .int .i64 pr, .int .i64 fc, .int .i64 fr, .string nm, .string vl] 38) := ⟨_, rfl⟩
  have HKW0 : Hid (KeptC w w.heap.size [.int .i64 ac, .int .i64 ar, .int .i64 sq, .slice a0 ds.length c0, .int .i64 kd, .int .i64 nc, .int .i64 nr, .int .i64 pc, .int .i64 pr, .int .i64 fc, .int .i64 fr, .string nm, .string vl] W0) := by rw [eW]; exact K0
  have HLW0 : Hid (LogOk F W0 lb room L) := h.below HKW0.out.2.2
  have HIW0 : Hid (IsI W0 (.slice a0 ds.length c0) ds) := hd.below HKW0.out.2.2
  clear K0
  have HG : Hid (Good L) := hg
  have HW : Hid (whyR L room (⟨ac, ar, sq, ds, kd, nc, nr, pc, pr, fc, fr, nm, vl⟩ : Ch) = if checkCh (⟨ac, ar, sq, ds, kd, nc, nr, pc, pr, fc, fr, nm, vl⟩ : Ch) ≠ 0 then checkCh (⟨ac, ar, sq, ds, kd, nc, nr, pc, pr, fc, fr, nm, vl⟩ : Ch) else if newC L (⟨ac, ar, sq, ds, kd, nc, nr, pc, pr, fc, fr, nm, vl⟩ : Ch) ≠ 0 then newC L (⟨ac, ar, sq, ds, kd, nc, nr, pc, pr, fc, fr, nm, vl⟩ : Ch) else if hasDepsB L (⟨ac, ar, sq, ds, kd, nc, nr, pc, pr, fc, fr, nm, vl⟩ : Ch) = false then 4 else if isBehindB L (⟨ac, ar, sq, ds, kd, nc, nr, pc, pr, fc, fr, nm, vl⟩ : Ch) = false ∨ hasNamesB L (⟨ac, ar, sq, ds, kd, nc, nr, pc, pr, fc, fr, nm, vl⟩ : Ch) = false then 2 else if room ≤ (L.length : Int) then 6 else 0) := (why_eq hg room (⟨ac, ar, sq, ds, kd, nc, nr, pc, pr, fc, fr, nm, vl⟩ : Ch)).symm
  clear h hg hd
  obtain ⟨k_0, k_1, k_2, k_3, k_4, k_5, k_6, k_7, k_8, k_9, k_10, k_11, k_12⟩ := HKW0.out.all
  go_enter Tryz.func21, Tryz.ntmps21
  go_wp2_with fail
  rw [← eW]
  clear eW
  refine (checkCh_any ac ar sq (.slice a0 ds.length c0) kd nc nr pc pr fc fr nm vl ds hnm _ HIW0.out).mono ?_
  rintro e W1 ⟨rfl, hb⟩
  have HKW1 : Hid (KeptC w w.heap.size [.int .i64 ac, .int .i64 ar, .int .i64 sq, .slice a0 ds.length c0, .int .i64 kd, .int .i64 nc, .int .i64 nr, .int .i64 pc, .int .i64 pr, .int .i64 fc, .int .i64 fr, .string nm, .string vl] W1) := HKW0.out.step hb
  have HLW1 : Hid (LogOk F W1 lb room L) := HLW0.out.below hb
  have HIW1 : Hid (IsI W1 (.slice a0 ds.length c0) ds) := HIW0.out.below hb
  clear hb k_0 k_1 k_2 k_3 k_4 k_5 k_6 k_7 k_8 k_9 k_10 k_11 k_12
  obtain ⟨k_0, k_1, k_2, k_3, k_4, k_5, k_6, k_7, k_8, k_9, k_10, k_11, k_12⟩ := HKW1.out.all
  obtain ⟨ck, hck⟩ : ∃ x, x = checkCh (⟨ac, ar, sq, ds, kd, nc, nr, pc, pr, fc, fr, nm, vl⟩ : Ch) := ⟨_, rfl⟩
  rw [← hck]
  have HCK : Hid (ck = checkCh (⟨ac, ar, sq, ds, kd, nc, nr, pc, pr, fc, fr, nm, vl⟩ : Ch)) := hck
  clear hck
  by_cases hc0 : ck = 0
  · subst hc0
    have HR : Hid (1 ≤ ac ∧ ac ≤ 1099511627776 ∧ 0 ≤ ar ∧ ar < 64 ∧ 1 ≤ sq ∧ sq ≤ 1099511627776) := right_of HCK.out.symm
    have HDL : Hid (OkC ds) := deps_len HCK.out.symm
    go_wp2_with fail
    refine (checkNew_any F lb room L ac ar sq (.slice a0 ds.length c0) kd nc nr pc pr fc fr nm vl ds _ HLW1.out HG.out.srt HIW1.out HR.out.2.2.1 HR.out.2.2.2.1).mono ?_
    rintro e W2 ⟨rfl, hb⟩
    have HKW2 : Hid (KeptC w w.heap.size [.int .i64 ac, .int .i64 ar, .int .i64 sq, .slice a0 ds.length c0, .int .i64 kd, .int .i64 nc, .int .i64 nr, .int .i64 pc, .int .i64 pr, .int .i64 fc, .int .i64 fr, .string nm, .string vl] W2) := HKW1.out.step hb
    have HLW2 : Hid (LogOk F W2 lb room L) := HLW1.out.below hb
    have HIW2 : Hid (IsI W2 (.slice a0 ds.length c0) ds) := HIW1.out.below hb
    clear hb k_0 k_1 k_2 k_3 k_4 k_5 k_6 k_7 k_8 k_9 k_10 k_11 k_12
    obtain ⟨k_0, k_1, k_2, k_3, k_4, k_5, k_6, k_7, k_8, k_9, k_10, k_11, k_12⟩ := HKW2.out.all
    obtain ⟨nw, hnw⟩ : ∃ x, x = newC L (⟨ac, ar, sq, ds, kd, nc, nr, pc, pr, fc, fr, nm, vl⟩ : Ch) := ⟨_, rfl⟩
    rw [← hnw]
    have HNW : Hid (nw = newC L (⟨ac, ar, sq, ds, kd, nc, nr, pc, pr, fc, fr, nm, vl⟩ : Ch)) := hnw
    clear hnw
    by_cases hn0 : nw = 0
    · subst hn0
      go_wp2_with fail
      refine (hasDeps_any F lb room L ac ar sq (.slice a0 ds.length c0) kd nc nr pc pr fc fr nm vl ds _ HLW2.out HIW2.out HDL.out.1).mono ?_
      rintro e W3 ⟨rfl, hb⟩
      have HKW3 : Hid (KeptC w w.heap.size [.int .i64 ac, .int .i64 ar, .int .i64 sq, .slice a0 ds.length c0, .int .i64 kd, .int .i64 nc, .int .i64 nr, .int .i64 pc, .int .i64 pr, .int .i64 fc, .int .i64 fr, .string nm, .string vl] W3) := HKW2.out.step hb
      have HLW3 : Hid (LogOk F W3 lb room L) := HLW2.out.below hb
      have HIW3 : Hid (IsI W3 (.slice a0 ds.length c0) ds) := HIW2.out.below hb
      clear hb k_0 k_1 k_2 k_3 k_4 k_5 k_6 k_7 k_8 k_9 k_10 k_11 k_12
      obtain ⟨k_0, k_1, k_2, k_3, k_4, k_5, k_6, k_7, k_8, k_9, k_10, k_11, k_12⟩ := HKW3.out.all
      obtain ⟨db, hdb⟩ : ∃ x, x = hasDepsB L (⟨ac, ar, sq, ds, kd, nc, nr, pc, pr, fc, fr, nm, vl⟩ : Ch) := ⟨_, rfl⟩
      rw [← hdb]
      have HDB : Hid (db = hasDepsB L (⟨ac, ar, sq, ds, kd, nc, nr, pc, pr, fc, fr, nm, vl⟩ : Ch)) := hdb
      clear hdb
      cases db
      · go_wp2
        go_ret
        exact ⟨ret_int (by rw [HW.out]; rw [if_neg (Decidable.not_not.2 HCK.out.symm)]; rw [if_neg (Decidable.not_not.2 HNW.out.symm)]; rw [← HDB.out]; rfl), HKW3.out.2.2⟩
      · go_wp2_with fail
        refine (isBehind_any F lb room L ac ar sq (.slice a0 ds.length c0) kd nc nr pc pr fc fr nm vl ds _ HLW3.out HG.out.srt HIW3.out HDL.out.1 hL HDB.out.symm).mono ?_
        rintro e W4 ⟨rfl, hb⟩
        have HKW4 : Hid (KeptC w w.heap.size [.int .i64 ac, .int .i64 ar, .int .i64 sq, .slice a0 ds.length c0, .int .i64 kd, .int .i64 nc, .int .i64 nr, .int .i64 pc, .int .i64 pr, .int .i64 fc, .int .i64 fr, .string nm, .string vl] W4) := HKW3.out.step hb
        have HLW4 : Hid (LogOk F W4 lb room L) := HLW3.out.below hb
        have HIW4 : Hid (IsI W4 (.slice a0 ds.length c0) ds) := HIW3.out.below hb
        clear hb k_0 k_1 k_2 k_3 k_4 k_5 k_6 k_7 k_8 k_9 k_10 k_11 k_12
        obtain ⟨k_0, k_1, k_2, k_3, k_4, k_5, k_6, k_7, k_8, k_9, k_10, k_11, k_12⟩ := HKW4.out.all
        obtain ⟨ib, hib⟩ : ∃ x, x = isBehindB L (⟨ac, ar, sq, ds, kd, nc, nr, pc, pr, fc, fr, nm, vl⟩ : Ch) := ⟨_, rfl⟩
        rw [← hib]
        have HIB : Hid (ib = isBehindB L (⟨ac, ar, sq, ds, kd, nc, nr, pc, pr, fc, fr, nm, vl⟩ : Ch)) := hib
        clear hib
        cases ib
        · go_wp2
          go_ret
          exact ⟨ret_int (by rw [HW.out]; rw [if_neg (Decidable.not_not.2 HCK.out.symm)]; rw [if_neg (Decidable.not_not.2 HNW.out.symm)]; rw [← HDB.out, ← HIB.out]; simp), HKW4.out.2.2⟩
        · go_wp2_with fail
          refine (hasNames_any F lb room L ac ar sq (.slice a0 ds.length c0) kd nc nr pc pr fc fr nm vl ds _ HLW4.out HG.out.srt HIW4.out).mono ?_
          rintro e W5 ⟨rfl, hb⟩
          have HKW5 : Hid (KeptC w w.heap.size [.int .i64 ac, .int .i64 ar, .int .i64 sq, .slice a0 ds.length c0, .int .i64 kd, .int .i64 nc, .int .i64 nr, .int .i64 pc, .int .i64 pr, .int .i64 fc, .int .i64 fr, .string nm, .string vl] W5) := HKW4.out.step hb
          have HLW5 : Hid (LogOk F W5 lb room L) := HLW4.out.below hb
          have HIW5 : Hid (IsI W5 (.slice a0 ds.length c0) ds) := HIW4.out.below hb
          clear hb k_0 k_1 k_2 k_3 k_4 k_5 k_6 k_7 k_8 k_9 k_10 k_11 k_12
          obtain ⟨k_0, k_1, k_2, k_3, k_4, k_5, k_6, k_7, k_8, k_9, k_10, k_11, k_12⟩ := HKW5.out.all
          obtain ⟨hb5, hhb⟩ : ∃ x, x = hasNamesB L (⟨ac, ar, sq, ds, kd, nc, nr, pc, pr, fc, fr, nm, vl⟩ : Ch) := ⟨_, rfl⟩
          rw [← hhb]
          have HHB : Hid (hb5 = hasNamesB L (⟨ac, ar, sq, ds, kd, nc, nr, pc, pr, fc, fr, nm, vl⟩ : Ch)) := hhb
          clear hhb
          cases hb5
          · go_wp2
            go_ret
            exact ⟨ret_int (by rw [HW.out]; rw [if_neg (Decidable.not_not.2 HCK.out.symm)]; rw [if_neg (Decidable.not_not.2 HNW.out.symm)]; rw [← HDB.out, ← HIB.out, ← HHB.out]; rfl), HKW5.out.2.2⟩
          · obtain ⟨mb, ord, own, D, hlg⟩ := HLW5.out
            have x0 := hlg.cell0
            have x2 := hlg.cell2
            obtain ⟨a7, c7, e7⟩ := hlg.hord.form
            rw [e7, stL_length] at x2
            clear hlg e7
            by_cases hrm : room ≤ (L.length : Int)
            · have hrd : decide (room ≤ (L.length : Int)) = true := by simp [hrm]
              go_wp2
              go_quiet (fail)
              go_wp2
              go_ret
              exact ⟨ret_int (by rw [HW.out]; rw [if_neg (Decidable.not_not.2 HCK.out.symm)]; rw [if_neg (Decidable.not_not.2 HNW.out.symm)]; rw [← HDB.out, ← HIB.out, ← HHB.out]; simp [hrm]), below_drewN HKW5.out.2.2 _⟩
            · have hrd : decide (room ≤ (L.length : Int)) = false := by simp [hrm]
              go_wp2
              go_quiet (fail)
              go_wp2
              go_ret
              exact ⟨ret_int (by rw [HW.out]; rw [if_neg (Decidable.not_not.2 HCK.out.symm)]; rw [if_neg (Decidable.not_not.2 HNW.out.symm)]; rw [← HDB.out, ← HIB.out, ← HHB.out]; simp; omega), below_drewN HKW5.out.2.2 _⟩
    · have hnd : (nw == 0) = false := by simp [hn0]
      go_wp2
      go_ret
      exact ⟨ret_int (by rw [HW.out]; rw [if_neg (Decidable.not_not.2 HCK.out.symm)]; rw [← HNW.out]; rw [if_pos hn0]), HKW2.out.2.2⟩
  · have hcd : (ck == 0) = false := by simp [hc0]
    go_wp2
    go_ret
    exact ⟨ret_int (by rw [HW.out]; rw [← HCK.out]; rw [if_pos hc0]), HKW1.out.2.2⟩

/-- What Add leaves. -/
def AddP (F : Nat → Prop) (lb : Nat) (room : Int) (L : List Ch) (w w' : World) : Prop := ∃ F', LogOk F' w' lb room L ∧ (∀ k, F k → F' k) ∧ (∀ k, F' k → F k ∨ w.heap.size ≤ k) ∧ Touch F w w'
/-- The blocks that put may change. -/
def TwOf (lb mb : Nat) (ord : Value) (own : List Value) (k : Nat) : Prop := k = lb ∨ k = mb ∨ ord.ownBlock = some k ∨ ∃ j, ∃ h : j < own.length, own[j].ownBlock = some k
theorem LogIs.tw {F : Nat → Prop} {w : World} {lb : Nat} {room : Int} {L : List Ch} {mb : Nat} {ord : Value} {own : List Value} {D : List (Ch × Value)} (h : LogIs F w lb room L mb ord own D) {k : Nat} (hk : TwOf lb mb ord own k) : F k := by
  rcases hk with rfl | rfl | hk | ⟨j, hj, hk⟩
  · exact h.fl
  · exact h.fm
  · exact h.fo k hk
  · exact h.fr j hj k hk
theorem LogIs.dep_apart {F : Nat → Prop} {w : World} {lb : Nat} {room : Int} {L : List Ch} {mb : Nat} {ord : Value} {own : List Value} {D : List (Ch × Value)} (h : LogIs F w lb room L mb ord own D) {x : Ch × Value} (hx : x ∈ D) {k : Nat} (e : x.2.ownBlock = some k) : ¬ TwOf lb mb ord own k := fun hk => by
  obtain ⟨cur, hc⟩ := ownsRow_type (h.hdep x hx).1 k e
  rcases hk with rfl | rfl | hk | ⟨j, hj, hk⟩
  · rw [h.row] at hc; cases hc
  · obtain ⟨es, cl, hm, _⟩ := h.hmap
    rw [hm] at hc; cases hc
  · obtain ⟨cur2, hc2⟩ := ownsRow_type h.hord k hk
    rw [hc2] at hc; cases hc
  · obtain ⟨cur2, hc2⟩ := ownsRow_type (h.hown j hj) k hk
    rw [hc2] at hc; cases hc
/-- .. and the clocks of the changes that the log holds stay where they are. -/
def AddM (F : Nat → Prop) (lb : Nat) (room : Int) (L : List Ch) (D : List (Ch × Value)) (w w' : World) : Prop := AddP F lb room L w w' ∧ ∀ x ∈ D, ∀ k, x.2.ownBlock = some k → w'.heap[k]? = w.heap[k]?
theorem LogV.lb {F : Nat → Prop} {w : World} {lb : Nat} {room : Int} {L : List Ch} (h : LogV F w (.pointer (some ⟨lb, 0, none⟩)) room L) : LogOk F w lb room L := by
  rcases h with ⟨lb', e, h⟩ | ⟨e, _⟩
  · cases e; exact h
  · cases e

set_option maxRecDepth 100000 in
set_option maxHeartbeats 8000000 in
/-- A change that is refused. -/
theorem add_no (F : Nat → Prop) (v : Value) (room : Int) (L : List Ch) (ac ar sq : Int) (dv : Value) (kd nc nr pc pr fc fr : Int) (nm vl : ByteArray) (ds : List Int) (w : World) (h : LogV F w v room L) (hg : Good L) (hL : L.length ≤ 4096) (hd : IsI w dv ds) (hnm : nm.size ≤ 281474976710656) (hw : whyR L room (⟨ac, ar, sq, ds, kd, nc, nr, pc, pr, fc, fr, nm, vl⟩ : Ch) ≠ 0) :
    Calls Tryz.prog 8 #[v, .agg #[.int .i64 ac, .int .i64 ar, .int .i64 sq, dv, .int .i64 kd, .int .i64 nc, .int .i64 nr, .int .i64 pc, .int .i64 pr, .int .i64 fc, .int .i64 fr, .string nm, .string vl]] w fun e w' => e = .returned (.int .i64 (whyR L room (⟨ac, ar, sq, ds, kd, nc, nr, pc, pr, fc, fr, nm, vl⟩ : Ch))) ∧ Below w.heap.size w w' := by
  obtain ⟨a0, c0, e0⟩ := hd.form
  subst e0
  have K0 := KeptC.start w [.int .i64 ac, .int .i64 ar, .int .i64 sq, .slice a0 ds.length c0, .int .i64 kd, .int .i64 nc, .int .i64 nr, .int .i64 pc, .int .i64 pr, .int .i64 fc, .int .i64 fr, .string nm, .string vl] 38
  obtain ⟨W0, eW⟩ : ∃ X, X = w.alloc (.cells #[.int .i64 ac, .int .i64 ar, .int .i64 sq, .slice a0 ds.length c0, .int .i64 kd, .int .i64 nc, .int .i64 nr, .int .i64 pc, .int .i64 pr, .int .i64 fc, .int .i64 fr, .string nm, .string vl] 38) := ⟨_, rfl⟩
  have HKx : Hid (KeptD w w.heap.size [.int .i64 ac, .int .i64 ar, .int .i64 sq, .slice a0 ds.length c0, .int .i64 kd, .int .i64 nc, .int .i64 nr, .int .i64 pc, .int .i64 pr, .int .i64 fc, .int .i64 fr, .string nm, .string vl] W0) := by rw [eW]; exact K0
  have HIx : Hid (IsI W0 (.slice a0 ds.length c0) ds) := hd.below HKx.out.2.2
  have HG : Hid (Good L) := hg
  have HVx : Hid (LogV F W0 v room L) := h.below HKx.out.2.2
  obtain ⟨wy, hwy⟩ : ∃ x, x = whyR L room (⟨ac, ar, sq, ds, kd, nc, nr, pc, pr, fc, fr, nm, vl⟩ : Ch) := ⟨_, rfl⟩
  have HWY : Hid (wy = whyR L room (⟨ac, ar, sq, ds, kd, nc, nr, pc, pr, fc, fr, nm, vl⟩ : Ch)) := hwy
  rw [← hwy] at hw ⊢
  have hwd : (wy == 0) = false := by simp [hw]
  clear h hg hd K0 hwy
  go_enter Tryz.func8, Tryz.ntmps8
  go_wp2
  rw [← eW]
  clear eW
  refine wp_region_held_drew (S := fun W' => KeptC w w.heap.size [.int .i64 ac, .int .i64 ar, .int .i64 sq, .slice a0 ds.length c0, .int .i64 kd, .int .i64 nc, .int .i64 nr, .int .i64 pc, .int .i64 pr, .int .i64 fc, .int .i64 fr, .string nm, .string vl] W') (by kernel_rfl) (HKx.out.step (Below.refl _ _).drew) (fun hHeld => ?_)
  obtain ⟨Un3u0, eW⟩ : ∃ X, X = W0.drew := ⟨_, rfl⟩
  have hb : Below W0.heap.size W0 Un3u0 := by rw [eW]; exact (Below.refl _ _).drew
  replace HKx : Hid (KeptD w w.heap.size [.int .i64 ac, .int .i64 ar, .int .i64 sq, .slice a0 ds.length c0, .int .i64 kd, .int .i64 nc, .int .i64 nr, .int .i64 pc, .int .i64 pr, .int .i64 fc, .int .i64 fr, .string nm, .string vl] Un3u0) := HKx.out.below hb
  replace HVx : Hid (LogV F Un3u0 v room L) := HVx.out.below hb
  replace HIx : Hid (IsI Un3u0 (.slice a0 ds.length c0) ds) := HIx.out.below hb
  rw [← eW] at hHeld ⊢
  clear eW hb
  refine tkW 0 (some 6) (v := ?_) ?_ hHeld ?_
  rotate_left
  · (intro w _; go_simp; try with_reducible rfl)
  refine tkW 2 (some 8) (v := ?_) ?_ hHeld ?_
  rotate_left
  · (intro w hSw; (try dsimp only at hSw); have hk := hSw; obtain ⟨k_0, k_1, k_2, k_3, k_4, k_5, k_6, k_7, k_8, k_9, k_10, k_11, k_12⟩ := hk.all; go_simp; try with_reducible rfl)
  refine wpAnyH_ready (rs := [1]) (by kernel_rfl) (by simp) ?_
  refine AllReadyH.cons (o := ⟨some 7, _, _, _, _, _⟩) rfl (fun K hK => ?_) AllReadyH.nil
  go_simp
  refine (orEmpty_any v room L F _ HVx.out).mono ?_
  rintro e Un3u1 ⟨lb2, F2, rfl, hlo, hb, hff⟩
  (try go_wp2_with fail)
  refine hK.out _ _ (hHeld.step hb) (fun hHeld2 => ?_)
  clear hK K hHeld
  have hHeld := hHeld2
  clear hHeld2
  (try simp only [Act.put, List.setIfInBounds_toArray, List.set_cons_zero, List.set_cons_succ])
  replace HKx : Hid (KeptD w w.heap.size [.int .i64 ac, .int .i64 ar, .int .i64 sq, .slice a0 ds.length c0, .int .i64 kd, .int .i64 nc, .int .i64 nr, .int .i64 pc, .int .i64 pr, .int .i64 fc, .int .i64 fr, .string nm, .string vl] Un3u1) := HKx.out.below hb
  replace HVx : Hid (LogV F Un3u1 v room L) := HVx.out.below hb
  replace HIx : Hid (IsI Un3u1 (.slice a0 ds.length c0) ds) := HIx.out.below hb
  have HLo : Hid (LogOk F2 Un3u1 lb2 room L) := hlo
  clear hlo hff
  clear hb
  refine wpAnyH_ready (rs := [3]) (by kernel_rfl) (by simp) ?_
  refine AllReadyH.cons (o := ⟨some 9, _, _, _, _, _⟩) rfl (fun K hK => ?_) AllReadyH.nil
  go_simp
  refine (logCheck_any F2 lb2 room L ac ar sq (.slice a0 ds.length c0) kd nc nr pc pr fc fr nm vl ds _ HLo.out HG.out hL HIx.out hnm).mono ?_
  rintro e Un3u2 ⟨ewy, hb⟩
  rw [← HWY.out] at ewy
  subst ewy
  (try go_wp2_with fail)
  refine hK.out _ _ (hHeld.step hb) (fun hHeld2 => ?_)
  clear hK K hHeld
  have hHeld := hHeld2
  clear hHeld2
  (try simp only [Act.put, List.setIfInBounds_toArray, List.set_cons_zero, List.set_cons_succ])
  replace HKx : Hid (KeptD w w.heap.size [.int .i64 ac, .int .i64 ar, .int .i64 sq, .slice a0 ds.length c0, .int .i64 kd, .int .i64 nc, .int .i64 nr, .int .i64 pc, .int .i64 pr, .int .i64 fc, .int .i64 fr, .string nm, .string vl] Un3u2) := HKx.out.below hb
  replace HVx : Hid (LogV F Un3u2 v room L) := HVx.out.below hb
  replace HIx : Hid (IsI Un3u2 (.slice a0 ds.length c0) ds) := HIx.out.below hb
  replace HLo : Hid (LogOk F2 Un3u2 lb2 room L) := HLo.out.below hb
  clear hb
  refine tkW 4 (some 5) (v := ?_) ?_ hHeld ?_
  rotate_left
  · (intro w _; go_simp; try with_reducible rfl)
  refine wpAnyH_done (by kernel_rfl) ?_ _
  clear hHeld
  go_wp2
  go_ret
  exact ⟨ret_int rfl, HKx.out.2.2⟩

set_option maxRecDepth 100000 in
set_option maxHeartbeats 8000000 in
/-- A change that is added. -/
theorem add_yes (F : Nat → Prop) (lb : Nat) (room : Int) (L : List Ch) (mb : Nat) (ord : Value) (own : List Value) (D : List (Ch × Value)) (ac : Int) (r : Nat) (sq : Int) (dv : Value) (kd nc nr pc pr fc fr : Int) (nm vl : ByteArray) (ds : List Int) (w : World) (h : LogIs F w lb room L mb ord own D) (hg : Good L) (hrm : room ≤ 4096) (hd : IsI w dv ds) (hsz : Sized (⟨ac, (r : Int), sq, ds, kd, nc, nr, pc, pr, fc, fr, nm, vl⟩ : Ch)) (hw : whyR L room (⟨ac, (r : Int), sq, ds, kd, nc, nr, pc, pr, fc, fr, nm, vl⟩ : Ch) = 0) :
    Calls Tryz.prog 8 #[.pointer (some ⟨lb, 0, none⟩), .agg #[.int .i64 ac, .int .i64 (r : Int), .int .i64 sq, dv, .int .i64 kd, .int .i64 nc, .int .i64 nr, .int .i64 pc, .int .i64 pr, .int .i64 fc, .int .i64 fr, .string nm, .string vl]] w fun e w' => e = .returned (.int .i64 0) ∧ AddM F lb room (putC L (⟨ac, (r : Int), sq, ds, kd, nc, nr, pc, pr, fc, fr, nm, vl⟩ : Ch)) D w w' := by
  obtain ⟨a0, c0, e0⟩ := hd.form
  subst e0
  have K0 := KeptC.start w [.int .i64 ac, .int .i64 (r : Int), .int .i64 sq, .slice a0 ds.length c0, .int .i64 kd, .int .i64 nc, .int .i64 nr, .int .i64 pc, .int .i64 pr, .int .i64 fc, .int .i64 fr, .string nm, .string vl] 38
  obtain ⟨W0, eW⟩ : ∃ X, X = w.alloc (.cells #[.int .i64 ac, .int .i64 (r : Int), .int .i64 sq, .slice a0 ds.length c0, .int .i64 kd, .int .i64 nc, .int .i64 nr, .int .i64 pc, .int .i64 pr, .int .i64 fc, .int .i64 fr, .string nm, .string vl] 38) := ⟨_, rfl⟩
  have HKx : Hid (KeptD w w.heap.size [.int .i64 ac, .int .i64 (r : Int), .int .i64 sq, .slice a0 ds.length c0, .int .i64 kd, .int .i64 nc, .int .i64 nr, .int .i64 pc, .int .i64 pr, .int .i64 fc, .int .i64 fr, .string nm, .string vl] W0) := by rw [eW]; exact K0
  have HIx : Hid (IsI W0 (.slice a0 ds.length c0) ds) := hd.below HKx.out.2.2
  have HG : Hid (Good L) := hg
  have HVx : Hid (LogV F W0 (.pointer (some ⟨lb, 0, none⟩)) room L) := LogOk.v ⟨_, _, _, _, h.below HKx.out.2.2⟩
  have HLw : Hid (LogIs F w lb room L mb ord own D) := h
  have HWY : Hid ((0 : Int) = whyR L room (⟨ac, (r : Int), sq, ds, kd, nc, nr, pc, pr, fc, fr, nm, vl⟩ : Ch)) := hw.symm
  obtain ⟨w1, w2, w3, w4, w5, w6⟩ := why_ok hw
  have w7 := right_of w1
  have hr64 : r < 64 := by have h1 : ((r : Nat) : Int) < 64 := w7.2.2.2.1; omega
  have hL : L.length ≤ 4096 := by omega
  have hnm : nm.size ≤ 281474976710656 := hsz.1
  have HPT : Hid (L.length < 4096 ∧ (∀ d ∈ L, ¬ (d.ac = ac ∧ d.ar = (r : Int))) ∧ ofR (putC L (⟨ac, (r : Int), sq, ds, kd, nc, nr, pc, pr, fc, fr, nm, vl⟩ : Ch)) (r : Int) = ofR L (r : Int) ++ [(⟨ac, (r : Int), sq, ds, kd, nc, nr, pc, pr, fc, fr, nm, vl⟩ : Ch)]) := ⟨by omega, getL_none.1 w2, by have := ofR_put_own hg hw (r : Int); rw [if_pos rfl] at this; exact this⟩
  clear h hg hd K0 hw w1 w2 w3 w4 w5 w6 w7
  go_enter Tryz.func8, Tryz.ntmps8
  go_wp2
  rw [← eW]
  clear eW
  refine wp_region_held_drew (S := fun W' => KeptC w w.heap.size [.int .i64 ac, .int .i64 (r : Int), .int .i64 sq, .slice a0 ds.length c0, .int .i64 kd, .int .i64 nc, .int .i64 nr, .int .i64 pc, .int .i64 pr, .int .i64 fc, .int .i64 fr, .string nm, .string vl] W') (by kernel_rfl) (HKx.out.step (Below.refl _ _).drew) (fun hHeld => ?_)
  obtain ⟨Uy4u0, eW⟩ : ∃ X, X = W0.drew := ⟨_, rfl⟩
  have hb : Below W0.heap.size W0 Uy4u0 := by rw [eW]; exact (Below.refl _ _).drew
  replace HKx : Hid (KeptD w w.heap.size [.int .i64 ac, .int .i64 (r : Int), .int .i64 sq, .slice a0 ds.length c0, .int .i64 kd, .int .i64 nc, .int .i64 nr, .int .i64 pc, .int .i64 pr, .int .i64 fc, .int .i64 fr, .string nm, .string vl] Uy4u0) := HKx.out.below hb
  replace HVx : Hid (LogV F Uy4u0 (.pointer (some ⟨lb, 0, none⟩)) room L) := HVx.out.below hb
  replace HIx : Hid (IsI Uy4u0 (.slice a0 ds.length c0) ds) := HIx.out.below hb
  rw [← eW] at hHeld ⊢
  clear eW hb
  refine tkW 0 (some 6) (v := ?_) ?_ hHeld ?_
  rotate_left
  · (intro w _; go_simp; try with_reducible rfl)
  refine tkW 2 (some 8) (v := ?_) ?_ hHeld ?_
  rotate_left
  · (intro w hSw; (try dsimp only at hSw); have hk := hSw; obtain ⟨k_0, k_1, k_2, k_3, k_4, k_5, k_6, k_7, k_8, k_9, k_10, k_11, k_12⟩ := hk.all; go_simp; try with_reducible rfl)
  refine wpAnyH_ready (rs := [1]) (by kernel_rfl) (by simp) ?_
  refine AllReadyH.cons (o := ⟨some 7, _, _, _, _, _⟩) rfl (fun K hK => ?_) AllReadyH.nil
  go_simp
  refine (orEmpty_any (.pointer (some ⟨lb, 0, none⟩)) room L F _ HVx.out).mono ?_
  rintro e Uy4u1 ⟨lb2, F2, rfl, hlo, hb, hff⟩
  (try go_wp2_with fail)
  refine hK.out _ _ (hHeld.step hb) (fun hHeld2 => ?_)
  clear hK K hHeld
  have hHeld := hHeld2
  clear hHeld2
  (try simp only [Act.put, List.setIfInBounds_toArray, List.set_cons_zero, List.set_cons_succ])
  replace HKx : Hid (KeptD w w.heap.size [.int .i64 ac, .int .i64 (r : Int), .int .i64 sq, .slice a0 ds.length c0, .int .i64 kd, .int .i64 nc, .int .i64 nr, .int .i64 pc, .int .i64 pr, .int .i64 fc, .int .i64 fr, .string nm, .string vl] Uy4u1) := HKx.out.below hb
  replace HVx : Hid (LogV F Uy4u1 (.pointer (some ⟨lb, 0, none⟩)) room L) := HVx.out.below hb
  replace HIx : Hid (IsI Uy4u1 (.slice a0 ds.length c0) ds) := HIx.out.below hb
  have HLo : Hid (LogOk F2 Uy4u1 lb2 room L) := hlo
  clear hlo hff
  clear hb
  refine wpAnyH_ready (rs := [3]) (by kernel_rfl) (by simp) ?_
  refine AllReadyH.cons (o := ⟨some 9, _, _, _, _, _⟩) rfl (fun K hK => ?_) AllReadyH.nil
  go_simp
  refine (logCheck_any F2 lb2 room L ac (r : Int) sq (.slice a0 ds.length c0) kd nc nr pc pr fc fr nm vl ds _ HLo.out HG.out hL HIx.out hnm).mono ?_
  rintro e Uy4u2 ⟨ewy, hb⟩
  rw [← HWY.out] at ewy
  subst ewy
  (try go_wp2_with fail)
  refine hK.out _ _ (hHeld.step hb) (fun hHeld2 => ?_)
  clear hK K hHeld
  have hHeld := hHeld2
  clear hHeld2
  (try simp only [Act.put, List.setIfInBounds_toArray, List.set_cons_zero, List.set_cons_succ])
  replace HKx : Hid (KeptD w w.heap.size [.int .i64 ac, .int .i64 (r : Int), .int .i64 sq, .slice a0 ds.length c0, .int .i64 kd, .int .i64 nc, .int .i64 nr, .int .i64 pc, .int .i64 pr, .int .i64 fc, .int .i64 fr, .string nm, .string vl] Uy4u2) := HKx.out.below hb
  replace HVx : Hid (LogV F Uy4u2 (.pointer (some ⟨lb, 0, none⟩)) room L) := HVx.out.below hb
  replace HIx : Hid (IsI Uy4u2 (.slice a0 ds.length c0) ds) := HIx.out.below hb
  replace HLo : Hid (LogOk F2 Uy4u2 lb2 room L) := HLo.out.below hb
  clear hb
  refine tkW 4 (some 5) (v := ?_) ?_ hHeld ?_
  rotate_left
  · (intro w _; go_simp; try with_reducible rfl)
  refine wpAnyH_done (by kernel_rfl) ?_ _
  have HK5 : Hid (KeptC w w.heap.size [.int .i64 ac, .int .i64 (r : Int), .int .i64 sq, .slice a0 ds.length c0, .int .i64 kd, .int .i64 nc, .int .i64 nr, .int .i64 pc, .int .i64 pr, .int .i64 fc, .int .i64 fr, .string nm, .string vl] Uy4u2) := HKx.out
  clear hHeld
  obtain ⟨k_0, k_1, k_2, k_3, k_4, k_5, k_6, k_7, k_8, k_9, k_10, k_11, k_12⟩ := HK5.out.all
  have HLG : Hid (LogIs F Uy4u2 lb room L mb ord own D) := HLw.out.below HK5.out.2.2
  go_wp2_with fail
  refine (put_mb F lb room L mb ord own D ac r sq (.slice a0 ds.length c0) kd nc nr pc pr fc fr nm vl ds _ HLG.out HIx.out hsz HPT.out.1 HPT.out.2.1 HG.out.srt hr64 HPT.out.2.2 (TwOf lb mb ord own) (.inl rfl) (.inr (.inl rfl)) (fun j h k e => .inr (.inr (.inr ⟨j, h, e⟩))) (fun k e => .inr (.inr (.inl e)))).mono ?_
  rintro e w9 ⟨⟨v9, rfl⟩, F9, ⟨ord9, own9, dv9, h9⟩, h91, h92, h93⟩
  have HA9 : Hid (AddM F lb room (putC L (⟨ac, (r : Int), sq, ds, kd, nc, nr, pc, pr, fc, fr, nm, vl⟩ : Ch)) D w w9) := ⟨⟨F9, ⟨mb, ord9, own9, _, h9⟩, h91, fun k hk => (h92 k hk).imp id (fun h => Nat.le_trans HK5.out.2.2.size h), Touch.trans (Touch.of_below (F := F) HK5.out.2.2) (h93.mono (fun j h => HLw.out.tw h)) (fun j h => .inl h)⟩, fun x hx k e => (h93.block k (Nat.lt_of_lt_of_le (HLw.out.lt k (HLw.out.fd x hx k e)) HK5.out.2.2.size) (HLw.out.dep_apart hx e)).trans (HK5.out.2.2.block k (HLw.out.lt k (HLw.out.fd x hx k e)))⟩
  clear h9 h91 h92 h93
  go_wp2
  go_ret
  exact ⟨ret_int rfl, HA9.out⟩

/-- (*Log).Add. -/
theorem add_mb (F : Nat → Prop) (lb : Nat) (room : Int) (L : List Ch) (mb : Nat) (ord : Value) (own : List Value) (D : List (Ch × Value)) (c : Ch) (dv : Value) (w : World) (h : LogIs F w lb room L mb ord own D) (hg : Good L) (hL : (L.length : Int) ≤ room) (hrm : room ≤ 4096) (hd : IsI w dv c.deps) (hsz : Sized c) :
    Calls Tryz.prog 8 #[.pointer (some ⟨lb, 0, none⟩), chV c dv] w fun e w' => e = .returned (.int .i64 (whyR L room c)) ∧ AddM F lb room (addL L room c) D w w' := by
  obtain ⟨ac, ar, sq, ds, kd, nc, nr, pc, pr, fc, fr, nm, vl⟩ := c
  by_cases hw : whyR L room (⟨ac, ar, sq, ds, kd, nc, nr, pc, pr, fc, fr, nm, vl⟩ : Ch) = 0
  · obtain ⟨r, hr⟩ := Int.eq_ofNat_of_zero_le (right_of (why_ok hw).1).2.2.1
    have hr2 : ar = (r : Int) := hr
    subst hr2
    have := add_yes F lb room L mb ord own D ac r sq dv kd nc nr pc pr fc fr nm vl ds w h hg hrm hd hsz hw
    rw [hw]
    unfold addL
    rw [if_pos hw]
    exact this
  · refine (add_no F _ room L ac ar sq dv kd nc nr pc pr fc fr nm vl ds w (LogOk.v ⟨_, _, _, _, h⟩) hg (by omega) hd hsz.1 hw).mono ?_
    rintro e w' ⟨rfl, hb⟩
    unfold addL
    rw [if_neg hw]
    exact ⟨rfl, ⟨F, ⟨_, _, _, _, h.below hb⟩, fun k hk => hk, fun k hk => .inl hk, Touch.of_below hb⟩, fun x hx k e => hb.block k (h.lt k (h.fd x hx k e))⟩
theorem add_any (F : Nat → Prop) (lb : Nat) (room : Int) (L : List Ch) (c : Ch) (dv : Value) (w : World) (h : LogOk F w lb room L) (hg : Good L) (hL : (L.length : Int) ≤ room) (hrm : room ≤ 4096) (hd : IsI w dv c.deps) (hsz : Sized c) :
    Calls Tryz.prog 8 #[.pointer (some ⟨lb, 0, none⟩), chV c dv] w fun e w' => e = .returned (.int .i64 (whyR L room c)) ∧ AddP F lb room (addL L room c) w w' := by
  obtain ⟨mb, ord, own, D, h⟩ := h
  exact (add_mb F lb room L mb ord own D c dv w h hg hL hrm hd hsz).mono fun e w' ⟨h1, h2⟩ => ⟨h1, h2.1⟩

end Go.Proofs.YtngldpabfpcaiaaGreat
