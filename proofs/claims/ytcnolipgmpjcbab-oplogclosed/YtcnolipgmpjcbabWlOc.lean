/- OplogClosed is true of every input. -/
import Derived.Test.YtcnolipgmpjcbabOlZ
import Derived.Test.YtcnolipgmpjcbabOlF
import Derived.Test.YtcnolipgmpjcbabOlY2
import Derived.Test.YtcnolipgmpjcbabOlNr
import Derived.Test.YtcnolipgmpjcbabCkN
import Derived.Test.YtcnolipgmpjcbabIdE
namespace Go.Proofs.Ytcnolipgmpjcbab
open Go.RowKit
set_option linter.unusedVariables false
set_option linter.unusedSimpArgs false

theorem IsH.take {w : World} {a : Option Addr} {c : Nat} {L : List Ch} {n : Nat} (h : IsH w (.slice a n c) L) {k : Nat} (hk : k ≤ L.length) : IsH w (.slice a k c) (L.take k) := by
  obtain ⟨a', c', e, h1, h2, h3⟩ := h
  cases e
  refine ⟨a, c, by rw [List.length_take, Nat.min_eq_left hk], by rw [List.length_take]; omega, by rw [List.length_take]; omega, ?_⟩
  rcases h3 with rfl | ⟨b, o, e, h3⟩
  · left; simp
  · refine .inr ⟨b, o, e, fun i hi => ?_⟩
    rw [List.getElem_take]
    exact h3 i (by rw [List.length_take] at hi; omega)
theorem all_any (v : Value) (room : Int) (L : List Ch) (F : Nat → Prop) (w : World) (h : LogV F w v room L) (hg : Good L) (hl : L.length ≤ 4096) :
    Calls Try.prog 7 #[v] w fun e w' => ∃ v' E, e = .returned v' ∧ E.map Prod.fst = L ∧ OwnH w.heap.size w' v' E ∧ (∀ x ∈ E, OwnI w.heap.size w' x.2 x.1.deps ∧ Sized x.1 ∧ x.1.deps.length ≤ 17592186044416) ∧ Below w.heap.size w w' :=
  (callsIn_wide.1 (all_in 5 (Nat.le_refl _) v room L F w h hg.srt hl)).mono fun e w' ⟨v', E, h1, h2, h3⟩ => ⟨v', E, h1, h2.trans (lackL_all hg), h3⟩

set_option maxRecDepth 100000 in
set_option maxHeartbeats 16000000 in
theorem closed_any (room : Int) (v : Value) (l : List Ch) (w : World) (h : IsH w v l) :
    Calls Try.prog 3 #[.int .i64 room, v] w fun e w' => e = .returned (.bool true) ∧ Below w.heap.size w w' := by
  have HH : Hid (IsH w v l) := h
  obtain ⟨a1, c1, rfl, hc1, hl1, r1⟩ := h
  have HR : Hid (l = [] ∨ ∃ b o, a1 = some ⟨b, o, none⟩ ∧ ChsAt w b o l) := r1
  clear r1
  go_enter Try.func3, Try.ntmps3
  go_wp2_with fail
  refine (new_any room _).mono ?_
  rintro e w1 ⟨h, hb1⟩
  have HB1 : Hid (Below w.heap.size w w1) := hb1
  clear hb1
  rcases h with ⟨hr, rfl⟩ | ⟨hr, lb, F, rfl, hL, hF⟩
  · clear hr
    go_wp2_with fail
    refine (awake_any _).mono ?_
    rintro e w2 ⟨rfl, hb2⟩
    have HB2 : Hid (Below w.heap.size w w2) := HB1.out.trans (hb2.mono HB1.out.size)
    clear hb2
    go_wp2
    go_ret
    exact ⟨rfl, HB2.out⟩
  have HL1 : Hid (LogOk F w1 lb room (fillL room (l.take 0))) := hL
  have HF1 : Hid (∀ k, F k → w.heap.size ≤ k) := hF
  have hr0 := hr.1
  have hr1 := hr.2
  clear hL hF hr
  go_wp2
  go_loopw [7] (fun i wr => ∃ (k : Nat) (F : Nat → Prop), k ≤ l.length ∧ i = .int .i64 (k : Int) ∧ Hid (LogOk F wr lb room (fillL room (l.take k))) ∧ Hid (∀ j, F j → w.heap.size ≤ j) ∧ Hid (Below w.heap.size w wr)) (fun i _ => l.length - (intOf i).toNat)
  case atStart => exact ⟨0, F, Nat.zero_le _, rfl, HL1, HF1, HB1⟩
  case round =>
    obtain ⟨k, F, hk, rfl, HLr, HFr, HBr⟩ := hrel
    by_cases hlt : k < l.length
    · obtain ⟨b1, o1, rfl, g1⟩ := HR.out.resolve_left (by intro e; subst e; simp at hlt)
      obtain ⟨a3, c3, i3, hs3, y0, y1, y2, y3, y4, y5, y6, y7, y8, y9, y10, y11, y12⟩ := ((g1.below HBr.out) k hlt).all
      have k1 : (k : Int) < (l.length : Int) := by omega
      have k0 : (0 : Int) ≤ (k : Int) := by omega
      have HFs : Hid (fillL room (l.take (k + 1)) = addL (fillL room (l.take k)) room l[k]) := by
        have e := fillL_snoc room (l.take k) l[k]
        rw [← List.take_succ_eq_append_getElem hlt] at e
        exact e
      have hroom : ((fillL room (l.take k)).length : Int) ≤ room := fillL_room (by omega) _
      have HGd : Hid (Good (fillL room (l.take k))) := fillL_good _ _
      obtain ⟨⟨ac, ar, sq, ds, kd, nc, nr, pc, pr, fc, fr, nm, vl⟩, hc⟩ : ∃ c, c = l[k] := ⟨_, rfl⟩
      rw [← hc] at i3 hs3 y0 y1 y2 y3 y4 y5 y6 y7 y8 y9 y10 y11 y12 HFs
      have HI3 : Hid (IsI wr (.slice a3 ds.length c3) ds) := i3
      have HS3 : Hid (Sized (⟨ac, ar, sq, ds, kd, nc, nr, pc, pr, fc, fr, nm, vl⟩ : Ch)) := hs3
      clear hc i3 hs3 g1
      go_wp2_with fail
      refine (add_any F lb room (fillL room (l.take k)) (⟨ac, ar, sq, ds, kd, nc, nr, pc, pr, fc, fr, nm, vl⟩ : Ch) (.slice a3 ds.length c3) _ HLr.out HGd.out hroom hr1 HI3.out HS3.out).mono ?_
      rintro e w3 ⟨rfl, F3, hL3, hf1, hf2, ht⟩
      rw [← HFs.out] at hL3
      have HL3 : Hid (LogOk F3 w3 lb room (fillL room (l.take (k + 1)))) := hL3
      have HB3 : Hid (Below w.heap.size w w3) := HBr.out.trans (ht.below HFr.out HBr.out.size)
      have HF3 : Hid (∀ k, F3 k → w.heap.size ≤ k) := fun k hk => by
        rcases hf2 k hk with h | h
        · exact HFr.out k h
        · exact Nat.le_trans HBr.out.size h
      generalize whyR (fillL room (l.take k)) room (⟨ac, ar, sq, ds, kd, nc, nr, pc, pr, fc, fr, nm, vl⟩ : Ch) = we
      clear hL3 hf1 hf2 ht HLr HBr HFr HFs HGd HI3 HS3 hroom
      go_wp2
      go_roundw
      case rel => exact ⟨k + 1, F3, by omega, by go_num, HL3, HF3, HB3⟩
      case measure => simp [intOf]; omega
    · have hkl : k = l.length := by omega
      have hroom : ((fillL room (l.take k)).length : Int) ≤ room := fillL_room (by omega) _
      have HG : Hid (Good (fillL room (l.take k))) := fillL_good _ _
      generalize fillL room (l.take k) = L at *
      go_wp2_with fail
      refine (all_any _ room L F _ HLr.out.v HG.out (by omega)).mono ?_
      rintro e W2 ⟨v2, E, rfl, hE, hO, hD, hb2⟩
      have hEl : E.length = L.length := by rw [← hE]; simp
      have hH2 : IsH W2 v2 L := by
        rw [← hE]
        exact OwnH.isH hO (by omega) (fun x hx => ⟨(hD x hx).1.isI (hD x hx).2.2, (hD x hx).2.1⟩)
      have HW2 : Hid (Below w.heap.size w W2) := HBr.out.trans (hb2.mono HBr.out.size)
      clear hE hO hD hb2 hEl HLr HFr HBr
      have HH2 : Hid (IsH W2 v2 L) := hH2
      obtain ⟨aw, cw, rfl, hcw, hlw, r2⟩ := hH2
      have R2 : Hid (L = [] ∨ ∃ b o, aw = some ⟨b, o, none⟩ ∧ ChsAt W2 b o L) := r2
      have HBW0 : Hid (BelowH W2 W2) := Below.refl _ _
      clear r2 hkl hlt hk
      go_wp2
      go_loopw [9] (fun i wr => ∃ k : Nat, k ≤ L.length ∧ i = .int .i64 (k : Int) ∧ Hid (BelowH W2 wr)) (fun i _ => L.length - (intOf i).toNat)
      case atStart => exact ⟨0, Nat.zero_le _, rfl, HBW0⟩
      case round =>
        rename_i wr
        obtain ⟨k, hk, rfl, HBW⟩ := hrel
        by_cases hlt : k < L.length
        · obtain ⟨b1, o1, rfl, g1⟩ := R2.out.resolve_left (by intro e; subst e; simp at hlt)
          obtain ⟨a0, c0, i3, hs3, y0, y1, y2, y3, y4, y5, y6, y7, y8, y9, y10, y11, y12⟩ := ((g1.below HBW.out) k hlt).all
          have k1 : (k : Int) < (L.length : Int) := by omega
          have k0 : (0 : Int) ≤ (k : Int) := by omega
          have hkcw : k ≤ cw := by omega
          have hcl := HG.out.closed hlt
          have hsq := (HG.out.right (List.getElem_mem hlt)).2.2.2.2
          have HPv : Hid (0 < k → ∃ pa pq : Int, lessS pa pq L[k].ac L[k].ar = true ∧ ∀ W', BelowH W2 W' → W'.cell? ⟨b1, o1 + (k - 1) * 13, none⟩ = some (.int .i64 pa) ∧ W'.cell? ⟨b1, o1 + (k - 1) * 13 + 1, none⟩ = some (.int .i64 pq)) := fun hk0 => by
            have hk1 : k - 1 < L.length := by omega
            refine ⟨L[k - 1].ac, L[k - 1].ar, (List.pairwise_iff_getElem.1 HG.out.srt) (k - 1) k hk1 hlt (by omega), fun W' hb => ?_⟩
            obtain ⟨_, _, _, _, z0, z1, _⟩ := ((g1.below hb) (k - 1) hk1).all
            exact ⟨z0, z1⟩
          have HTk : Hid (∀ W', BelowH W2 W' → IsH W' (.slice (some ⟨b1, o1, none⟩) k cw) (L.take k)) := fun W' hb => (HH2.out.below hb).take hk
          obtain ⟨(⟨ac, ar, sq, ds, kd, nc, nr, pc, pr, fc, fr, nm, vl⟩ : Ch), hc⟩ : ∃ c, c = L[k] := ⟨_, rfl⟩
          rw [← hc] at i3 hs3 y0 y1 y2 y3 y4 y5 y6 y7 y8 y9 y10 y11 y12 hcl hsq HPv
          simp only at hcl hsq
          have HU : Hid (underB ds (clockL (L.take k)) = true) := hcl.1
          have HAt : Hid (atL (clockL (L.take k)) ar = sq - 1) := hcl.2.1
          have HNm : Hid (∀ s ∈ namesL (⟨ac, ar, sq, ds, kd, nc, nr, pc, pr, fc, fr, nm, vl⟩ : Ch), (getL (L.take k) s.1 s.2).isSome = true) := hcl.2.2
          have hwr : IntKind.i64.wrap (sq - 1) = sq - 1 := wrap_small _ (by omega) (by omega)
          obtain ⟨W3, eW3⟩ : ∃ X, X = wr.alloc (.cells #[.int .i64 ac, .int .i64 ar, .int .i64 sq, .slice a0 ds.length c0, .int .i64 kd, .int .i64 nc, .int .i64 nr, .int .i64 pc, .int .i64 pr, .int .i64 fc, .int .i64 fr, .string nm, .string vl] 33) := ⟨_, rfl⟩
          obtain ⟨Bx, eBx⟩ : ∃ b, b = wr.heap.size := ⟨_, rfl⟩
          have HBx : Hid (W3.drew.heap[Bx]? = some (.cells #[.int .i64 ac, .int .i64 ar, .int .i64 sq, .slice a0 ds.length c0, .int .i64 kd, .int .i64 nc, .int .i64 nr, .int .i64 pc, .int .i64 pr, .int .i64 fc, .int .i64 fr, .string nm, .string vl] 33)) := by rw [eBx, eW3]; exact heap_alloc_new _ _
          have hb3 : Below wr.heap.size wr W3 := by rw [eW3]; exact (Below.refl _ _).alloc (Nat.le_refl _) _
          have HIc : Hid (IsI W3 (.slice a0 ds.length c0) ds) := IsI.below i3 hb3
          go_upto_region 13 with fail
          rw [← eW3, ← eBx]
          replace HBW : Hid (BelowH W2 W3) := HBW.out.below hb3
          clear hc hcl i3 hs3 g1 y0 y1 y2 y3 y4 y5 y6 y7 y8 y9 y10 y11 y12 eW3 eBx hb3
          by_cases hk0 : k = 0
          · have kz : ¬ 0 < k := by omega
            have kz2 : ¬ (0 : Int) < (k : Int) := by omega
            clear HPv hk0
            refine wp_region_held_drew (S := fun W' => W'.heap[Bx]? = some (.cells #[.int .i64 ac, .int .i64 ar, .int .i64 sq, .slice a0 ds.length c0, .int .i64 kd, .int .i64 nc, .int .i64 nr, .int .i64 pc, .int .i64 pr, .int .i64 fc, .int .i64 fr, .string nm, .string vl] 33)) (by kernel_rfl) HBx.out (fun hHeld => ?_)
            obtain ⟨Uz3u0, eW⟩ : ∃ X, X = W3.drew := ⟨_, rfl⟩
            have hb : Below W3.heap.size W3 Uz3u0 := by rw [eW]; exact (Below.refl _ _).drew
            replace HBW : Hid (BelowH W2 Uz3u0) := HBW.out.below hb
            replace HIc : Hid (IsI Uz3u0 (.slice a0 ds.length c0) ds) := HIc.out.below hb
            rw [← eW] at hHeld ⊢
            clear eW hb
            refine wpAnyH_take (i := 0) (oi := ⟨some 58, _, _, _, _, _⟩) (v := ?vz3ux0) rfl (by kernel_rfl) (by kernel_rfl) (by kernel_rfl) (fun _ _ _ h => h) (Or.inl ⟨by rfl, ?hyz3ux0⟩) hHeld ?restz3ux0
            case hyz3ux0 => (intro w hSw; (try dsimp only at hSw); have hk := hSw; obtain ⟨k_0, k_1, k_2, k_3, k_4, k_5, k_6, k_7, k_8, k_9, k_10, k_11, k_12⟩ := row_cells hk; go_simp; try with_reducible rfl)
            simp only [Act.put, List.setIfInBounds_toArray, List.set_cons_zero, List.set_cons_succ]
            refine wpAnyH_take (i := 1) (oi := ⟨some 59, _, _, _, _, _⟩) (v := ?vz3ux1) rfl (by kernel_rfl) (by kernel_rfl) (by kernel_rfl) (fun _ _ _ h => h) (Or.inl ⟨by rfl, ?hyz3ux1⟩) hHeld ?restz3ux1
            case hyz3ux1 => (intro w hSw; (try dsimp only at hSw); have hk := hSw; obtain ⟨k_0, k_1, k_2, k_3, k_4, k_5, k_6, k_7, k_8, k_9, k_10, k_11, k_12⟩ := row_cells hk; go_simp; try with_reducible rfl)
            simp only [Act.put, List.setIfInBounds_toArray, List.set_cons_zero, List.set_cons_succ]
            refine wpAnyH_take (i := 2) (oi := ⟨some 60, _, _, _, _, _⟩) (v := ?vz3ux2) rfl (by kernel_rfl) (by kernel_rfl) (by kernel_rfl) (fun _ _ _ h => h) (Or.inl ⟨by rfl, ?hyz3ux2⟩) hHeld ?restz3ux2
            case hyz3ux2 => (intro w hSw; (try dsimp only at hSw); have hk := hSw; obtain ⟨k_0, k_1, k_2, k_3, k_4, k_5, k_6, k_7, k_8, k_9, k_10, k_11, k_12⟩ := row_cells hk; go_simp; try with_reducible rfl)
            simp only [Act.put, List.setIfInBounds_toArray, List.set_cons_zero, List.set_cons_succ]
            refine wpAnyH_take (i := 3) (oi := ⟨some 61, _, _, _, _, _⟩) (v := undef) rfl (by kernel_rfl) (by kernel_rfl) (by kernel_rfl) (fun _ _ _ h => h) (Or.inr ⟨by rfl, rfl⟩) hHeld ?_
            simp only [Act.put, List.setIfInBounds_toArray, List.set_cons_zero, List.set_cons_succ]
            refine wpAnyH_take (i := 4) (oi := ⟨some 62, _, _, _, _, _⟩) (v := undef) rfl (by kernel_rfl) (by kernel_rfl) (by kernel_rfl) (fun _ _ _ h => h) (Or.inr ⟨by rfl, rfl⟩) hHeld ?_
            simp only [Act.put, List.setIfInBounds_toArray, List.set_cons_zero, List.set_cons_succ]
            refine wpAnyH_take (i := 5) (oi := ⟨some 63, _, _, _, _, _⟩) (v := undef) rfl (by kernel_rfl) (by kernel_rfl) (by kernel_rfl) (fun _ _ _ h => h) (Or.inr ⟨by rfl, rfl⟩) hHeld ?_
            simp only [Act.put, List.setIfInBounds_toArray, List.set_cons_zero, List.set_cons_succ]
            refine wpAnyH_take (i := 6) (oi := ⟨some 64, _, _, _, _, _⟩) (v := undef) rfl (by kernel_rfl) (by kernel_rfl) (by kernel_rfl) (fun _ _ _ h => h) (Or.inr ⟨by rfl, rfl⟩) hHeld ?_
            simp only [Act.put, List.setIfInBounds_toArray, List.set_cons_zero, List.set_cons_succ]
            refine wpAnyH_take (i := 7) (oi := ⟨some 65, _, _, _, _, _⟩) (v := undef) rfl (by kernel_rfl) (by kernel_rfl) (by kernel_rfl) (fun _ _ _ h => h) (Or.inr ⟨by rfl, rfl⟩) hHeld ?_
            simp only [Act.put, List.setIfInBounds_toArray, List.set_cons_zero, List.set_cons_succ]
            refine wpAnyH_take (i := 8) (oi := ⟨some 66, _, _, _, _, _⟩) (v := undef) rfl (by kernel_rfl) (by kernel_rfl) (by kernel_rfl) (fun _ _ _ h => h) (Or.inr ⟨by rfl, rfl⟩) hHeld ?_
            simp only [Act.put, List.setIfInBounds_toArray, List.set_cons_zero, List.set_cons_succ]
            refine wpAnyH_take (i := 9) (oi := ⟨some 67, _, _, _, _, _⟩) (v := undef) rfl (by kernel_rfl) (by kernel_rfl) (by kernel_rfl) (fun _ _ _ h => h) (Or.inr ⟨by rfl, rfl⟩) hHeld ?_
            simp only [Act.put, List.setIfInBounds_toArray, List.set_cons_zero, List.set_cons_succ]
            refine wpAnyH_take (i := 10) (oi := ⟨some 68, _, _, _, _, _⟩) (v := undef) rfl (by kernel_rfl) (by kernel_rfl) (by kernel_rfl) (fun _ _ _ h => h) (Or.inr ⟨by rfl, rfl⟩) hHeld ?_
            simp only [Act.put, List.setIfInBounds_toArray, List.set_cons_zero, List.set_cons_succ]
            refine wpAnyH_take (i := 11) (oi := ⟨some 69, _, _, _, _, _⟩) (v := undef) rfl (by kernel_rfl) (by kernel_rfl) (by kernel_rfl) (fun _ _ _ h => h) (Or.inr ⟨by rfl, rfl⟩) hHeld ?_
            simp only [Act.put, List.setIfInBounds_toArray, List.set_cons_zero, List.set_cons_succ]
            refine wpAnyH_take (i := 12) (oi := ⟨some 70, _, _, _, _, _⟩) (v := undef) rfl (by kernel_rfl) (by kernel_rfl) (by kernel_rfl) (fun _ _ _ h => h) (Or.inr ⟨by rfl, rfl⟩) hHeld ?_
            simp only [Act.put, List.setIfInBounds_toArray, List.set_cons_zero, List.set_cons_succ]
            refine wpAnyH_take (i := 13) (oi := ⟨some 71, _, _, _, _, _⟩) (v := ?vz3ux13) rfl (by kernel_rfl) (by kernel_rfl) (by kernel_rfl) (fun _ _ _ h => h) (Or.inl ⟨by rfl, ?hyz3ux13⟩) hHeld ?restz3ux13
            case hyz3ux13 => (intro w hSw; (try dsimp only at hSw); have hk := hSw; obtain ⟨k_0, k_1, k_2, k_3, k_4, k_5, k_6, k_7, k_8, k_9, k_10, k_11, k_12⟩ := row_cells hk; go_simp; try with_reducible rfl)
            simp only [Act.put, List.setIfInBounds_toArray, List.set_cons_zero, List.set_cons_succ]
            refine wpAnyH_done (by kernel_rfl) ?_ _
            have hX := hHeld
            replace HBx : Hid (Uz3u0.heap[Bx]? = some (.cells #[.int .i64 ac, .int .i64 ar, .int .i64 sq, .slice a0 ds.length c0, .int .i64 kd, .int .i64 nc, .int .i64 nr, .int .i64 pc, .int .i64 pr, .int .i64 fc, .int .i64 fr, .string nm, .string vl] 33)) := hX
            clear hHeld hX
            obtain ⟨k_0, k_1, k_2, k_3, k_4, k_5, k_6, k_7, k_8, k_9, k_10, k_11, k_12⟩ := row_cells HBx.out
            go_wp2_with fail
            refine (refClock_any _ (L.take k) _ (HTk.out _ HBW.out)).mono ?_
            rintro e W5 ⟨v5, rfl, ho5, hb5⟩
            replace HBx : Hid (W5.heap[Bx]? = some (.cells #[.int .i64 ac, .int .i64 ar, .int .i64 sq, .slice a0 ds.length c0, .int .i64 kd, .int .i64 nc, .int .i64 nr, .int .i64 pc, .int .i64 pr, .int .i64 fc, .int .i64 fr, .string nm, .string vl] 33)) := (hb5.block _ (Array.getElem?_eq_some_iff.1 HBx.out).1).trans HBx.out
            replace HBW : Hid (BelowH W2 W5) := HBW.out.below hb5
            replace HIc : Hid (IsI W5 (.slice a0 ds.length c0) ds) := HIc.out.below hb5
            have hi5 := ho5.isI (by have := clockL_length (L.take k); omega)
            obtain ⟨a5, c5, e5⟩ := hi5.form
            subst e5
            generalize clockL (L.take k) = ck at *
            have HIk : Hid (IsI W5 (.slice a5 ck.length c5) ck) := hi5
            clear k_0 k_1 k_2 k_3 k_4 k_5 k_6 k_7 k_8 k_9 k_10 k_11 k_12 hi5 ho5 hb5
            go_upto_region 16 with fail
            replace HBx : Hid (W5.drew.heap[Bx]? = some (.cells #[.int .i64 ac, .int .i64 ar, .int .i64 sq, .slice a0 ds.length c0, .int .i64 kd, .int .i64 nc, .int .i64 nr, .int .i64 pc, .int .i64 pr, .int .i64 fc, .int .i64 fr, .string nm, .string vl] 33)) := HBx.out
            refine wp_region_held_drew (S := fun W' => W'.heap[Bx]? = some (.cells #[.int .i64 ac, .int .i64 ar, .int .i64 sq, .slice a0 ds.length c0, .int .i64 kd, .int .i64 nc, .int .i64 nr, .int .i64 pc, .int .i64 pr, .int .i64 fc, .int .i64 fr, .string nm, .string vl] 33)) (by kernel_rfl) HBx.out (fun hHeld => ?_)
            obtain ⟨Uu4u0, eW⟩ : ∃ X, X = W5.drew := ⟨_, rfl⟩
            have hb : Below W5.heap.size W5 Uu4u0 := by rw [eW]; exact (Below.refl _ _).drew
            replace HBW : Hid (BelowH W2 Uu4u0) := HBW.out.below hb
            replace HIc : Hid (IsI Uu4u0 (.slice a0 ds.length c0) ds) := HIc.out.below hb
            replace HIk : Hid (IsI Uu4u0 (.slice a5 ck.length c5) ck) := HIk.out.below hb
            rw [← eW] at hHeld ⊢
            clear eW hb
            refine wpAnyH_take (i := 0) (oi := ⟨some 76, _, _, _, _, _⟩) (v := ?vu4ux0) rfl (by kernel_rfl) (by kernel_rfl) (by kernel_rfl) (fun _ _ _ h => h) (Or.inl ⟨by rfl, ?hyu4ux0⟩) hHeld ?restu4ux0
            case hyu4ux0 => (intro w hSw; (try dsimp only at hSw); have hk := hSw; obtain ⟨k_0, k_1, k_2, k_3, k_4, k_5, k_6, k_7, k_8, k_9, k_10, k_11, k_12⟩ := row_cells hk; go_simp; try with_reducible rfl)
            simp only [Act.put, List.setIfInBounds_toArray, List.set_cons_zero, List.set_cons_succ]
            refine wpAnyH_take (i := 1) (oi := ⟨some 77, _, _, _, _, _⟩) (v := ?vu4ux1) rfl (by kernel_rfl) (by kernel_rfl) (by kernel_rfl) (fun _ _ _ h => h) (Or.inl ⟨by rfl, ?hyu4ux1⟩) hHeld ?restu4ux1
            case hyu4ux1 => (intro w hSw; (try dsimp only at hSw); have hk := hSw; obtain ⟨k_0, k_1, k_2, k_3, k_4, k_5, k_6, k_7, k_8, k_9, k_10, k_11, k_12⟩ := row_cells hk; go_simp; try with_reducible rfl)
            simp only [Act.put, List.setIfInBounds_toArray, List.set_cons_zero, List.set_cons_succ]
            refine wpAnyH_take (i := 2) (oi := ⟨some 78, _, _, _, _, _⟩) (v := ?vu4ux2) rfl (by kernel_rfl) (by kernel_rfl) (by kernel_rfl) (fun _ _ _ h => h) (Or.inl ⟨by rfl, ?hyu4ux2⟩) hHeld ?restu4ux2
            case hyu4ux2 => (intro w hSw; (try dsimp only at hSw); have hk := hSw; obtain ⟨k_0, k_1, k_2, k_3, k_4, k_5, k_6, k_7, k_8, k_9, k_10, k_11, k_12⟩ := row_cells hk; go_simp; try with_reducible rfl)
            simp only [Act.put, List.setIfInBounds_toArray, List.set_cons_zero, List.set_cons_succ]
            refine wpAnyH_ready (rs := [3]) (by kernel_rfl) (by simp) ?_
            refine AllReadyH.cons (o := ⟨some 79, _, _, _, _, _⟩) rfl (fun K hK => ?_) AllReadyH.nil
            go_simp
            refine (under_any _ _ ds ck _ HIc.out HIk.out).mono ?_
            rintro e Uu4u1 ⟨rfl, hb⟩
            rw [HU.out]
            (try go_wp2_with fail)
            refine hK.out _ _ ((hb.block _ (Array.getElem?_eq_some_iff.1 hHeld).1).trans hHeld) (fun hHeld2 => ?_)
            clear hK K hHeld
            have hHeld := hHeld2
            clear hHeld2
            (try simp only [Act.put, List.setIfInBounds_toArray, List.set_cons_zero, List.set_cons_succ])
            replace HBW : Hid (BelowH W2 Uu4u1) := HBW.out.below hb
            replace HIc : Hid (IsI Uu4u1 (.slice a0 ds.length c0) ds) := HIc.out.below hb
            replace HIk : Hid (IsI Uu4u1 (.slice a5 ck.length c5) ck) := HIk.out.below hb
            clear hb
            refine wpAnyH_take (i := 4) (oi := ⟨some 80, _, _, _, _, _⟩) (v := ?vu4u_3x4) rfl (by kernel_rfl) (by kernel_rfl) (by kernel_rfl) (fun _ _ _ h => h) (Or.inl ⟨by rfl, ?hyu4u_3x4⟩) hHeld ?restu4u_3x4
            case hyu4u_3x4 => (intro w hSw; (try dsimp only at hSw); have hk := hSw; obtain ⟨k_0, k_1, k_2, k_3, k_4, k_5, k_6, k_7, k_8, k_9, k_10, k_11, k_12⟩ := row_cells hk; go_simp; try with_reducible rfl)
            simp only [Act.put, List.setIfInBounds_toArray, List.set_cons_zero, List.set_cons_succ]
            refine wpAnyH_take (i := 5) (oi := ⟨some 81, _, _, _, _, _⟩) (v := ?vu4u_3x5) rfl (by kernel_rfl) (by kernel_rfl) (by kernel_rfl) (fun _ _ _ h => h) (Or.inl ⟨by rfl, ?hyu4u_3x5⟩) hHeld ?restu4u_3x5
            case hyu4u_3x5 => (intro w hSw; (try dsimp only at hSw); have hk := hSw; obtain ⟨k_0, k_1, k_2, k_3, k_4, k_5, k_6, k_7, k_8, k_9, k_10, k_11, k_12⟩ := row_cells hk; go_simp; try with_reducible rfl)
            simp only [Act.put, List.setIfInBounds_toArray, List.set_cons_zero, List.set_cons_succ]
            refine wpAnyH_take (i := 6) (oi := ⟨some 82, _, _, _, _, _⟩) (v := ?vu4u_3x6) rfl (by kernel_rfl) (by kernel_rfl) (by kernel_rfl) (fun _ _ _ h => h) (Or.inl ⟨by rfl, ?hyu4u_3x6⟩) hHeld ?restu4u_3x6
            case hyu4u_3x6 => (intro w hSw; (try dsimp only at hSw); have hk := hSw; obtain ⟨k_0, k_1, k_2, k_3, k_4, k_5, k_6, k_7, k_8, k_9, k_10, k_11, k_12⟩ := row_cells hk; go_simp; try with_reducible rfl)
            simp only [Act.put, List.setIfInBounds_toArray, List.set_cons_zero, List.set_cons_succ]
            refine wpAnyH_take (i := 7) (oi := ⟨some 83, _, _, _, _, _⟩) (v := ?vu4u_3x7) rfl (by kernel_rfl) (by kernel_rfl) (by kernel_rfl) (fun _ _ _ h => h) (Or.inl ⟨by rfl, ?hyu4u_3x7⟩) hHeld ?restu4u_3x7
            case hyu4u_3x7 => (intro w hSw; (try dsimp only at hSw); have hk := hSw; obtain ⟨k_0, k_1, k_2, k_3, k_4, k_5, k_6, k_7, k_8, k_9, k_10, k_11, k_12⟩ := row_cells hk; go_simp; try with_reducible rfl)
            simp only [Act.put, List.setIfInBounds_toArray, List.set_cons_zero, List.set_cons_succ]
            refine wpAnyH_take (i := 8) (oi := ⟨some 84, _, _, _, _, _⟩) (v := ?vu4u_3x8) rfl (by kernel_rfl) (by kernel_rfl) (by kernel_rfl) (fun _ _ _ h => h) (Or.inl ⟨by rfl, ?hyu4u_3x8⟩) hHeld ?restu4u_3x8
            case hyu4u_3x8 => (intro w hSw; (try dsimp only at hSw); have hk := hSw; obtain ⟨k_0, k_1, k_2, k_3, k_4, k_5, k_6, k_7, k_8, k_9, k_10, k_11, k_12⟩ := row_cells hk; go_simp; try with_reducible rfl)
            simp only [Act.put, List.setIfInBounds_toArray, List.set_cons_zero, List.set_cons_succ]
            refine wpAnyH_take (i := 9) (oi := ⟨some 85, _, _, _, _, _⟩) (v := ?vu4u_3x9) rfl (by kernel_rfl) (by kernel_rfl) (by kernel_rfl) (fun _ _ _ h => h) (Or.inl ⟨by rfl, ?hyu4u_3x9⟩) hHeld ?restu4u_3x9
            case hyu4u_3x9 => (intro w hSw; (try dsimp only at hSw); have hk := hSw; obtain ⟨k_0, k_1, k_2, k_3, k_4, k_5, k_6, k_7, k_8, k_9, k_10, k_11, k_12⟩ := row_cells hk; go_simp; try with_reducible rfl)
            simp only [Act.put, List.setIfInBounds_toArray, List.set_cons_zero, List.set_cons_succ]
            refine wpAnyH_take (i := 11) (oi := ⟨some 87, _, _, _, _, _⟩) (v := ?vu4u_3x11) rfl (by kernel_rfl) (by kernel_rfl) (by kernel_rfl) (fun _ _ _ h => h) (Or.inl ⟨by rfl, ?hyu4u_3x11⟩) hHeld ?restu4u_3x11
            case hyu4u_3x11 => (intro w hSw; (try dsimp only at hSw); have hk := hSw; obtain ⟨k_0, k_1, k_2, k_3, k_4, k_5, k_6, k_7, k_8, k_9, k_10, k_11, k_12⟩ := row_cells hk; go_simp; try with_reducible rfl)
            simp only [Act.put, List.setIfInBounds_toArray, List.set_cons_zero, List.set_cons_succ]
            refine wpAnyH_take (i := 12) (oi := ⟨some 88, _, _, _, _, _⟩) (v := ?vu4u_3x12) rfl (by kernel_rfl) (by kernel_rfl) (by kernel_rfl) (fun _ _ _ h => h) (Or.inl ⟨by rfl, ?hyu4u_3x12⟩) hHeld ?restu4u_3x12
            case hyu4u_3x12 => (intro w hSw; (try dsimp only at hSw); have hk := hSw; obtain ⟨k_0, k_1, k_2, k_3, k_4, k_5, k_6, k_7, k_8, k_9, k_10, k_11, k_12⟩ := row_cells hk; go_simp; try with_reducible rfl)
            simp only [Act.put, List.setIfInBounds_toArray, List.set_cons_zero, List.set_cons_succ]
            refine wpAnyH_take (i := 13) (oi := ⟨some 89, _, _, _, _, _⟩) (v := ?vu4u_3x13) rfl (by kernel_rfl) (by kernel_rfl) (by kernel_rfl) (fun _ _ _ h => h) (Or.inl ⟨by rfl, ?hyu4u_3x13⟩) hHeld ?restu4u_3x13
            case hyu4u_3x13 => (intro w hSw; (try dsimp only at hSw); have hk := hSw; obtain ⟨k_0, k_1, k_2, k_3, k_4, k_5, k_6, k_7, k_8, k_9, k_10, k_11, k_12⟩ := row_cells hk; go_simp; try with_reducible rfl)
            simp only [Act.put, List.setIfInBounds_toArray, List.set_cons_zero, List.set_cons_succ]
            refine wpAnyH_ready (rs := [10]) (by kernel_rfl) (by simp) ?_
            refine AllReadyH.cons (o := ⟨some 86, _, _, _, _, _⟩) rfl (fun K hK => ?_) AllReadyH.nil
            go_simp
            refine (refAt_any _ ck ar _ HIk.out).mono ?_
            rintro e w' ⟨rfl, hw⟩
            replace hw := hw.symm
            subst hw
            rw [HAt.out]
            (try go_wp2_with fail)
            refine hK.out _ _ (hHeld) (fun hHeld2 => ?_)
            clear hK K hHeld
            have hHeld := hHeld2
            clear hHeld2
            (try simp only [Act.put, List.setIfInBounds_toArray, List.set_cons_zero, List.set_cons_succ])
            refine wpAnyH_take (i := 14) (oi := ⟨some 90, _, _, _, _, _⟩) (v := ?vu4u_3_10x14) rfl (by kernel_rfl) (by kernel_rfl) (by kernel_rfl) (fun _ _ _ h => h) (Or.inl ⟨by rfl, ?hyu4u_3_10x14⟩) hHeld ?restu4u_3_10x14
            case hyu4u_3_10x14 => (intro w hSw; (try dsimp only at hSw); have hk := hSw; obtain ⟨k_0, k_1, k_2, k_3, k_4, k_5, k_6, k_7, k_8, k_9, k_10, k_11, k_12⟩ := row_cells hk; go_simp; try with_reducible rfl)
            simp only [Act.put, List.setIfInBounds_toArray, List.set_cons_zero, List.set_cons_succ]
            refine wpAnyH_take (i := 15) (oi := ⟨some 91, _, _, _, _, _⟩) (v := ?vu4u_3_10x15) rfl (by kernel_rfl) (by kernel_rfl) (by kernel_rfl) (fun _ _ _ h => h) (Or.inl ⟨by rfl, ?hyu4u_3_10x15⟩) hHeld ?restu4u_3_10x15
            case hyu4u_3_10x15 => (intro w hSw; (try dsimp only at hSw); have hk := hSw; obtain ⟨k_0, k_1, k_2, k_3, k_4, k_5, k_6, k_7, k_8, k_9, k_10, k_11, k_12⟩ := row_cells hk; go_simp; try with_reducible rfl)
            simp only [Act.put, List.setIfInBounds_toArray, List.set_cons_zero, List.set_cons_succ]
            refine wpAnyH_done (by kernel_rfl) ?_ _
            have hX := hHeld
            obtain ⟨k_0, k_1, k_2, k_3, k_4, k_5, k_6, k_7, k_8, k_9, k_10, k_11, k_12⟩ := row_cells hX
            go_wp2_with fail
            refine (refNames_any ac ar sq (.slice a0 ds.length c0) kd nc nr pc pr fc fr nm vl ds _).mono ?_
            rintro e W6 ⟨v6, rfl, hs6, hb6⟩
            replace HBx : Hid (W6.heap[Bx]? = some (.cells #[.int .i64 ac, .int .i64 ar, .int .i64 sq, .slice a0 ds.length c0, .int .i64 kd, .int .i64 nc, .int .i64 nr, .int .i64 pc, .int .i64 pr, .int .i64 fc, .int .i64 fr, .string nm, .string vl] 33)) := (hb6.block _ (Array.getElem?_eq_some_iff.1 hX).1).trans hX
            replace HBW : Hid (BelowH W2 W6) := HBW.out.below hb6
            obtain ⟨N, eN⟩ : ∃ N, N = S.sortL (namesL (⟨ac, ar, sq, ds, kd, nc, nr, pc, pr, fc, fr, nm, vl⟩ : Ch)) := ⟨_, rfl⟩
            rw [← eN] at hs6
            have HN : Hid (∀ s ∈ N, (getL (L.take k) s.1 s.2).isSome = true) := fun s hs => HNm.out s ((sort_mem _ _).1 (by rw [← eN]; exact hs))
            obtain ⟨a6, c6, rfl, hc6, hl6, r6⟩ := hs6
            have R6 : Hid (N = [] ∨ ∃ b o, a6 = some ⟨b, o, none⟩ ∧ S.RowAt W6 b o N) := r6
            have HB6 : Hid (BelowH W6 W6) := Below.refl _ _
            clear r6 eN hb6 hX hHeld k_0 k_1 k_2 k_3 k_4 k_5 k_6 k_7 k_8 k_9 k_10 k_11 k_12
            go_wp2
            go_loopw [13] (fun j wq => ∃ m : Nat, m ≤ N.length ∧ j = .int .i64 (m : Int) ∧ Hid (BelowH W2 wq) ∧ Hid (BelowH W6 wq)) (fun j _ => N.length - (intOf j).toNat)
            case atStart => exact ⟨0, Nat.zero_le _, rfl, HBW, HB6⟩
            case round =>
              rename World => wq
              obtain ⟨m, hm, rfl, HBW, HBq⟩ := hrel
              by_cases hml : m < N.length
              · obtain ⟨b6, o6, rfl, g6⟩ := R6.out.resolve_left (by intro e; subst e; simp at hml)
                have HPn0 : ∀ W', BelowH W6 W' → W'.cell? ⟨b6, o6 + m * 2, none⟩ = some (.int .i64 N[m].1) ∧ W'.cell? ⟨b6, o6 + m * 2 + 1, none⟩ = some (.int .i64 N[m].2) := fun W' hb => (g6.below hb) m hml
                have HFi0 : ¬ findI (L.take k) N[m].1 N[m].2 < 0 := by
                  have h1 := HN.out N[m] (List.getElem_mem hml)
                  rcases findI_or (L.take k) N[m].1 N[m].2 with ⟨_, h2⟩ | ⟨j, _, h2, _⟩
                  · rw [h2] at h1; cases h1
                  · omega
                obtain ⟨n1, e1⟩ : ∃ x, x = N[m].1 := ⟨_, rfl⟩
                obtain ⟨n2, e2⟩ : ∃ x, x = N[m].2 := ⟨_, rfl⟩
                rw [← e1, ← e2] at HFi0
                simp only [← e1, ← e2] at HPn0
                have HPn : Hid (∀ W', BelowH W6 W' → W'.cell? ⟨b6, o6 + m * 2, none⟩ = some (.int .i64 n1) ∧ W'.cell? ⟨b6, o6 + m * 2 + 1, none⟩ = some (.int .i64 n2)) := HPn0
                have HFi : Hid (¬ findI (L.take k) n1 n2 < 0) := HFi0
                have m1 : (m : Int) < (N.length : Int) := by omega
                have m0 : (0 : Int) ≤ (m : Int) := by omega
                clear g6 HPn0 HFi0 e1 e2
                go_upto_region 22 with fail
                refine wp_region_held_drew (S := fun W' => BelowH W6 W') (by kernel_rfl) (BelowH.below HBq.out (Below.refl _ _).drew) (fun hHeld => ?_)
                obtain ⟨Uf5u0, eW⟩ : ∃ X, X = wq.drew := ⟨_, rfl⟩
                have hb : Below wq.heap.size wq Uf5u0 := by rw [eW]; exact (Below.refl _ _).drew
                replace HBW : Hid (BelowH W2 Uf5u0) := HBW.out.below hb
                replace HBq : Hid (BelowH W6 Uf5u0) := HBq.out.below hb
                rw [← eW] at hHeld ⊢
                clear eW hb
                refine wpAnyH_take (i := 0) (oi := ⟨some 100, _, _, _, _, _⟩) (v := ?vf5ux0) rfl (by kernel_rfl) (by kernel_rfl) (by kernel_rfl) (fun _ _ _ h => h) (Or.inl ⟨by rfl, ?hyf5ux0⟩) hHeld ?restf5ux0
                case hyf5ux0 => (intro w hSw; (try dsimp only at hSw); have hk := hSw; obtain ⟨p_1, p_2⟩ := HPn.out _ hk; go_simp; try with_reducible rfl)
                simp only [Act.put, List.setIfInBounds_toArray, List.set_cons_zero, List.set_cons_succ]
                refine wpAnyH_take (i := 1) (oi := ⟨some 101, _, _, _, _, _⟩) (v := ?vf5ux1) rfl (by kernel_rfl) (by kernel_rfl) (by kernel_rfl) (fun _ _ _ h => h) (Or.inl ⟨by rfl, ?hyf5ux1⟩) hHeld ?restf5ux1
                case hyf5ux1 => (intro w hSw; (try dsimp only at hSw); have hk := hSw; obtain ⟨p_1, p_2⟩ := HPn.out _ hk; go_simp; try with_reducible rfl)
                simp only [Act.put, List.setIfInBounds_toArray, List.set_cons_zero, List.set_cons_succ]
                refine wpAnyH_take (i := 2) (oi := ⟨some 102, _, _, _, _, _⟩) (v := ?vf5ux2) rfl (by kernel_rfl) (by kernel_rfl) (by kernel_rfl) (fun _ _ _ h => h) (Or.inl ⟨by rfl, ?hyf5ux2⟩) hHeld ?restf5ux2
                case hyf5ux2 => (intro w hSw; (try dsimp only at hSw); have hk := hSw; obtain ⟨p_1, p_2⟩ := HPn.out _ hk; go_simp; try with_reducible rfl)
                simp only [Act.put, List.setIfInBounds_toArray, List.set_cons_zero, List.set_cons_succ]
                refine wpAnyH_take (i := 3) (oi := ⟨some 103, _, _, _, _, _⟩) (v := ?vf5ux3) rfl (by kernel_rfl) (by kernel_rfl) (by kernel_rfl) (fun _ _ _ h => h) (Or.inl ⟨by rfl, ?hyf5ux3⟩) hHeld ?restf5ux3
                case hyf5ux3 => (intro w hSw; (try dsimp only at hSw); have hk := hSw; obtain ⟨p_1, p_2⟩ := HPn.out _ hk; go_simp; try with_reducible rfl)
                simp only [Act.put, List.setIfInBounds_toArray, List.set_cons_zero, List.set_cons_succ]
                refine wpAnyH_take (i := 4) (oi := ⟨some 104, _, _, _, _, _⟩) (v := ?vf5ux4) rfl (by kernel_rfl) (by kernel_rfl) (by kernel_rfl) (fun _ _ _ h => h) (Or.inl ⟨by rfl, ?hyf5ux4⟩) hHeld ?restf5ux4
                case hyf5ux4 => (intro w hSw; (try dsimp only at hSw); have hk := hSw; obtain ⟨p_1, p_2⟩ := HPn.out _ hk; go_simp; try with_reducible rfl)
                simp only [Act.put, List.setIfInBounds_toArray, List.set_cons_zero, List.set_cons_succ]
                refine wpAnyH_take (i := 5) (oi := ⟨some 105, _, _, _, _, _⟩) (v := ?vf5ux5) rfl (by kernel_rfl) (by kernel_rfl) (by kernel_rfl) (fun _ _ _ h => h) (Or.inl ⟨by rfl, ?hyf5ux5⟩) hHeld ?restf5ux5
                case hyf5ux5 => (intro w hSw; (try dsimp only at hSw); have hk := hSw; obtain ⟨p_1, p_2⟩ := HPn.out _ hk; go_simp; try with_reducible rfl)
                simp only [Act.put, List.setIfInBounds_toArray, List.set_cons_zero, List.set_cons_succ]
                refine wpAnyH_take (i := 6) (oi := ⟨some 106, _, _, _, _, _⟩) (v := ?vf5ux6) rfl (by kernel_rfl) (by kernel_rfl) (by kernel_rfl) (fun _ _ _ h => h) (Or.inl ⟨by rfl, ?hyf5ux6⟩) hHeld ?restf5ux6
                case hyf5ux6 => (intro w hSw; (try dsimp only at hSw); have hk := hSw; obtain ⟨p_1, p_2⟩ := HPn.out _ hk; go_simp; try with_reducible rfl)
                simp only [Act.put, List.setIfInBounds_toArray, List.set_cons_zero, List.set_cons_succ]
                refine wpAnyH_ready (rs := [7]) (by kernel_rfl) (by simp) ?_
                refine AllReadyH.cons (o := ⟨some 107, _, _, _, _, _⟩) rfl (fun K hK => ?_) AllReadyH.nil
                go_simp
                refine (find_any _ (L.take k) n1 n2 _ (HTk.out _ HBW.out)).mono ?_
                rintro e Uf5u1 ⟨rfl, hb⟩
                obtain ⟨fi, efi⟩ : ∃ x, x = findI (L.take k) n1 n2 := ⟨_, rfl⟩
                have hfi : ¬ fi < 0 := by rw [efi]; exact HFi.out
                rw [← efi]
                clear efi
                (try go_wp2_with fail)
                refine hK.out _ _ (BelowH.below hHeld hb) (fun hHeld2 => ?_)
                clear hK K hHeld
                have hHeld := hHeld2
                clear hHeld2
                (try simp only [Act.put, List.setIfInBounds_toArray, List.set_cons_zero, List.set_cons_succ])
                replace HBW : Hid (BelowH W2 Uf5u1) := HBW.out.below hb
                replace HBq : Hid (BelowH W6 Uf5u1) := HBq.out.below hb
                clear hb
                refine wpAnyH_take (i := 8) (oi := ⟨some 108, _, _, _, _, _⟩) (v := ?vf5u_7x8) rfl (by kernel_rfl) (by kernel_rfl) (by kernel_rfl) (fun _ _ _ h => h) (Or.inl ⟨by rfl, ?hyf5u_7x8⟩) hHeld ?restf5u_7x8
                case hyf5u_7x8 => (intro w hSw; (try dsimp only at hSw); have hk := hSw; obtain ⟨p_1, p_2⟩ := HPn.out _ hk; go_simp; try with_reducible rfl)
                simp only [Act.put, List.setIfInBounds_toArray, List.set_cons_zero, List.set_cons_succ]
                refine wpAnyH_done (by kernel_rfl) ?_ _
                clear hHeld
                go_wp2
                go_roundw
                case rel => exact ⟨m + 1, by omega, by go_num, HBW, HBq⟩
                case measure => simp [intOf]; omega
              · go_wp2
                go_roundw
                case rel => exact ⟨k + 1, by omega, by go_num, HBW⟩
                case measure => simp [intOf]; omega
          · obtain ⟨pa, pq, hp1, hp2⟩ := HPv.out (by omega)
            have HLt : Hid (lessS pa pq ac ar = true) := hp1
            obtain ⟨kj, hkj⟩ : ∃ j, j = k - 1 := ⟨_, rfl⟩
            have HP : Hid (∀ W', BelowH W2 W' → W'.cell? ⟨b1, o1 + kj * 13, none⟩ = some (.int .i64 pa) ∧ W'.cell? ⟨b1, o1 + kj * 13 + 1, none⟩ = some (.int .i64 pq)) := by rw [hkj]; exact hp2
            have kp : (0 : Int) < (k : Int) := by omega
            have kq : 0 < k := by omega
            have kw : IntKind.i64.wrap ((k : Int) - 1) = (kj : Int) := by rw [wrap_small _ (by omega) (by omega)]; omega
            have kw2 : IntKind.i64.wrap (kj : Int) = (kj : Int) := by rw [wrap_small _ (by omega) (by omega)]
            have kl : (kj : Int) < (L.length : Int) := by omega
            have kn : (0 : Int) ≤ (kj : Int) := by omega
            clear hp1 hp2 hkj HPv hk0
            refine wp_region_held_drew (S := fun W' => W'.heap[Bx]? = some (.cells #[.int .i64 ac, .int .i64 ar, .int .i64 sq, .slice a0 ds.length c0, .int .i64 kd, .int .i64 nc, .int .i64 nr, .int .i64 pc, .int .i64 pr, .int .i64 fc, .int .i64 fr, .string nm, .string vl] 33) ∧ BelowH W2 W') (by kernel_rfl) ⟨HBx.out, BelowH.below HBW.out (Below.refl _ _).drew⟩ (fun hHeld => ?_)
            obtain ⟨Up6u0, eW⟩ : ∃ X, X = W3.drew := ⟨_, rfl⟩
            have hb : Below W3.heap.size W3 Up6u0 := by rw [eW]; exact (Below.refl _ _).drew
            replace HBW : Hid (BelowH W2 Up6u0) := HBW.out.below hb
            replace HIc : Hid (IsI Up6u0 (.slice a0 ds.length c0) ds) := HIc.out.below hb
            rw [← eW] at hHeld ⊢
            clear eW hb
            refine wpAnyH_take (i := 0) (oi := ⟨some 58, _, _, _, _, _⟩) (v := ?vp6ux0) rfl (by kernel_rfl) (by kernel_rfl) (by kernel_rfl) (fun _ _ _ h => h) (Or.inl ⟨by rfl, ?hyp6ux0⟩) hHeld ?restp6ux0
            case hyp6ux0 => (intro w hSw; (try dsimp only at hSw); obtain ⟨hk, hk2⟩ := hSw; obtain ⟨k_0, k_1, k_2, k_3, k_4, k_5, k_6, k_7, k_8, k_9, k_10, k_11, k_12⟩ := row_cells hk; obtain ⟨p_1, p_2⟩ := HP.out _ hk2; go_simp; try with_reducible rfl)
            simp only [Act.put, List.setIfInBounds_toArray, List.set_cons_zero, List.set_cons_succ]
            refine wpAnyH_take (i := 1) (oi := ⟨some 59, _, _, _, _, _⟩) (v := ?vp6ux1) rfl (by kernel_rfl) (by kernel_rfl) (by kernel_rfl) (fun _ _ _ h => h) (Or.inl ⟨by rfl, ?hyp6ux1⟩) hHeld ?restp6ux1
            case hyp6ux1 => (intro w hSw; (try dsimp only at hSw); obtain ⟨hk, hk2⟩ := hSw; obtain ⟨k_0, k_1, k_2, k_3, k_4, k_5, k_6, k_7, k_8, k_9, k_10, k_11, k_12⟩ := row_cells hk; obtain ⟨p_1, p_2⟩ := HP.out _ hk2; go_simp; try with_reducible rfl)
            simp only [Act.put, List.setIfInBounds_toArray, List.set_cons_zero, List.set_cons_succ]
            refine wpAnyH_take (i := 2) (oi := ⟨some 60, _, _, _, _, _⟩) (v := ?vp6ux2) rfl (by kernel_rfl) (by kernel_rfl) (by kernel_rfl) (fun _ _ _ h => h) (Or.inl ⟨by rfl, ?hyp6ux2⟩) hHeld ?restp6ux2
            case hyp6ux2 => (intro w hSw; (try dsimp only at hSw); obtain ⟨hk, hk2⟩ := hSw; obtain ⟨k_0, k_1, k_2, k_3, k_4, k_5, k_6, k_7, k_8, k_9, k_10, k_11, k_12⟩ := row_cells hk; obtain ⟨p_1, p_2⟩ := HP.out _ hk2; go_simp; try with_reducible rfl)
            simp only [Act.put, List.setIfInBounds_toArray, List.set_cons_zero, List.set_cons_succ]
            refine wpAnyH_take (i := 3) (oi := ⟨some 61, _, _, _, _, _⟩) (v := ?vp6ux3) rfl (by kernel_rfl) (by kernel_rfl) (by kernel_rfl) (fun _ _ _ h => h) (Or.inl ⟨by rfl, ?hyp6ux3⟩) hHeld ?restp6ux3
            case hyp6ux3 => (intro w hSw; (try dsimp only at hSw); obtain ⟨hk, hk2⟩ := hSw; obtain ⟨k_0, k_1, k_2, k_3, k_4, k_5, k_6, k_7, k_8, k_9, k_10, k_11, k_12⟩ := row_cells hk; obtain ⟨p_1, p_2⟩ := HP.out _ hk2; go_simp; try with_reducible rfl)
            simp only [Act.put, List.setIfInBounds_toArray, List.set_cons_zero, List.set_cons_succ]
            refine wpAnyH_take (i := 4) (oi := ⟨some 62, _, _, _, _, _⟩) (v := ?vp6ux4) rfl (by kernel_rfl) (by kernel_rfl) (by kernel_rfl) (fun _ _ _ h => h) (Or.inl ⟨by rfl, ?hyp6ux4⟩) hHeld ?restp6ux4
            case hyp6ux4 => (intro w hSw; (try dsimp only at hSw); obtain ⟨hk, hk2⟩ := hSw; obtain ⟨k_0, k_1, k_2, k_3, k_4, k_5, k_6, k_7, k_8, k_9, k_10, k_11, k_12⟩ := row_cells hk; obtain ⟨p_1, p_2⟩ := HP.out _ hk2; go_simp; try with_reducible rfl)
            simp only [Act.put, List.setIfInBounds_toArray, List.set_cons_zero, List.set_cons_succ]
            refine wpAnyH_take (i := 5) (oi := ⟨some 63, _, _, _, _, _⟩) (v := ?vp6ux5) rfl (by kernel_rfl) (by kernel_rfl) (by kernel_rfl) (fun _ _ _ h => h) (Or.inl ⟨by rfl, ?hyp6ux5⟩) hHeld ?restp6ux5
            case hyp6ux5 => (intro w hSw; (try dsimp only at hSw); obtain ⟨hk, hk2⟩ := hSw; obtain ⟨k_0, k_1, k_2, k_3, k_4, k_5, k_6, k_7, k_8, k_9, k_10, k_11, k_12⟩ := row_cells hk; obtain ⟨p_1, p_2⟩ := HP.out _ hk2; go_simp; try with_reducible rfl)
            simp only [Act.put, List.setIfInBounds_toArray, List.set_cons_zero, List.set_cons_succ]
            refine wpAnyH_take (i := 6) (oi := ⟨some 64, _, _, _, _, _⟩) (v := ?vp6ux6) rfl (by kernel_rfl) (by kernel_rfl) (by kernel_rfl) (fun _ _ _ h => h) (Or.inl ⟨by rfl, ?hyp6ux6⟩) hHeld ?restp6ux6
            case hyp6ux6 => (intro w hSw; (try dsimp only at hSw); obtain ⟨hk, hk2⟩ := hSw; obtain ⟨k_0, k_1, k_2, k_3, k_4, k_5, k_6, k_7, k_8, k_9, k_10, k_11, k_12⟩ := row_cells hk; obtain ⟨p_1, p_2⟩ := HP.out _ hk2; go_simp; try with_reducible rfl)
            simp only [Act.put, List.setIfInBounds_toArray, List.set_cons_zero, List.set_cons_succ]
            refine wpAnyH_take (i := 7) (oi := ⟨some 65, _, _, _, _, _⟩) (v := ?vp6ux7) rfl (by kernel_rfl) (by kernel_rfl) (by kernel_rfl) (fun _ _ _ h => h) (Or.inl ⟨by rfl, ?hyp6ux7⟩) hHeld ?restp6ux7
            case hyp6ux7 => (intro w hSw; (try dsimp only at hSw); obtain ⟨hk, hk2⟩ := hSw; obtain ⟨k_0, k_1, k_2, k_3, k_4, k_5, k_6, k_7, k_8, k_9, k_10, k_11, k_12⟩ := row_cells hk; obtain ⟨p_1, p_2⟩ := HP.out _ hk2; go_simp; try with_reducible rfl)
            simp only [Act.put, List.setIfInBounds_toArray, List.set_cons_zero, List.set_cons_succ]
            refine wpAnyH_take (i := 8) (oi := ⟨some 66, _, _, _, _, _⟩) (v := ?vp6ux8) rfl (by kernel_rfl) (by kernel_rfl) (by kernel_rfl) (fun _ _ _ h => h) (Or.inl ⟨by rfl, ?hyp6ux8⟩) hHeld ?restp6ux8
            case hyp6ux8 => (intro w hSw; (try dsimp only at hSw); obtain ⟨hk, hk2⟩ := hSw; obtain ⟨k_0, k_1, k_2, k_3, k_4, k_5, k_6, k_7, k_8, k_9, k_10, k_11, k_12⟩ := row_cells hk; obtain ⟨p_1, p_2⟩ := HP.out _ hk2; go_simp; try with_reducible rfl)
            simp only [Act.put, List.setIfInBounds_toArray, List.set_cons_zero, List.set_cons_succ]
            refine wpAnyH_take (i := 9) (oi := ⟨some 67, _, _, _, _, _⟩) (v := ?vp6ux9) rfl (by kernel_rfl) (by kernel_rfl) (by kernel_rfl) (fun _ _ _ h => h) (Or.inl ⟨by rfl, ?hyp6ux9⟩) hHeld ?restp6ux9
            case hyp6ux9 => (intro w hSw; (try dsimp only at hSw); obtain ⟨hk, hk2⟩ := hSw; obtain ⟨k_0, k_1, k_2, k_3, k_4, k_5, k_6, k_7, k_8, k_9, k_10, k_11, k_12⟩ := row_cells hk; obtain ⟨p_1, p_2⟩ := HP.out _ hk2; go_simp; try with_reducible rfl)
            simp only [Act.put, List.setIfInBounds_toArray, List.set_cons_zero, List.set_cons_succ]
            refine wpAnyH_take (i := 10) (oi := ⟨some 68, _, _, _, _, _⟩) (v := ?vp6ux10) rfl (by kernel_rfl) (by kernel_rfl) (by kernel_rfl) (fun _ _ _ h => h) (Or.inl ⟨by rfl, ?hyp6ux10⟩) hHeld ?restp6ux10
            case hyp6ux10 => (intro w hSw; (try dsimp only at hSw); obtain ⟨hk, hk2⟩ := hSw; obtain ⟨k_0, k_1, k_2, k_3, k_4, k_5, k_6, k_7, k_8, k_9, k_10, k_11, k_12⟩ := row_cells hk; obtain ⟨p_1, p_2⟩ := HP.out _ hk2; go_simp; try with_reducible rfl)
            simp only [Act.put, List.setIfInBounds_toArray, List.set_cons_zero, List.set_cons_succ]
            refine wpAnyH_ready (rs := [11]) (by kernel_rfl) (by simp) ?_
            refine AllReadyH.cons (o := ⟨some 69, _, _, _, _, _⟩) rfl (fun K hK => ?_) AllReadyH.nil
            go_simp
            refine (refLess_bel pa pq ac ar _).mono ?_
            rintro e Up6u1 ⟨rfl, hb⟩
            rw [HLt.out]
            (try go_wp2_with fail)
            refine hK.out _ _ (⟨(hb.block _ (Array.getElem?_eq_some_iff.1 hHeld.1).1).trans hHeld.1, BelowH.below hHeld.2 hb⟩) (fun hHeld2 => ?_)
            clear hK K hHeld
            have hHeld := hHeld2
            clear hHeld2
            (try simp only [Act.put, List.setIfInBounds_toArray, List.set_cons_zero, List.set_cons_succ])
            replace HBW : Hid (BelowH W2 Up6u1) := HBW.out.below hb
            replace HIc : Hid (IsI Up6u1 (.slice a0 ds.length c0) ds) := HIc.out.below hb
            clear hb
            refine wpAnyH_take (i := 12) (oi := ⟨some 70, _, _, _, _, _⟩) (v := ?vp6u_11x12) rfl (by kernel_rfl) (by kernel_rfl) (by kernel_rfl) (fun _ _ _ h => h) (Or.inl ⟨by rfl, ?hyp6u_11x12⟩) hHeld ?restp6u_11x12
            case hyp6u_11x12 => (intro w hSw; (try dsimp only at hSw); obtain ⟨hk, hk2⟩ := hSw; obtain ⟨k_0, k_1, k_2, k_3, k_4, k_5, k_6, k_7, k_8, k_9, k_10, k_11, k_12⟩ := row_cells hk; obtain ⟨p_1, p_2⟩ := HP.out _ hk2; go_simp; try with_reducible rfl)
            simp only [Act.put, List.setIfInBounds_toArray, List.set_cons_zero, List.set_cons_succ]
            refine wpAnyH_take (i := 13) (oi := ⟨some 71, _, _, _, _, _⟩) (v := ?vp6u_11x13) rfl (by kernel_rfl) (by kernel_rfl) (by kernel_rfl) (fun _ _ _ h => h) (Or.inl ⟨by rfl, ?hyp6u_11x13⟩) hHeld ?restp6u_11x13
            case hyp6u_11x13 => (intro w hSw; (try dsimp only at hSw); obtain ⟨hk, hk2⟩ := hSw; obtain ⟨k_0, k_1, k_2, k_3, k_4, k_5, k_6, k_7, k_8, k_9, k_10, k_11, k_12⟩ := row_cells hk; obtain ⟨p_1, p_2⟩ := HP.out _ hk2; go_simp; try with_reducible rfl)
            simp only [Act.put, List.setIfInBounds_toArray, List.set_cons_zero, List.set_cons_succ]
            refine wpAnyH_done (by kernel_rfl) ?_ _
            have hX := hHeld.1
            replace HBx : Hid (Up6u1.heap[Bx]? = some (.cells #[.int .i64 ac, .int .i64 ar, .int .i64 sq, .slice a0 ds.length c0, .int .i64 kd, .int .i64 nc, .int .i64 nr, .int .i64 pc, .int .i64 pr, .int .i64 fc, .int .i64 fr, .string nm, .string vl] 33)) := hX
            clear hHeld hX
            obtain ⟨k_0, k_1, k_2, k_3, k_4, k_5, k_6, k_7, k_8, k_9, k_10, k_11, k_12⟩ := row_cells HBx.out
            go_wp2_with fail
            refine (refClock_any _ (L.take k) _ (HTk.out _ HBW.out)).mono ?_
            rintro e W5 ⟨v5, rfl, ho5, hb5⟩
            replace HBx : Hid (W5.heap[Bx]? = some (.cells #[.int .i64 ac, .int .i64 ar, .int .i64 sq, .slice a0 ds.length c0, .int .i64 kd, .int .i64 nc, .int .i64 nr, .int .i64 pc, .int .i64 pr, .int .i64 fc, .int .i64 fr, .string nm, .string vl] 33)) := (hb5.block _ (Array.getElem?_eq_some_iff.1 HBx.out).1).trans HBx.out
            replace HBW : Hid (BelowH W2 W5) := HBW.out.below hb5
            replace HIc : Hid (IsI W5 (.slice a0 ds.length c0) ds) := HIc.out.below hb5
            have hi5 := ho5.isI (by have := clockL_length (L.take k); omega)
            obtain ⟨a5, c5, e5⟩ := hi5.form
            subst e5
            generalize clockL (L.take k) = ck at *
            have HIk : Hid (IsI W5 (.slice a5 ck.length c5) ck) := hi5
            clear k_0 k_1 k_2 k_3 k_4 k_5 k_6 k_7 k_8 k_9 k_10 k_11 k_12 hi5 ho5 hb5
            go_upto_region 16 with fail
            replace HBx : Hid (W5.drew.heap[Bx]? = some (.cells #[.int .i64 ac, .int .i64 ar, .int .i64 sq, .slice a0 ds.length c0, .int .i64 kd, .int .i64 nc, .int .i64 nr, .int .i64 pc, .int .i64 pr, .int .i64 fc, .int .i64 fr, .string nm, .string vl] 33)) := HBx.out
            refine wp_region_held_drew (S := fun W' => W'.heap[Bx]? = some (.cells #[.int .i64 ac, .int .i64 ar, .int .i64 sq, .slice a0 ds.length c0, .int .i64 kd, .int .i64 nc, .int .i64 nr, .int .i64 pc, .int .i64 pr, .int .i64 fc, .int .i64 fr, .string nm, .string vl] 33)) (by kernel_rfl) HBx.out (fun hHeld => ?_)
            obtain ⟨Uu7u0, eW⟩ : ∃ X, X = W5.drew := ⟨_, rfl⟩
            have hb : Below W5.heap.size W5 Uu7u0 := by rw [eW]; exact (Below.refl _ _).drew
            replace HBW : Hid (BelowH W2 Uu7u0) := HBW.out.below hb
            replace HIc : Hid (IsI Uu7u0 (.slice a0 ds.length c0) ds) := HIc.out.below hb
            replace HIk : Hid (IsI Uu7u0 (.slice a5 ck.length c5) ck) := HIk.out.below hb
            rw [← eW] at hHeld ⊢
            clear eW hb
            refine wpAnyH_take (i := 0) (oi := ⟨some 76, _, _, _, _, _⟩) (v := ?vu7ux0) rfl (by kernel_rfl) (by kernel_rfl) (by kernel_rfl) (fun _ _ _ h => h) (Or.inl ⟨by rfl, ?hyu7ux0⟩) hHeld ?restu7ux0
            case hyu7ux0 => (intro w hSw; (try dsimp only at hSw); have hk := hSw; obtain ⟨k_0, k_1, k_2, k_3, k_4, k_5, k_6, k_7, k_8, k_9, k_10, k_11, k_12⟩ := row_cells hk; go_simp; try with_reducible rfl)
            simp only [Act.put, List.setIfInBounds_toArray, List.set_cons_zero, List.set_cons_succ]
            refine wpAnyH_take (i := 1) (oi := ⟨some 77, _, _, _, _, _⟩) (v := ?vu7ux1) rfl (by kernel_rfl) (by kernel_rfl) (by kernel_rfl) (fun _ _ _ h => h) (Or.inl ⟨by rfl, ?hyu7ux1⟩) hHeld ?restu7ux1
            case hyu7ux1 => (intro w hSw; (try dsimp only at hSw); have hk := hSw; obtain ⟨k_0, k_1, k_2, k_3, k_4, k_5, k_6, k_7, k_8, k_9, k_10, k_11, k_12⟩ := row_cells hk; go_simp; try with_reducible rfl)
            simp only [Act.put, List.setIfInBounds_toArray, List.set_cons_zero, List.set_cons_succ]
            refine wpAnyH_take (i := 2) (oi := ⟨some 78, _, _, _, _, _⟩) (v := ?vu7ux2) rfl (by kernel_rfl) (by kernel_rfl) (by kernel_rfl) (fun _ _ _ h => h) (Or.inl ⟨by rfl, ?hyu7ux2⟩) hHeld ?restu7ux2
            case hyu7ux2 => (intro w hSw; (try dsimp only at hSw); have hk := hSw; obtain ⟨k_0, k_1, k_2, k_3, k_4, k_5, k_6, k_7, k_8, k_9, k_10, k_11, k_12⟩ := row_cells hk; go_simp; try with_reducible rfl)
            simp only [Act.put, List.setIfInBounds_toArray, List.set_cons_zero, List.set_cons_succ]
            refine wpAnyH_ready (rs := [3]) (by kernel_rfl) (by simp) ?_
            refine AllReadyH.cons (o := ⟨some 79, _, _, _, _, _⟩) rfl (fun K hK => ?_) AllReadyH.nil
            go_simp
            refine (under_any _ _ ds ck _ HIc.out HIk.out).mono ?_
            rintro e Uu7u1 ⟨rfl, hb⟩
            rw [HU.out]
            (try go_wp2_with fail)
            refine hK.out _ _ ((hb.block _ (Array.getElem?_eq_some_iff.1 hHeld).1).trans hHeld) (fun hHeld2 => ?_)
            clear hK K hHeld
            have hHeld := hHeld2
            clear hHeld2
            (try simp only [Act.put, List.setIfInBounds_toArray, List.set_cons_zero, List.set_cons_succ])
            replace HBW : Hid (BelowH W2 Uu7u1) := HBW.out.below hb
            replace HIc : Hid (IsI Uu7u1 (.slice a0 ds.length c0) ds) := HIc.out.below hb
            replace HIk : Hid (IsI Uu7u1 (.slice a5 ck.length c5) ck) := HIk.out.below hb
            clear hb
            refine wpAnyH_take (i := 4) (oi := ⟨some 80, _, _, _, _, _⟩) (v := ?vu7u_3x4) rfl (by kernel_rfl) (by kernel_rfl) (by kernel_rfl) (fun _ _ _ h => h) (Or.inl ⟨by rfl, ?hyu7u_3x4⟩) hHeld ?restu7u_3x4
            case hyu7u_3x4 => (intro w hSw; (try dsimp only at hSw); have hk := hSw; obtain ⟨k_0, k_1, k_2, k_3, k_4, k_5, k_6, k_7, k_8, k_9, k_10, k_11, k_12⟩ := row_cells hk; go_simp; try with_reducible rfl)
            simp only [Act.put, List.setIfInBounds_toArray, List.set_cons_zero, List.set_cons_succ]
            refine wpAnyH_take (i := 5) (oi := ⟨some 81, _, _, _, _, _⟩) (v := ?vu7u_3x5) rfl (by kernel_rfl) (by kernel_rfl) (by kernel_rfl) (fun _ _ _ h => h) (Or.inl ⟨by rfl, ?hyu7u_3x5⟩) hHeld ?restu7u_3x5
            case hyu7u_3x5 => (intro w hSw; (try dsimp only at hSw); have hk := hSw; obtain ⟨k_0, k_1, k_2, k_3, k_4, k_5, k_6, k_7, k_8, k_9, k_10, k_11, k_12⟩ := row_cells hk; go_simp; try with_reducible rfl)
            simp only [Act.put, List.setIfInBounds_toArray, List.set_cons_zero, List.set_cons_succ]
            refine wpAnyH_take (i := 6) (oi := ⟨some 82, _, _, _, _, _⟩) (v := ?vu7u_3x6) rfl (by kernel_rfl) (by kernel_rfl) (by kernel_rfl) (fun _ _ _ h => h) (Or.inl ⟨by rfl, ?hyu7u_3x6⟩) hHeld ?restu7u_3x6
            case hyu7u_3x6 => (intro w hSw; (try dsimp only at hSw); have hk := hSw; obtain ⟨k_0, k_1, k_2, k_3, k_4, k_5, k_6, k_7, k_8, k_9, k_10, k_11, k_12⟩ := row_cells hk; go_simp; try with_reducible rfl)
            simp only [Act.put, List.setIfInBounds_toArray, List.set_cons_zero, List.set_cons_succ]
            refine wpAnyH_take (i := 7) (oi := ⟨some 83, _, _, _, _, _⟩) (v := ?vu7u_3x7) rfl (by kernel_rfl) (by kernel_rfl) (by kernel_rfl) (fun _ _ _ h => h) (Or.inl ⟨by rfl, ?hyu7u_3x7⟩) hHeld ?restu7u_3x7
            case hyu7u_3x7 => (intro w hSw; (try dsimp only at hSw); have hk := hSw; obtain ⟨k_0, k_1, k_2, k_3, k_4, k_5, k_6, k_7, k_8, k_9, k_10, k_11, k_12⟩ := row_cells hk; go_simp; try with_reducible rfl)
            simp only [Act.put, List.setIfInBounds_toArray, List.set_cons_zero, List.set_cons_succ]
            refine wpAnyH_take (i := 8) (oi := ⟨some 84, _, _, _, _, _⟩) (v := ?vu7u_3x8) rfl (by kernel_rfl) (by kernel_rfl) (by kernel_rfl) (fun _ _ _ h => h) (Or.inl ⟨by rfl, ?hyu7u_3x8⟩) hHeld ?restu7u_3x8
            case hyu7u_3x8 => (intro w hSw; (try dsimp only at hSw); have hk := hSw; obtain ⟨k_0, k_1, k_2, k_3, k_4, k_5, k_6, k_7, k_8, k_9, k_10, k_11, k_12⟩ := row_cells hk; go_simp; try with_reducible rfl)
            simp only [Act.put, List.setIfInBounds_toArray, List.set_cons_zero, List.set_cons_succ]
            refine wpAnyH_take (i := 9) (oi := ⟨some 85, _, _, _, _, _⟩) (v := ?vu7u_3x9) rfl (by kernel_rfl) (by kernel_rfl) (by kernel_rfl) (fun _ _ _ h => h) (Or.inl ⟨by rfl, ?hyu7u_3x9⟩) hHeld ?restu7u_3x9
            case hyu7u_3x9 => (intro w hSw; (try dsimp only at hSw); have hk := hSw; obtain ⟨k_0, k_1, k_2, k_3, k_4, k_5, k_6, k_7, k_8, k_9, k_10, k_11, k_12⟩ := row_cells hk; go_simp; try with_reducible rfl)
            simp only [Act.put, List.setIfInBounds_toArray, List.set_cons_zero, List.set_cons_succ]
            refine wpAnyH_take (i := 11) (oi := ⟨some 87, _, _, _, _, _⟩) (v := ?vu7u_3x11) rfl (by kernel_rfl) (by kernel_rfl) (by kernel_rfl) (fun _ _ _ h => h) (Or.inl ⟨by rfl, ?hyu7u_3x11⟩) hHeld ?restu7u_3x11
            case hyu7u_3x11 => (intro w hSw; (try dsimp only at hSw); have hk := hSw; obtain ⟨k_0, k_1, k_2, k_3, k_4, k_5, k_6, k_7, k_8, k_9, k_10, k_11, k_12⟩ := row_cells hk; go_simp; try with_reducible rfl)
            simp only [Act.put, List.setIfInBounds_toArray, List.set_cons_zero, List.set_cons_succ]
            refine wpAnyH_take (i := 12) (oi := ⟨some 88, _, _, _, _, _⟩) (v := ?vu7u_3x12) rfl (by kernel_rfl) (by kernel_rfl) (by kernel_rfl) (fun _ _ _ h => h) (Or.inl ⟨by rfl, ?hyu7u_3x12⟩) hHeld ?restu7u_3x12
            case hyu7u_3x12 => (intro w hSw; (try dsimp only at hSw); have hk := hSw; obtain ⟨k_0, k_1, k_2, k_3, k_4, k_5, k_6, k_7, k_8, k_9, k_10, k_11, k_12⟩ := row_cells hk; go_simp; try with_reducible rfl)
            simp only [Act.put, List.setIfInBounds_toArray, List.set_cons_zero, List.set_cons_succ]
            refine wpAnyH_take (i := 13) (oi := ⟨some 89, _, _, _, _, _⟩) (v := ?vu7u_3x13) rfl (by kernel_rfl) (by kernel_rfl) (by kernel_rfl) (fun _ _ _ h => h) (Or.inl ⟨by rfl, ?hyu7u_3x13⟩) hHeld ?restu7u_3x13
            case hyu7u_3x13 => (intro w hSw; (try dsimp only at hSw); have hk := hSw; obtain ⟨k_0, k_1, k_2, k_3, k_4, k_5, k_6, k_7, k_8, k_9, k_10, k_11, k_12⟩ := row_cells hk; go_simp; try with_reducible rfl)
            simp only [Act.put, List.setIfInBounds_toArray, List.set_cons_zero, List.set_cons_succ]
            refine wpAnyH_ready (rs := [10]) (by kernel_rfl) (by simp) ?_
            refine AllReadyH.cons (o := ⟨some 86, _, _, _, _, _⟩) rfl (fun K hK => ?_) AllReadyH.nil
            go_simp
            refine (refAt_any _ ck ar _ HIk.out).mono ?_
            rintro e w' ⟨rfl, hw⟩
            replace hw := hw.symm
            subst hw
            rw [HAt.out]
            (try go_wp2_with fail)
            refine hK.out _ _ (hHeld) (fun hHeld2 => ?_)
            clear hK K hHeld
            have hHeld := hHeld2
            clear hHeld2
            (try simp only [Act.put, List.setIfInBounds_toArray, List.set_cons_zero, List.set_cons_succ])
            refine wpAnyH_take (i := 14) (oi := ⟨some 90, _, _, _, _, _⟩) (v := ?vu7u_3_10x14) rfl (by kernel_rfl) (by kernel_rfl) (by kernel_rfl) (fun _ _ _ h => h) (Or.inl ⟨by rfl, ?hyu7u_3_10x14⟩) hHeld ?restu7u_3_10x14
            case hyu7u_3_10x14 => (intro w hSw; (try dsimp only at hSw); have hk := hSw; obtain ⟨k_0, k_1, k_2, k_3, k_4, k_5, k_6, k_7, k_8, k_9, k_10, k_11, k_12⟩ := row_cells hk; go_simp; try with_reducible rfl)
            simp only [Act.put, List.setIfInBounds_toArray, List.set_cons_zero, List.set_cons_succ]
            refine wpAnyH_take (i := 15) (oi := ⟨some 91, _, _, _, _, _⟩) (v := ?vu7u_3_10x15) rfl (by kernel_rfl) (by kernel_rfl) (by kernel_rfl) (fun _ _ _ h => h) (Or.inl ⟨by rfl, ?hyu7u_3_10x15⟩) hHeld ?restu7u_3_10x15
            case hyu7u_3_10x15 => (intro w hSw; (try dsimp only at hSw); have hk := hSw; obtain ⟨k_0, k_1, k_2, k_3, k_4, k_5, k_6, k_7, k_8, k_9, k_10, k_11, k_12⟩ := row_cells hk; go_simp; try with_reducible rfl)
            simp only [Act.put, List.setIfInBounds_toArray, List.set_cons_zero, List.set_cons_succ]
            refine wpAnyH_done (by kernel_rfl) ?_ _
            have hX := hHeld
            obtain ⟨k_0, k_1, k_2, k_3, k_4, k_5, k_6, k_7, k_8, k_9, k_10, k_11, k_12⟩ := row_cells hX
            go_wp2_with fail
            refine (refNames_any ac ar sq (.slice a0 ds.length c0) kd nc nr pc pr fc fr nm vl ds _).mono ?_
            rintro e W6 ⟨v6, rfl, hs6, hb6⟩
            replace HBx : Hid (W6.heap[Bx]? = some (.cells #[.int .i64 ac, .int .i64 ar, .int .i64 sq, .slice a0 ds.length c0, .int .i64 kd, .int .i64 nc, .int .i64 nr, .int .i64 pc, .int .i64 pr, .int .i64 fc, .int .i64 fr, .string nm, .string vl] 33)) := (hb6.block _ (Array.getElem?_eq_some_iff.1 hX).1).trans hX
            replace HBW : Hid (BelowH W2 W6) := HBW.out.below hb6
            obtain ⟨N, eN⟩ : ∃ N, N = S.sortL (namesL (⟨ac, ar, sq, ds, kd, nc, nr, pc, pr, fc, fr, nm, vl⟩ : Ch)) := ⟨_, rfl⟩
            rw [← eN] at hs6
            have HN : Hid (∀ s ∈ N, (getL (L.take k) s.1 s.2).isSome = true) := fun s hs => HNm.out s ((sort_mem _ _).1 (by rw [← eN]; exact hs))
            obtain ⟨a6, c6, rfl, hc6, hl6, r6⟩ := hs6
            have R6 : Hid (N = [] ∨ ∃ b o, a6 = some ⟨b, o, none⟩ ∧ S.RowAt W6 b o N) := r6
            have HB6 : Hid (BelowH W6 W6) := Below.refl _ _
            clear r6 eN hb6 hX hHeld k_0 k_1 k_2 k_3 k_4 k_5 k_6 k_7 k_8 k_9 k_10 k_11 k_12
            go_wp2
            go_loopw [13] (fun j wq => ∃ m : Nat, m ≤ N.length ∧ j = .int .i64 (m : Int) ∧ Hid (BelowH W2 wq) ∧ Hid (BelowH W6 wq)) (fun j _ => N.length - (intOf j).toNat)
            case atStart => exact ⟨0, Nat.zero_le _, rfl, HBW, HB6⟩
            case round =>
              rename World => wq
              obtain ⟨m, hm, rfl, HBW, HBq⟩ := hrel
              by_cases hml : m < N.length
              · obtain ⟨b6, o6, rfl, g6⟩ := R6.out.resolve_left (by intro e; subst e; simp at hml)
                have HPn0 : ∀ W', BelowH W6 W' → W'.cell? ⟨b6, o6 + m * 2, none⟩ = some (.int .i64 N[m].1) ∧ W'.cell? ⟨b6, o6 + m * 2 + 1, none⟩ = some (.int .i64 N[m].2) := fun W' hb => (g6.below hb) m hml
                have HFi0 : ¬ findI (L.take k) N[m].1 N[m].2 < 0 := by
                  have h1 := HN.out N[m] (List.getElem_mem hml)
                  rcases findI_or (L.take k) N[m].1 N[m].2 with ⟨_, h2⟩ | ⟨j, _, h2, _⟩
                  · rw [h2] at h1; cases h1
                  · omega
                obtain ⟨n1, e1⟩ : ∃ x, x = N[m].1 := ⟨_, rfl⟩
                obtain ⟨n2, e2⟩ : ∃ x, x = N[m].2 := ⟨_, rfl⟩
                rw [← e1, ← e2] at HFi0
                simp only [← e1, ← e2] at HPn0
                have HPn : Hid (∀ W', BelowH W6 W' → W'.cell? ⟨b6, o6 + m * 2, none⟩ = some (.int .i64 n1) ∧ W'.cell? ⟨b6, o6 + m * 2 + 1, none⟩ = some (.int .i64 n2)) := HPn0
                have HFi : Hid (¬ findI (L.take k) n1 n2 < 0) := HFi0
                have m1 : (m : Int) < (N.length : Int) := by omega
                have m0 : (0 : Int) ≤ (m : Int) := by omega
                clear g6 HPn0 HFi0 e1 e2
                go_upto_region 22 with fail
                refine wp_region_held_drew (S := fun W' => BelowH W6 W') (by kernel_rfl) (BelowH.below HBq.out (Below.refl _ _).drew) (fun hHeld => ?_)
                obtain ⟨Uf8u0, eW⟩ : ∃ X, X = wq.drew := ⟨_, rfl⟩
                have hb : Below wq.heap.size wq Uf8u0 := by rw [eW]; exact (Below.refl _ _).drew
                replace HBW : Hid (BelowH W2 Uf8u0) := HBW.out.below hb
                replace HBq : Hid (BelowH W6 Uf8u0) := HBq.out.below hb
                rw [← eW] at hHeld ⊢
                clear eW hb
                refine wpAnyH_take (i := 0) (oi := ⟨some 100, _, _, _, _, _⟩) (v := ?vf8ux0) rfl (by kernel_rfl) (by kernel_rfl) (by kernel_rfl) (fun _ _ _ h => h) (Or.inl ⟨by rfl, ?hyf8ux0⟩) hHeld ?restf8ux0
                case hyf8ux0 => (intro w hSw; (try dsimp only at hSw); have hk := hSw; obtain ⟨p_1, p_2⟩ := HPn.out _ hk; go_simp; try with_reducible rfl)
                simp only [Act.put, List.setIfInBounds_toArray, List.set_cons_zero, List.set_cons_succ]
                refine wpAnyH_take (i := 1) (oi := ⟨some 101, _, _, _, _, _⟩) (v := ?vf8ux1) rfl (by kernel_rfl) (by kernel_rfl) (by kernel_rfl) (fun _ _ _ h => h) (Or.inl ⟨by rfl, ?hyf8ux1⟩) hHeld ?restf8ux1
                case hyf8ux1 => (intro w hSw; (try dsimp only at hSw); have hk := hSw; obtain ⟨p_1, p_2⟩ := HPn.out _ hk; go_simp; try with_reducible rfl)
                simp only [Act.put, List.setIfInBounds_toArray, List.set_cons_zero, List.set_cons_succ]
                refine wpAnyH_take (i := 2) (oi := ⟨some 102, _, _, _, _, _⟩) (v := ?vf8ux2) rfl (by kernel_rfl) (by kernel_rfl) (by kernel_rfl) (fun _ _ _ h => h) (Or.inl ⟨by rfl, ?hyf8ux2⟩) hHeld ?restf8ux2
                case hyf8ux2 => (intro w hSw; (try dsimp only at hSw); have hk := hSw; obtain ⟨p_1, p_2⟩ := HPn.out _ hk; go_simp; try with_reducible rfl)
                simp only [Act.put, List.setIfInBounds_toArray, List.set_cons_zero, List.set_cons_succ]
                refine wpAnyH_take (i := 3) (oi := ⟨some 103, _, _, _, _, _⟩) (v := ?vf8ux3) rfl (by kernel_rfl) (by kernel_rfl) (by kernel_rfl) (fun _ _ _ h => h) (Or.inl ⟨by rfl, ?hyf8ux3⟩) hHeld ?restf8ux3
                case hyf8ux3 => (intro w hSw; (try dsimp only at hSw); have hk := hSw; obtain ⟨p_1, p_2⟩ := HPn.out _ hk; go_simp; try with_reducible rfl)
                simp only [Act.put, List.setIfInBounds_toArray, List.set_cons_zero, List.set_cons_succ]
                refine wpAnyH_take (i := 4) (oi := ⟨some 104, _, _, _, _, _⟩) (v := ?vf8ux4) rfl (by kernel_rfl) (by kernel_rfl) (by kernel_rfl) (fun _ _ _ h => h) (Or.inl ⟨by rfl, ?hyf8ux4⟩) hHeld ?restf8ux4
                case hyf8ux4 => (intro w hSw; (try dsimp only at hSw); have hk := hSw; obtain ⟨p_1, p_2⟩ := HPn.out _ hk; go_simp; try with_reducible rfl)
                simp only [Act.put, List.setIfInBounds_toArray, List.set_cons_zero, List.set_cons_succ]
                refine wpAnyH_take (i := 5) (oi := ⟨some 105, _, _, _, _, _⟩) (v := ?vf8ux5) rfl (by kernel_rfl) (by kernel_rfl) (by kernel_rfl) (fun _ _ _ h => h) (Or.inl ⟨by rfl, ?hyf8ux5⟩) hHeld ?restf8ux5
                case hyf8ux5 => (intro w hSw; (try dsimp only at hSw); have hk := hSw; obtain ⟨p_1, p_2⟩ := HPn.out _ hk; go_simp; try with_reducible rfl)
                simp only [Act.put, List.setIfInBounds_toArray, List.set_cons_zero, List.set_cons_succ]
                refine wpAnyH_take (i := 6) (oi := ⟨some 106, _, _, _, _, _⟩) (v := ?vf8ux6) rfl (by kernel_rfl) (by kernel_rfl) (by kernel_rfl) (fun _ _ _ h => h) (Or.inl ⟨by rfl, ?hyf8ux6⟩) hHeld ?restf8ux6
                case hyf8ux6 => (intro w hSw; (try dsimp only at hSw); have hk := hSw; obtain ⟨p_1, p_2⟩ := HPn.out _ hk; go_simp; try with_reducible rfl)
                simp only [Act.put, List.setIfInBounds_toArray, List.set_cons_zero, List.set_cons_succ]
                refine wpAnyH_ready (rs := [7]) (by kernel_rfl) (by simp) ?_
                refine AllReadyH.cons (o := ⟨some 107, _, _, _, _, _⟩) rfl (fun K hK => ?_) AllReadyH.nil
                go_simp
                refine (find_any _ (L.take k) n1 n2 _ (HTk.out _ HBW.out)).mono ?_
                rintro e Uf8u1 ⟨rfl, hb⟩
                obtain ⟨fi, efi⟩ : ∃ x, x = findI (L.take k) n1 n2 := ⟨_, rfl⟩
                have hfi : ¬ fi < 0 := by rw [efi]; exact HFi.out
                rw [← efi]
                clear efi
                (try go_wp2_with fail)
                refine hK.out _ _ (BelowH.below hHeld hb) (fun hHeld2 => ?_)
                clear hK K hHeld
                have hHeld := hHeld2
                clear hHeld2
                (try simp only [Act.put, List.setIfInBounds_toArray, List.set_cons_zero, List.set_cons_succ])
                replace HBW : Hid (BelowH W2 Uf8u1) := HBW.out.below hb
                replace HBq : Hid (BelowH W6 Uf8u1) := HBq.out.below hb
                clear hb
                refine wpAnyH_take (i := 8) (oi := ⟨some 108, _, _, _, _, _⟩) (v := ?vf8u_7x8) rfl (by kernel_rfl) (by kernel_rfl) (by kernel_rfl) (fun _ _ _ h => h) (Or.inl ⟨by rfl, ?hyf8u_7x8⟩) hHeld ?restf8u_7x8
                case hyf8u_7x8 => (intro w hSw; (try dsimp only at hSw); have hk := hSw; obtain ⟨p_1, p_2⟩ := HPn.out _ hk; go_simp; try with_reducible rfl)
                simp only [Act.put, List.setIfInBounds_toArray, List.set_cons_zero, List.set_cons_succ]
                refine wpAnyH_done (by kernel_rfl) ?_ _
                clear hHeld
                go_wp2
                go_roundw
                case rel => exact ⟨m + 1, by omega, by go_num, HBW, HBq⟩
                case measure => simp [intOf]; omega
              · go_wp2
                go_roundw
                case rel => exact ⟨k + 1, by omega, by go_num, HBW⟩
                case measure => simp [intOf]; omega
        · go_wp2_with fail
          refine (awake_any _).mono ?_
          rintro e w8 ⟨rfl, hb8⟩
          have HB8 : Hid (Below w.heap.size w w8) := HW2.out.trans ((HBW.out.trans (hb8.mono HBW.out.size)).mono HW2.out.size)
          clear hb8
          go_wp2
          go_ret
          exact ⟨rfl, HB8.out⟩
theorem closed_walk (room : Int) (v : Value) (l : List Ch) (w : World) (_ : (Lit.int .i64 room).wf = true) (h : IsH w v l) :
    Calls Try.prog 3 #[.int .i64 room, v] w fun e w' => e = .returned (.bool true) ∧ Below w.heap.size w w' := closed_any room v l w h

end Go.Proofs.Ytcnolipgmpjcbab
