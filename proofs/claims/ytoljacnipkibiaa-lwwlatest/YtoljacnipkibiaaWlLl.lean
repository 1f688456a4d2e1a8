/- LwwLatest. -/
import Derived.Test.YtoljacnipkibiaaLwH
namespace Go.Proofs.Ytoljacnipkibiaa
open Go.RowKit
set_option linter.unusedVariables false
set_option linter.unusedSimpArgs false

def wasB (l : List Rg) (k : Nat) (m : Rg) : Bool := (l.take k).any fun y => decide (y = m)
theorem wasB_next (l : List Rg) (k : Nat) (m : Rg) (h : k < l.length) : wasB l (k + 1) m = (wasB l k m || decide (l[k] = m)) := by
  unfold wasB
  rw [List.take_succ_eq_append_getElem h, List.any_append]
  simp
theorem latest_of {l R : List Rg} (h : BestL l R) {x : Rg} (hx : x ∈ l) : okR x = true → ∃ m, atR R (keyR x) = m ∧ hasR R (keyR x) = true ∧ winB x m = false ∧ wasB l l.length m = true := fun ho => by
  obtain ⟨m, hm, hk, hw⟩ := h.best x hx ho
  have hg := getR_mem h.srt hm
  rw [hk] at hg
  refine ⟨m, by unfold atR; rw [hg]; rfl, by unfold hasR; rw [hg]; rfl, hw, ?_⟩
  unfold wasB
  rw [List.take_length, List.any_eq_true]
  exact ⟨m, (h.mem m hm).1, by simp⟩
/-- Registers alone. -/
structure RgS (w : World) (rb : Nat) (F : Nat → Prop) (R : List Rg) (W : World) : Prop where
  row : RegOk F W rb R
  hi : ∀ j, F j → w.heap.size ≤ j
  bel : Below w.heap.size w W
theorem LdS.rgs {w W : World} {rb : Nat} {F : Nat → Prop} {dv : Value} {R1 R2 : List Rg} (h : LdS w rb F dv R1 R2 W) : RgS w rb F R1 W := ⟨h.row, h.hi, h.bel⟩
section
variable {w W W' : World} {rb : Nat} {F : Nat → Prop} {R : List Rg}
theorem RgS.below (h : RgS w rb F R W) (hb : Below W.heap.size W W') : RgS w rb F R W' := ⟨h.row.below hb, h.hi, h.bel.trans (hb.mono h.bel.size)⟩
theorem RgS.rv (h : RgS w rb F R W) : RegV F W (.pointer (some ⟨rb, 0, none⟩)) R := h.row.rv
/-- A box that is none of theirs is written. -/
theorem RgS.box {b : Nat} (h : RgS w rb F R W) (ht : Touch (fun j => j = b) W W') (hF : ¬ F b) (hb : w.heap.size ≤ b) : RgS w rb F R W' :=
  ⟨h.row.touch ht (fun k hk e => hF (e ▸ hk)), h.hi, h.bel.trans (ht.below (fun k e => by omega) h.bel.size)⟩
end

set_option maxRecDepth 100000 in
set_option maxHeartbeats 16000000 in
theorem lwwLatest_walk (v : Value) (l : List Rg) (w : World) (h : IsRg w v l) :
    Calls Try.prog 8 #[v] w fun e w' => e = .returned (.bool true) ∧ Below w.heap.size w w' := by
  obtain ⟨a1, c1, e1⟩ := h.1.form
  subst e1
  have hlen := h.1.len
  have HLs : Hid (IsRg w (.slice a1 l.length c1) l) := h
  clear h
  go_enter Try.func8, Try.ntmps8
  go_wp2_with fail
  refine (laid_any _ l _ HLs.out).mono ?_
  rintro e w1 ⟨rb, F, ad, cd, rfl, hM⟩
  have hBest : BestL (l.take 200) (laidL l) := laidT_best _
  obtain ⟨R, eR⟩ : ∃ R, R = laidL l := ⟨_, rfl⟩
  rw [← eR] at hM hBest
  rw [← eR]
  have HM : Hid (RgS w rb F R w1) := hM.rgs
  clear hM eR
  by_cases hl : 200 < l.length
  · obtain ⟨l2, el2⟩ : ∃ X, X = l.take 200 := ⟨_, rfl⟩
    have h200 : (200 : Nat) = l2.length := by rw [el2]; simp; omega
    have HL2 : Hid (IsRg w (.slice a1 l2.length c1) l2) := (by rw [← h200, el2]; exact ⟨HLs.out.1.take rfl 200 (by omega), fun r hr => HLs.out.2 r (List.mem_of_mem_take hr)⟩)
    have HBe : Hid (BestL l2 R) := by rw [el2]; exact hBest
    have hk : (200 : Int) < (l.length : Int) := by omega
    obtain ⟨b0, o0, cap, ev, _, hbl, _⟩ := HLs.out.1.row7 (i := 0) (by omega)
    injection ev with ev1 ev2 ev3
    subst ev1
    have hc : l.length ≤ c1 := by (obtain ⟨_, _, e, hc, _⟩ := HLs.out.1; injection e with _ _ e3; omega)
    clear ev2 ev3 el2 hBest hbl
    go_wp2_with fail
    have hl2 : l2.length ≤ 200 := by omega
    clear h200 hk HLs
    obtain ⟨a2, ea2⟩ : ∃ X : Option Addr, X = some ⟨b0, o0, none⟩ := ⟨_, rfl⟩
    rw [← ea2] at HL2
    rw [← ea2]
    clear ea2
    go_loopw [5, 6, 7, 8, 9] (fun iv _ _ _ _ wr => ∃ i : Nat, iv = .int .i64 (i : Int) ∧ i ≤ l2.length ∧ Hid (RgS w rb F R wr)) (fun iv _ _ _ _ _ => l2.length - (intOf iv).toNat)
    case atStart => exact ⟨0, rfl, Nat.zero_le _, HM⟩
    case round =>
      clear HM
      obtain ⟨i, rfl, hil, HM⟩ := hrel
      by_cases hlt : i < l2.length
      · obtain ⟨b, o, cap, ev, _, hbl, hrow⟩ := HL2.out.1.row7 (i := i) hlt
        injection ev with ev1 ev2 ev3
        subst ev1
        subst ev3
        have hx := List.getElem_mem hlt
        obtain ⟨x, ex⟩ : ∃ x, x = l2[i] := ⟨_, rfl⟩
        rw [← ex] at hrow hx
        have HSm : Hid (x.nm.size ≤ 281474976710656) := Nat.le_trans (HL2.out.2 x hx).1 (by decide)
        have HGl : Hid (b < w.heap.size) := hbl
        have HBx0 := latest_of HBe.out hx
        have RH0 : Hid (w.cell? ⟨b, o + i * 7, none⟩ = some (.int .i64 x.nd.1)) := hrow 0 _ rfl
        have RH1 : Hid (w.cell? ⟨b, o + i * 7 + 1, none⟩ = some (.int .i64 x.nd.2)) := hrow 1 _ rfl
        have RH2 : Hid (w.cell? ⟨b, o + i * 7 + 2, none⟩ = some (.string x.nm)) := hrow 2 _ rfl
        have RH3 : Hid (w.cell? ⟨b, o + i * 7 + 3, none⟩ = some (.int .i64 x.at_.1)) := hrow 3 _ rfl
        have RH4 : Hid (w.cell? ⟨b, o + i * 7 + 4, none⟩ = some (.int .i64 x.at_.2)) := hrow 4 _ rfl
        have RH5 : Hid (w.cell? ⟨b, o + i * 7 + 5, none⟩ = some (.string x.vl)) := hrow 5 _ rfl
        have RH6 : Hid (w.cell? ⟨b, o + i * 7 + 6, none⟩ = some (.bool x.gn)) := hrow 6 _ rfl
        have k1 : (i : Int) < (l2.length : Int) := by omega
        have k0 : (0 : Int) ≤ (i : Int) := by omega
        have HBx : Hid (okR x = true → ∃ m, atR R (keyR x) = m ∧ hasR R (keyR x) = true ∧ winB x m = false ∧ wasB l2 l2.length m = true) := HBx0
        clear ex hrow hbl ev2 hx HBx0
        have r0 : wr.cell? ⟨b, o + i * 7, none⟩ = some (.int .i64 x.nd.1) := (HM.out.bel.cell (p := ⟨b, o + i * 7, none⟩) HGl.out).trans RH0.out
        have r1 : wr.cell? ⟨b, o + i * 7 + 1, none⟩ = some (.int .i64 x.nd.2) := (HM.out.bel.cell (p := ⟨b, o + i * 7 + 1, none⟩) HGl.out).trans RH1.out
        have r2 : wr.cell? ⟨b, o + i * 7 + 2, none⟩ = some (.string x.nm) := (HM.out.bel.cell (p := ⟨b, o + i * 7 + 2, none⟩) HGl.out).trans RH2.out
        have r3 : wr.cell? ⟨b, o + i * 7 + 3, none⟩ = some (.int .i64 x.at_.1) := (HM.out.bel.cell (p := ⟨b, o + i * 7 + 3, none⟩) HGl.out).trans RH3.out
        have r4 : wr.cell? ⟨b, o + i * 7 + 4, none⟩ = some (.int .i64 x.at_.2) := (HM.out.bel.cell (p := ⟨b, o + i * 7 + 4, none⟩) HGl.out).trans RH4.out
        have r5 : wr.cell? ⟨b, o + i * 7 + 5, none⟩ = some (.string x.vl) := (HM.out.bel.cell (p := ⟨b, o + i * 7 + 5, none⟩) HGl.out).trans RH5.out
        have r6 : wr.cell? ⟨b, o + i * 7 + 6, none⟩ = some (.bool x.gn) := (HM.out.bel.cell (p := ⟨b, o + i * 7 + 6, none⟩) HGl.out).trans RH6.out
        go_wp2_with fail
        clear r0 r1 r2 r3 r4 r5 r6
        refine (refCheck_any x HSm.out _).mono ?_
        rintro e w6 ⟨rfl, hb⟩
        replace HM : Hid (RgS w rb F R w6) := HM.out.below hb
        clear hb
        by_cases h0 : chkR x = 0
        · obtain ⟨m, q1, q2, q3, q4⟩ := HBx.out (decide_eq_true h0)
          have HAt : Hid (atR R (keyR x) = m) := q1
          have HHas : Hid (hasR R (keyR x) = true) := q2
          have HWn : Hid (winB x m = false) := q3
          have HWa : Hid (wasB l2 l2.length m = true) := q4
          rw [h0]
          clear q1 q2 q3 q4 h0 HBx
          go_wp2_with fail
          refine wp_region_held_drew (S := fun W' => Below w.heap.size w W') (by kernel_rfl) HM.out.bel.drew (fun hHeld => ?_)
          obtain ⟨Ug17u0, eW⟩ : ∃ X, X = w6.drew := ⟨_, rfl⟩
          have hb : Below w6.heap.size w6 Ug17u0 := by rw [eW]; exact (Below.refl _ _).drew
          replace HM : Hid (RgS w rb F R Ug17u0) := HM.out.below hb
          rw [← eW] at hHeld ⊢
          clear eW hb
          refine tkW 0 (some 33) (v := ?_) ?_ hHeld ?_
          rotate_left
          · (intro ww _; go_simp; try with_reducible rfl)
          refine tkW 1 (some 34) (v := ?_) ?_ hHeld ?_
          rotate_left
          · (intro ww _; go_simp; try with_reducible rfl)
          refine tkW 2 (some 35) (v := ?_) ?_ hHeld ?_
          rotate_left
          · (intro ww _; go_simp; try with_reducible rfl)
          refine tkW 3 (some 36) (v := ?_) ?_ hHeld ?_
          rotate_left
          · (intro ww hSw; (try dsimp only at hSw); go_simp; try with_reducible rfl)
          refine tkW 4 (some 37) (v := ?_) ?_ hHeld ?_
          rotate_left
          · (intro ww _; go_simp; try with_reducible rfl)
          refine tkW 5 (some 38) (v := ?_) ?_ hHeld ?_
          rotate_left
          · (intro ww hSw; (try dsimp only at hSw); have hbw := hSw; have r0 : ww.cell? ⟨b, o + i * 7, none⟩ = some (.int .i64 x.nd.1) := (hbw.cell (p := ⟨b, o + i * 7, none⟩) HGl.out).trans RH0.out; have r1 : ww.cell? ⟨b, o + i * 7 + 1, none⟩ = some (.int .i64 x.nd.2) := (hbw.cell (p := ⟨b, o + i * 7 + 1, none⟩) HGl.out).trans RH1.out; have r2 : ww.cell? ⟨b, o + i * 7 + 2, none⟩ = some (.string x.nm) := (hbw.cell (p := ⟨b, o + i * 7 + 2, none⟩) HGl.out).trans RH2.out; have r3 : ww.cell? ⟨b, o + i * 7 + 3, none⟩ = some (.int .i64 x.at_.1) := (hbw.cell (p := ⟨b, o + i * 7 + 3, none⟩) HGl.out).trans RH3.out; have r4 : ww.cell? ⟨b, o + i * 7 + 4, none⟩ = some (.int .i64 x.at_.2) := (hbw.cell (p := ⟨b, o + i * 7 + 4, none⟩) HGl.out).trans RH4.out; have r5 : ww.cell? ⟨b, o + i * 7 + 5, none⟩ = some (.string x.vl) := (hbw.cell (p := ⟨b, o + i * 7 + 5, none⟩) HGl.out).trans RH5.out; have r6 : ww.cell? ⟨b, o + i * 7 + 6, none⟩ = some (.bool x.gn) := (hbw.cell (p := ⟨b, o + i * 7 + 6, none⟩) HGl.out).trans RH6.out; go_simp; try with_reducible rfl)
          refine tkW 6 (some 39) (v := ?_) ?_ hHeld ?_
          rotate_left
          · (intro ww _; go_simp; try with_reducible rfl)
          refine tkW 7 (some 40) (v := ?_) ?_ hHeld ?_
          rotate_left
          · (intro ww _; go_simp; try with_reducible rfl)
          refine tkW 8 (some 41) (v := ?_) ?_ hHeld ?_
          rotate_left
          · (intro ww hSw; (try dsimp only at hSw); go_simp; try with_reducible rfl)
          refine tkW 9 (some 42) (v := ?_) ?_ hHeld ?_
          rotate_left
          · (intro ww _; go_simp; try with_reducible rfl)
          refine tkW 10 (some 43) (v := ?_) ?_ hHeld ?_
          rotate_left
          · (intro ww hSw; (try dsimp only at hSw); have hbw := hSw; have r0 : ww.cell? ⟨b, o + i * 7, none⟩ = some (.int .i64 x.nd.1) := (hbw.cell (p := ⟨b, o + i * 7, none⟩) HGl.out).trans RH0.out; have r1 : ww.cell? ⟨b, o + i * 7 + 1, none⟩ = some (.int .i64 x.nd.2) := (hbw.cell (p := ⟨b, o + i * 7 + 1, none⟩) HGl.out).trans RH1.out; have r2 : ww.cell? ⟨b, o + i * 7 + 2, none⟩ = some (.string x.nm) := (hbw.cell (p := ⟨b, o + i * 7 + 2, none⟩) HGl.out).trans RH2.out; have r3 : ww.cell? ⟨b, o + i * 7 + 3, none⟩ = some (.int .i64 x.at_.1) := (hbw.cell (p := ⟨b, o + i * 7 + 3, none⟩) HGl.out).trans RH3.out; have r4 : ww.cell? ⟨b, o + i * 7 + 4, none⟩ = some (.int .i64 x.at_.2) := (hbw.cell (p := ⟨b, o + i * 7 + 4, none⟩) HGl.out).trans RH4.out; have r5 : ww.cell? ⟨b, o + i * 7 + 5, none⟩ = some (.string x.vl) := (hbw.cell (p := ⟨b, o + i * 7 + 5, none⟩) HGl.out).trans RH5.out; have r6 : ww.cell? ⟨b, o + i * 7 + 6, none⟩ = some (.bool x.gn) := (hbw.cell (p := ⟨b, o + i * 7 + 6, none⟩) HGl.out).trans RH6.out; go_simp; try with_reducible rfl)
          refine wpAnyH_ready (rs := [11, 15]) (by kernel_rfl) (by simp) ?_
          refine AllReadyH.cons (o := ⟨some 44, _, _, _, _, _⟩) rfl (fun K hK => ?_) (AllReadyH.cons (o := ⟨some 6, _, _, _, _, _⟩) rfl (fun K hK => ?_) AllReadyH.nil)
          · go_simp
            refine (get_v HM.out.rv (keyR x)).mono ?_
            rintro e Ug17u1 ⟨rfl, hb⟩
            rw [HAt.out, HHas.out]
            (try go_wp2_with fail)
            refine hK.out _ _ (hHeld.trans (hb.mono hHeld.size)) (fun hHeld2 => ?_)
            clear hK K hHeld
            have hHeld := hHeld2
            clear hHeld2
            (try simp only [Act.put, List.setIfInBounds_toArray, List.set_cons_zero, List.set_cons_succ])
            replace HM : Hid (RgS w rb F R Ug17u1) := HM.out.below hb
            clear hb
            refine tkW 12 (some 32) (v := ?_) ?_ hHeld ?_
            rotate_left
            · (intro ww _; go_simp; try with_reducible rfl)
            refine tkW 13 (some 45) (v := ?_) ?_ hHeld ?_
            rotate_left
            · (intro ww _; go_simp; try with_reducible rfl)
            refine tkW 14 (some 46) (v := ?_) ?_ hHeld ?_
            rotate_left
            · (intro ww _; go_simp; try with_reducible rfl)
            refine wpAnyH_ready (rs := [15]) (by kernel_rfl) (by simp) ?_
            refine AllReadyH.cons (o := ⟨some 6, _, _, _, _, _⟩) rfl (fun K hK => ?_) AllReadyH.nil
            have HN60 : Hid (w.heap.size ≤ Ug17u1.heap.size ∧ ¬ F Ug17u1.heap.size) := ⟨hHeld.size, fun h => Nat.lt_irrefl _ (HM.out.row.lt _ h)⟩
            have hbx : Below Ug17u1.heap.size Ug17u1 (Ug17u1.alloc (.cells #[.int .i64 0, .int .i64 0, .string ⟨#[]⟩, .int .i64 0, .int .i64 0, .string ⟨#[]⟩, .bool false] 25)) := (Below.refl _ _).alloc (Nat.le_refl _) _
            go_simp
            refine hK.out _ _ (hHeld.trans (hbx.mono hHeld.size)) (fun hHeld2 => ?_)
            clear hK K hHeld
            have hHeld := hHeld2
            clear hHeld2
            (try simp only [Act.put, List.setIfInBounds_toArray, List.set_cons_zero, List.set_cons_succ])
            obtain ⟨Ug17u2, eW⟩ : ∃ X, X = Ug17u1.alloc (.cells #[.int .i64 0, .int .i64 0, .string ⟨#[]⟩, .int .i64 0, .int .i64 0, .string ⟨#[]⟩, .bool false] 25) := ⟨_, rfl⟩
            have hb : Below Ug17u1.heap.size Ug17u1 Ug17u2 := by rw [eW]; exact (Below.refl _ _).alloc (Nat.le_refl _) _
            replace HM : Hid (RgS w rb F R Ug17u2) := HM.out.below hb
            have HZ : Hid (Ug17u2.heap[Ug17u1.heap.size]? = some (.cells #[.int .i64 0, .int .i64 0, .string ⟨#[]⟩, .int .i64 0, .int .i64 0, .string ⟨#[]⟩, .bool false] 25)) := by rw [eW]; exact heap_alloc_new _ _
            rw [← eW] at hHeld ⊢
            clear eW
            clear hbx
            obtain ⟨b6, enb⟩ : ∃ b, b = Ug17u1.heap.size := ⟨_, rfl⟩
            have HN6 : Hid (w.heap.size ≤ b6 ∧ ¬ F b6) := by rw [enb]; exact HN60.out
            rw [← enb] at HZ ⊢
            clear enb
            clear HN60
            clear hb
            refine wpAnyH_ready (rs := [16]) (by kernel_rfl) (by simp) ?_
            refine AllReadyH.cons (o := ⟨none, _, _, _, _, _⟩) rfl (fun K hK => ?_) AllReadyH.nil
            refine step_store_row rfl 25 (.tmp 6) (.tmp 45) rfl b6 25 #[.int .i64 0, .int .i64 0, .string ⟨#[]⟩, .int .i64 0, .int .i64 0, .string ⟨#[]⟩, .bool false] (rgCells m).toArray rfl rfl HZ.out sizeReg rfl (by simp [Value.oneCell', rgCells]) ?_
            obtain ⟨Ug17u3, eW⟩ : ∃ Y, Y = Ug17u2.setRow b6 (rgCells m).toArray := ⟨_, rfl⟩
            have ht9 : Touch (fun j => j = b6) Ug17u2 Ug17u3 := by rw [eW]; exact Touch.of_grown (grown_setRow _ _ _) fun j e _ => by cases e; rfl
            have HZ2 : Hid (BxC b6 (rgCells m) 25 Ug17u3) := by rw [eW]; exact setRow_same HZ.out
            have hS2 : Below w.heap.size w Ug17u3 := hHeld.trans (ht9.below (fun j e => by have := HN6.out.1; omega) hHeld.size)
            have HM9 : Hid (RgS w rb F R Ug17u3) := HM.out.box ht9 HN6.out.2 HN6.out.1
            rw [← eW]
            refine hK.out _ _ (hS2) (fun hHeld2 => ?_)
            clear hK K hHeld
            have hHeld := hHeld2
            clear hHeld2
            (try simp only [Act.put, List.setIfInBounds_toArray, List.set_cons_zero, List.set_cons_succ])
            clear eW hS2 HZ ht9 HM
            refine tkW 17 (some 7) (v := ?_) ?_ hHeld ?_
            rotate_left
            · (intro ww _; go_simp; try with_reducible rfl)
            refine wpAnyH_done (by kernel_rfl) ?_ _
            clear hHeld
            go_wp2_with fail
            refine wp_region_held_drew (S := fun W' => Below w.heap.size w W' ∧ BxC b6 (rgCells m) 25 W') (by kernel_rfl) ⟨HM9.out.bel.drew, HZ2.out.below (Below.refl _ _).drew⟩ (fun hHeld => ?_)
            obtain ⟨Un18u0, eW⟩ : ∃ X, X = Ug17u3.drew := ⟨_, rfl⟩
            have hb : Below Ug17u3.heap.size Ug17u3 Un18u0 := by rw [eW]; exact (Below.refl _ _).drew
            replace HM9 : Hid (RgS w rb F R Un18u0) := HM9.out.below hb
            replace HZ2 : Hid (BxC b6 (rgCells m) 25 Un18u0) := HZ2.out.below hb
            rw [← eW] at hHeld ⊢
            clear eW hb
            refine tkW 0 (some 47) (v := ?_) ?_ hHeld ?_
            rotate_left
            · (intro ww _; go_simp; try with_reducible rfl)
            refine tkW 1 (some 48) (v := ?_) ?_ hHeld ?_
            rotate_left
            · (intro ww _; go_simp; try with_reducible rfl)
            refine tkW 2 (some 49) (v := ?_) ?_ hHeld ?_
            rotate_left
            · (intro ww _; go_simp; try with_reducible rfl)
            refine tkW 3 (some 50) (v := ?_) ?_ hHeld ?_
            rotate_left
            · (intro ww _; go_simp; try with_reducible rfl)
            refine tkW 4 (some 51) (v := ?_) ?_ hHeld ?_
            rotate_left
            · (intro ww _; go_simp; try with_reducible rfl)
            refine tkW 5 (some 52) (v := ?_) ?_ hHeld ?_
            rotate_left
            · (intro ww hSw; (try dsimp only at hSw); go_simp; try with_reducible rfl)
            refine tkW 6 (some 53) (v := ?_) ?_ hHeld ?_
            rotate_left
            · (intro ww hSw; (try dsimp only at hSw); have hbw := hSw.1; have r0 : ww.cell? ⟨b, o + i * 7, none⟩ = some (.int .i64 x.nd.1) := (hbw.cell (p := ⟨b, o + i * 7, none⟩) HGl.out).trans RH0.out; have r1 : ww.cell? ⟨b, o + i * 7 + 1, none⟩ = some (.int .i64 x.nd.2) := (hbw.cell (p := ⟨b, o + i * 7 + 1, none⟩) HGl.out).trans RH1.out; have r2 : ww.cell? ⟨b, o + i * 7 + 2, none⟩ = some (.string x.nm) := (hbw.cell (p := ⟨b, o + i * 7 + 2, none⟩) HGl.out).trans RH2.out; have r3 : ww.cell? ⟨b, o + i * 7 + 3, none⟩ = some (.int .i64 x.at_.1) := (hbw.cell (p := ⟨b, o + i * 7 + 3, none⟩) HGl.out).trans RH3.out; have r4 : ww.cell? ⟨b, o + i * 7 + 4, none⟩ = some (.int .i64 x.at_.2) := (hbw.cell (p := ⟨b, o + i * 7 + 4, none⟩) HGl.out).trans RH4.out; have r5 : ww.cell? ⟨b, o + i * 7 + 5, none⟩ = some (.string x.vl) := (hbw.cell (p := ⟨b, o + i * 7 + 5, none⟩) HGl.out).trans RH5.out; have r6 : ww.cell? ⟨b, o + i * 7 + 6, none⟩ = some (.bool x.gn) := (hbw.cell (p := ⟨b, o + i * 7 + 6, none⟩) HGl.out).trans RH6.out; go_simp; try with_reducible rfl)
            refine tkW 7 (some 54) (v := ?_) ?_ hHeld ?_
            rotate_left
            · (intro ww hSw; (try dsimp only at hSw); have hbx := hSw.2; have z0 := hbx.cell 0 _ rfl; have z1 := hbx.cell 1 _ rfl; have z2 := hbx.cell 2 _ rfl; have z3 := hbx.cell 3 _ rfl; have z4 := hbx.cell 4 _ rfl; have z5 := hbx.cell 5 _ rfl; have z6 := hbx.cell 6 _ rfl; go_simp; try with_reducible rfl)
            refine wpAnyH_ready (rs := [8]) (by kernel_rfl) (by simp) ?_
            refine AllReadyH.cons (o := ⟨some 55, _, _, _, _, _⟩) rfl (fun K hK => ?_) AllReadyH.nil
            go_simp
            refine (wins_any x m _).mono ?_
            rintro e Un18u1 ⟨rfl, hb⟩
            rw [HWn.out]
            (try go_wp2_with fail)
            refine hK.out _ _ (⟨hHeld.1.trans (hb.mono hHeld.1.size), hHeld.2.below hb⟩) (fun hHeld2 => ?_)
            clear hK K hHeld
            have hHeld := hHeld2
            clear hHeld2
            (try simp only [Act.put, List.setIfInBounds_toArray, List.set_cons_zero, List.set_cons_succ])
            replace HM9 : Hid (RgS w rb F R Un18u1) := HM9.out.below hb
            replace HZ2 : Hid (BxC b6 (rgCells m) 25 Un18u1) := HZ2.out.below hb
            clear hb
            refine tkW 9 (some 56) (v := ?_) ?_ hHeld ?_
            rotate_left
            · (intro ww _; go_simp; try with_reducible rfl)
            refine wpAnyH_done (by kernel_rfl) ?_ _
            clear hHeld
            have HM0 : Hid (RgS w rb F R Un18u1) := HM9.out
            have HZ0 : Hid (BxC b6 (rgCells m) 25 Un18u1) := HZ2.out
            clear HM9 HZ2 HN6 HAt HHas HWn RH0 RH1 RH2 RH3 RH4 RH5 RH6
            go_wp2_with fail
            go_loopw [8, 9] (fun wv kv wr2 => ∃ k : Nat, kv = .int .i64 (k : Int) ∧ k ≤ l2.length ∧ wv = .bool (wasB l2 k m) ∧ Hid (RgS w rb F R wr2) ∧ Hid (BxC b6 (rgCells m) 25 wr2)) (fun _ kv _ => l2.length - (intOf kv).toNat)
            case atStart => exact ⟨0, rfl, Nat.zero_le _, rfl, HM0, HZ0⟩
            case round =>
              rename World => wq
              clear HM0 HZ0
              obtain ⟨k, rfl, hkl, rfl, HM9, HZ2⟩ := hrel
              by_cases hkt : k < l2.length
              · obtain ⟨b9, o9, cap9, ev, _, hbl, hrow⟩ := HL2.out.1.row7 (i := k) hkt
                injection ev with ev1 ev2 ev3
                injection ev1 with ev4
                injection ev4 with ev5 ev6 _
                subst ev5
                subst ev6
                clear ev2 ev3
                have HWs0 := wasB_next l2 k m hkt
                obtain ⟨y, ey⟩ : ∃ y, y = l2[k] := ⟨_, rfl⟩
                rw [← ey] at hrow HWs0
                have HWs : Hid (wasB l2 (k + 1) m = (wasB l2 k m || decide (y = m))) := HWs0
                have YH0 : Hid (w.cell? ⟨b, o + k * 7, none⟩ = some (.int .i64 y.nd.1)) := hrow 0 _ rfl
                have YH1 : Hid (w.cell? ⟨b, o + k * 7 + 1, none⟩ = some (.int .i64 y.nd.2)) := hrow 1 _ rfl
                have YH2 : Hid (w.cell? ⟨b, o + k * 7 + 2, none⟩ = some (.string y.nm)) := hrow 2 _ rfl
                have YH3 : Hid (w.cell? ⟨b, o + k * 7 + 3, none⟩ = some (.int .i64 y.at_.1)) := hrow 3 _ rfl
                have YH4 : Hid (w.cell? ⟨b, o + k * 7 + 4, none⟩ = some (.int .i64 y.at_.2)) := hrow 4 _ rfl
                have YH5 : Hid (w.cell? ⟨b, o + k * 7 + 5, none⟩ = some (.string y.vl)) := hrow 5 _ rfl
                have YH6 : Hid (w.cell? ⟨b, o + k * 7 + 6, none⟩ = some (.bool y.gn)) := hrow 6 _ rfl
                have kk1 : (k : Int) < (l2.length : Int) := by omega
                have kk0 : (0 : Int) ≤ (k : Int) := by omega
                clear ey hrow hbl HWs0
                go_wp2_with fail
                cases hw : wasB l2 k m with
                | true =>
                  have HW2 : Hid (wasB l2 (k + 1) m = true) := (by show _ = _; rw [HWs.out, hw]; rfl)
                  clear hw HWs
                  refine wp_region_held_drew (S := fun W' => Below w.heap.size w W' ∧ BxC b6 (rgCells m) 25 W') (by kernel_rfl) ⟨HM9.out.bel.drew, HZ2.out.below (Below.refl _ _).drew⟩ (fun hHeld => ?_)
                  obtain ⟨Ut19u0, eW⟩ : ∃ X, X = wq.drew := ⟨_, rfl⟩
                  have hb : Below wq.heap.size wq Ut19u0 := by rw [eW]; exact (Below.refl _ _).drew
                  replace HM9 : Hid (RgS w rb F R Ut19u0) := HM9.out.below hb
                  replace HZ2 : Hid (BxC b6 (rgCells m) 25 Ut19u0) := HZ2.out.below hb
                  rw [← eW] at hHeld ⊢
                  clear eW hb
                  refine tkW 0 (some 63) (v := ?_) ?_ hHeld ?_
                  rotate_left
                  · (intro ww _; go_simp; try with_reducible rfl)
                  refine tkW 1 (some 64) (v := ?_) ?_ hHeld ?_
                  rotate_left
                  · (intro ww _; go_simp; try with_reducible rfl)
                  refine tkU 2 (some 65) hHeld ?_
                  refine tkU 3 (some 66) hHeld ?_
                  refine tkU 4 (some 67) hHeld ?_
                  refine tkU 5 (some 68) hHeld ?_
                  refine tkU 6 (some 69) hHeld ?_
                  refine tkU 7 (some 70) hHeld ?_
                  refine tkW 8 (some 71) (v := ?_) ?_ hHeld ?_
                  rotate_left
                  · (intro ww _; go_simp; try with_reducible rfl)
                  refine tkW 9 (some 8) (v := ?_) ?_ hHeld ?_
                  rotate_left
                  · (intro ww _; go_simp; try with_reducible rfl)
                  refine wpAnyH_done (by kernel_rfl) ?_ _
                  clear hHeld
                  go_wp2
                  go_roundw
                  case rel => exact ⟨k + 1, by go_num, by omega, by (rw [HW2.out]), HM9, HZ2⟩
                  case measure => simp [intOf]; omega
                | false =>
                  have HW2 : Hid (wasB l2 (k + 1) m = decide (y = m)) := (by show _ = _; rw [HWs.out, hw]; rfl)
                  clear hw HWs
                  refine wp_region_held_drew (S := fun W' => Below w.heap.size w W' ∧ BxC b6 (rgCells m) 25 W') (by kernel_rfl) ⟨HM9.out.bel.drew, HZ2.out.below (Below.refl _ _).drew⟩ (fun hHeld => ?_)
                  obtain ⟨Uf20u0, eW⟩ : ∃ X, X = wq.drew := ⟨_, rfl⟩
                  have hb : Below wq.heap.size wq Uf20u0 := by rw [eW]; exact (Below.refl _ _).drew
                  replace HM9 : Hid (RgS w rb F R Uf20u0) := HM9.out.below hb
                  replace HZ2 : Hid (BxC b6 (rgCells m) 25 Uf20u0) := HZ2.out.below hb
                  rw [← eW] at hHeld ⊢
                  clear eW hb
                  refine tkW 0 (some 63) (v := ?_) ?_ hHeld ?_
                  rotate_left
                  · (intro ww _; go_simp; try with_reducible rfl)
                  refine tkW 1 (some 64) (v := ?_) ?_ hHeld ?_
                  rotate_left
                  · (intro ww _; go_simp; try with_reducible rfl)
                  refine tkW 2 (some 65) (v := ?_) ?_ hHeld ?_
                  rotate_left
                  · (intro ww _; go_simp; try with_reducible rfl)
                  refine tkW 3 (some 66) (v := ?_) ?_ hHeld ?_
                  rotate_left
                  · (intro ww _; go_simp; try with_reducible rfl)
                  refine tkW 4 (some 67) (v := ?_) ?_ hHeld ?_
                  rotate_left
                  · (intro ww hSw; (try dsimp only at hSw); go_simp; try with_reducible rfl)
                  refine tkW 5 (some 68) (v := ?_) ?_ hHeld ?_
                  rotate_left
                  · (intro ww hSw; (try dsimp only at hSw); have hbw := hSw.1; have y0 : ww.cell? ⟨b, o + k * 7, none⟩ = some (.int .i64 y.nd.1) := (hbw.cell (p := ⟨b, o + k * 7, none⟩) HGl.out).trans YH0.out; have y1 : ww.cell? ⟨b, o + k * 7 + 1, none⟩ = some (.int .i64 y.nd.2) := (hbw.cell (p := ⟨b, o + k * 7 + 1, none⟩) HGl.out).trans YH1.out; have y2 : ww.cell? ⟨b, o + k * 7 + 2, none⟩ = some (.string y.nm) := (hbw.cell (p := ⟨b, o + k * 7 + 2, none⟩) HGl.out).trans YH2.out; have y3 : ww.cell? ⟨b, o + k * 7 + 3, none⟩ = some (.int .i64 y.at_.1) := (hbw.cell (p := ⟨b, o + k * 7 + 3, none⟩) HGl.out).trans YH3.out; have y4 : ww.cell? ⟨b, o + k * 7 + 4, none⟩ = some (.int .i64 y.at_.2) := (hbw.cell (p := ⟨b, o + k * 7 + 4, none⟩) HGl.out).trans YH4.out; have y5 : ww.cell? ⟨b, o + k * 7 + 5, none⟩ = some (.string y.vl) := (hbw.cell (p := ⟨b, o + k * 7 + 5, none⟩) HGl.out).trans YH5.out; have y6 : ww.cell? ⟨b, o + k * 7 + 6, none⟩ = some (.bool y.gn) := (hbw.cell (p := ⟨b, o + k * 7 + 6, none⟩) HGl.out).trans YH6.out; go_simp; try with_reducible rfl)
                  refine tkW 6 (some 69) (v := ?_) ?_ hHeld ?_
                  rotate_left
                  · (intro ww hSw; (try dsimp only at hSw); have hbx := hSw.2; have z0 := hbx.cell 0 _ rfl; have z1 := hbx.cell 1 _ rfl; have z2 := hbx.cell 2 _ rfl; have z3 := hbx.cell 3 _ rfl; have z4 := hbx.cell 4 _ rfl; have z5 := hbx.cell 5 _ rfl; have z6 := hbx.cell 6 _ rfl; go_simp; try with_reducible rfl)
                  refine tkW 7 (some 70) (v := .bool (decide (y = m))) ?_ hHeld ?_
                  · (intro ww hSw; (try dsimp only at hSw); exact execEql (p := y) (q := m) rfl rfl ww)
                  refine tkW 8 (some 71) (v := ?_) ?_ hHeld ?_
                  rotate_left
                  · (intro ww _; go_simp; try with_reducible rfl)
                  refine tkW 9 (some 8) (v := ?_) ?_ hHeld ?_
                  rotate_left
                  · (intro ww _; go_simp; try with_reducible rfl)
                  refine wpAnyH_done (by kernel_rfl) ?_ _
                  clear hHeld
                  go_wp2
                  go_roundw
                  case rel => exact ⟨k + 1, by go_num, by omega, by (rw [HW2.out]), HM9, HZ2⟩
                  case measure => simp [intOf]; omega
              · have HWt : Hid (wasB l2 k m = true) := (by show _ = _; rw [show k = l2.length by omega]; exact HWa.out)
                rw [HWt.out]
                clear HWt
                go_wp2
                go_roundw
                case rel => exact ⟨i + 1, by go_num, by omega, HM9⟩
                case measure => simp [intOf]; omega
          · have HN60 : Hid (w.heap.size ≤ Ug17u0.heap.size ∧ ¬ F Ug17u0.heap.size) := ⟨hHeld.size, fun h => Nat.lt_irrefl _ (HM.out.row.lt _ h)⟩
            have hbx : Below Ug17u0.heap.size Ug17u0 (Ug17u0.alloc (.cells #[.int .i64 0, .int .i64 0, .string ⟨#[]⟩, .int .i64 0, .int .i64 0, .string ⟨#[]⟩, .bool false] 25)) := (Below.refl _ _).alloc (Nat.le_refl _) _
            go_simp
            refine hK.out _ _ (hHeld.trans (hbx.mono hHeld.size)) (fun hHeld2 => ?_)
            clear hK K hHeld
            have hHeld := hHeld2
            clear hHeld2
            (try simp only [Act.put, List.setIfInBounds_toArray, List.set_cons_zero, List.set_cons_succ])
            obtain ⟨Ug17u4, eW⟩ : ∃ X, X = Ug17u0.alloc (.cells #[.int .i64 0, .int .i64 0, .string ⟨#[]⟩, .int .i64 0, .int .i64 0, .string ⟨#[]⟩, .bool false] 25) := ⟨_, rfl⟩
            have hb : Below Ug17u0.heap.size Ug17u0 Ug17u4 := by rw [eW]; exact (Below.refl _ _).alloc (Nat.le_refl _) _
            replace HM : Hid (RgS w rb F R Ug17u4) := HM.out.below hb
            have HZ : Hid (Ug17u4.heap[Ug17u0.heap.size]? = some (.cells #[.int .i64 0, .int .i64 0, .string ⟨#[]⟩, .int .i64 0, .int .i64 0, .string ⟨#[]⟩, .bool false] 25)) := by rw [eW]; exact heap_alloc_new _ _
            rw [← eW] at hHeld ⊢
            clear eW
            clear hbx
            obtain ⟨b6, enb⟩ : ∃ b, b = Ug17u0.heap.size := ⟨_, rfl⟩
            have HN6 : Hid (w.heap.size ≤ b6 ∧ ¬ F b6) := by rw [enb]; exact HN60.out
            rw [← enb] at HZ ⊢
            clear enb
            clear HN60
            clear hb
            refine wpAnyH_ready (rs := [11]) (by kernel_rfl) (by simp) ?_
            refine AllReadyH.cons (o := ⟨some 44, _, _, _, _, _⟩) rfl (fun K hK => ?_) AllReadyH.nil
            go_simp
            refine (get_v HM.out.rv (keyR x)).mono ?_
            rintro e Ug17u5 ⟨rfl, hb⟩
            rw [HAt.out, HHas.out]
            (try go_wp2_with fail)
            refine hK.out _ _ (hHeld.trans (hb.mono hHeld.size)) (fun hHeld2 => ?_)
            clear hK K hHeld
            have hHeld := hHeld2
            clear hHeld2
            (try simp only [Act.put, List.setIfInBounds_toArray, List.set_cons_zero, List.set_cons_succ])
            replace HM : Hid (RgS w rb F R Ug17u5) := HM.out.below hb
            replace HZ : Hid (Ug17u5.heap[b6]? = some (.cells #[.int .i64 0, .int .i64 0, .string ⟨#[]⟩, .int .i64 0, .int .i64 0, .string ⟨#[]⟩, .bool false] 25)) := (hb.block _ (row_lt HZ.out)).trans HZ.out
            clear hb
            refine tkW 12 (some 32) (v := ?_) ?_ hHeld ?_
            rotate_left
            · (intro ww _; go_simp; try with_reducible rfl)
            refine tkW 13 (some 45) (v := ?_) ?_ hHeld ?_
            rotate_left
            · (intro ww _; go_simp; try with_reducible rfl)
            refine tkW 14 (some 46) (v := ?_) ?_ hHeld ?_
            rotate_left
            · (intro ww _; go_simp; try with_reducible rfl)
            refine wpAnyH_ready (rs := [16]) (by kernel_rfl) (by simp) ?_
            refine AllReadyH.cons (o := ⟨none, _, _, _, _, _⟩) rfl (fun K hK => ?_) AllReadyH.nil
            refine step_store_row rfl 25 (.tmp 6) (.tmp 45) rfl b6 25 #[.int .i64 0, .int .i64 0, .string ⟨#[]⟩, .int .i64 0, .int .i64 0, .string ⟨#[]⟩, .bool false] (rgCells m).toArray rfl rfl HZ.out sizeReg rfl (by simp [Value.oneCell', rgCells]) ?_
            obtain ⟨Ug17u6, eW⟩ : ∃ Y, Y = Ug17u5.setRow b6 (rgCells m).toArray := ⟨_, rfl⟩
            have ht9 : Touch (fun j => j = b6) Ug17u5 Ug17u6 := by rw [eW]; exact Touch.of_grown (grown_setRow _ _ _) fun j e _ => by cases e; rfl
            have HZ2 : Hid (BxC b6 (rgCells m) 25 Ug17u6) := by rw [eW]; exact setRow_same HZ.out
            have hS2 : Below w.heap.size w Ug17u6 := hHeld.trans (ht9.below (fun j e => by have := HN6.out.1; omega) hHeld.size)
            have HM9 : Hid (RgS w rb F R Ug17u6) := HM.out.box ht9 HN6.out.2 HN6.out.1
            rw [← eW]
            refine hK.out _ _ (hS2) (fun hHeld2 => ?_)
            clear hK K hHeld
            have hHeld := hHeld2
            clear hHeld2
            (try simp only [Act.put, List.setIfInBounds_toArray, List.set_cons_zero, List.set_cons_succ])
            clear eW hS2 HZ ht9 HM
            refine tkW 17 (some 7) (v := ?_) ?_ hHeld ?_
            rotate_left
            · (intro ww _; go_simp; try with_reducible rfl)
            refine wpAnyH_done (by kernel_rfl) ?_ _
            clear hHeld
            go_wp2_with fail
            refine wp_region_held_drew (S := fun W' => Below w.heap.size w W' ∧ BxC b6 (rgCells m) 25 W') (by kernel_rfl) ⟨HM9.out.bel.drew, HZ2.out.below (Below.refl _ _).drew⟩ (fun hHeld => ?_)
            obtain ⟨Un21u0, eW⟩ : ∃ X, X = Ug17u6.drew := ⟨_, rfl⟩
            have hb : Below Ug17u6.heap.size Ug17u6 Un21u0 := by rw [eW]; exact (Below.refl _ _).drew
            replace HM9 : Hid (RgS w rb F R Un21u0) := HM9.out.below hb
            replace HZ2 : Hid (BxC b6 (rgCells m) 25 Un21u0) := HZ2.out.below hb
            rw [← eW] at hHeld ⊢
            clear eW hb
            refine tkW 0 (some 47) (v := ?_) ?_ hHeld ?_
            rotate_left
            · (intro ww _; go_simp; try with_reducible rfl)
            refine tkW 1 (some 48) (v := ?_) ?_ hHeld ?_
            rotate_left
            · (intro ww _; go_simp; try with_reducible rfl)
            refine tkW 2 (some 49) (v := ?_) ?_ hHeld ?_
            rotate_left
            · (intro ww _; go_simp; try with_reducible rfl)
            refine tkW 3 (some 50) (v := ?_) ?_ hHeld ?_
            rotate_left
            · (intro ww _; go_simp; try with_reducible rfl)
            refine tkW 4 (some 51) (v := ?_) ?_ hHeld ?_
            rotate_left
            · (intro ww _; go_simp; try with_reducible rfl)
            refine tkW 5 (some 52) (v := ?_) ?_ hHeld ?_
            rotate_left
            · (intro ww hSw; (try dsimp only at hSw); go_simp; try with_reducible rfl)
            refine tkW 6 (some 53) (v := ?_) ?_ hHeld ?_
            rotate_left
            · (intro ww hSw; (try dsimp only at hSw); have hbw := hSw.1; have r0 : ww.cell? ⟨b, o + i * 7, none⟩ = some (.int .i64 x.nd.1) := (hbw.cell (p := ⟨b, o + i * 7, none⟩) HGl.out).trans RH0.out; have r1 : ww.cell? ⟨b, o + i * 7 + 1, none⟩ = some (.int .i64 x.nd.2) := (hbw.cell (p := ⟨b, o + i * 7 + 1, none⟩) HGl.out).trans RH1.out; have r2 : ww.cell? ⟨b, o + i * 7 + 2, none⟩ = some (.string x.nm) := (hbw.cell (p := ⟨b, o + i * 7 + 2, none⟩) HGl.out).trans RH2.out; have r3 : ww.cell? ⟨b, o + i * 7 + 3, none⟩ = some (.int .i64 x.at_.1) := (hbw.cell (p := ⟨b, o + i * 7 + 3, none⟩) HGl.out).trans RH3.out; have r4 : ww.cell? ⟨b, o + i * 7 + 4, none⟩ = some (.int .i64 x.at_.2) := (hbw.cell (p := ⟨b, o + i * 7 + 4, none⟩) HGl.out).trans RH4.out; have r5 : ww.cell? ⟨b, o + i * 7 + 5, none⟩ = some (.string x.vl) := (hbw.cell (p := ⟨b, o + i * 7 + 5, none⟩) HGl.out).trans RH5.out; have r6 : ww.cell? ⟨b, o + i * 7 + 6, none⟩ = some (.bool x.gn) := (hbw.cell (p := ⟨b, o + i * 7 + 6, none⟩) HGl.out).trans RH6.out; go_simp; try with_reducible rfl)
            refine tkW 7 (some 54) (v := ?_) ?_ hHeld ?_
            rotate_left
            · (intro ww hSw; (try dsimp only at hSw); have hbx := hSw.2; have z0 := hbx.cell 0 _ rfl; have z1 := hbx.cell 1 _ rfl; have z2 := hbx.cell 2 _ rfl; have z3 := hbx.cell 3 _ rfl; have z4 := hbx.cell 4 _ rfl; have z5 := hbx.cell 5 _ rfl; have z6 := hbx.cell 6 _ rfl; go_simp; try with_reducible rfl)
            refine wpAnyH_ready (rs := [8]) (by kernel_rfl) (by simp) ?_
            refine AllReadyH.cons (o := ⟨some 55, _, _, _, _, _⟩) rfl (fun K hK => ?_) AllReadyH.nil
            go_simp
            refine (wins_any x m _).mono ?_
            rintro e Un21u1 ⟨rfl, hb⟩
            rw [HWn.out]
            (try go_wp2_with fail)
            refine hK.out _ _ (⟨hHeld.1.trans (hb.mono hHeld.1.size), hHeld.2.below hb⟩) (fun hHeld2 => ?_)
            clear hK K hHeld
            have hHeld := hHeld2
            clear hHeld2
            (try simp only [Act.put, List.setIfInBounds_toArray, List.set_cons_zero, List.set_cons_succ])
            replace HM9 : Hid (RgS w rb F R Un21u1) := HM9.out.below hb
            replace HZ2 : Hid (BxC b6 (rgCells m) 25 Un21u1) := HZ2.out.below hb
            clear hb
            refine tkW 9 (some 56) (v := ?_) ?_ hHeld ?_
            rotate_left
            · (intro ww _; go_simp; try with_reducible rfl)
            refine wpAnyH_done (by kernel_rfl) ?_ _
            clear hHeld
            have HM0 : Hid (RgS w rb F R Un21u1) := HM9.out
            have HZ0 : Hid (BxC b6 (rgCells m) 25 Un21u1) := HZ2.out
            clear HM9 HZ2 HN6 HAt HHas HWn RH0 RH1 RH2 RH3 RH4 RH5 RH6
            go_wp2_with fail
            go_loopw [8, 9] (fun wv kv wr2 => ∃ k : Nat, kv = .int .i64 (k : Int) ∧ k ≤ l2.length ∧ wv = .bool (wasB l2 k m) ∧ Hid (RgS w rb F R wr2) ∧ Hid (BxC b6 (rgCells m) 25 wr2)) (fun _ kv _ => l2.length - (intOf kv).toNat)
            case atStart => exact ⟨0, rfl, Nat.zero_le _, rfl, HM0, HZ0⟩
            case round =>
              rename World => wq
              clear HM0 HZ0
              obtain ⟨k, rfl, hkl, rfl, HM9, HZ2⟩ := hrel
              by_cases hkt : k < l2.length
              · obtain ⟨b9, o9, cap9, ev, _, hbl, hrow⟩ := HL2.out.1.row7 (i := k) hkt
                injection ev with ev1 ev2 ev3
                injection ev1 with ev4
                injection ev4 with ev5 ev6 _
                subst ev5
                subst ev6
                clear ev2 ev3
                have HWs0 := wasB_next l2 k m hkt
                obtain ⟨y, ey⟩ : ∃ y, y = l2[k] := ⟨_, rfl⟩
                rw [← ey] at hrow HWs0
                have HWs : Hid (wasB l2 (k + 1) m = (wasB l2 k m || decide (y = m))) := HWs0
                have YH0 : Hid (w.cell? ⟨b, o + k * 7, none⟩ = some (.int .i64 y.nd.1)) := hrow 0 _ rfl
                have YH1 : Hid (w.cell? ⟨b, o + k * 7 + 1, none⟩ = some (.int .i64 y.nd.2)) := hrow 1 _ rfl
                have YH2 : Hid (w.cell? ⟨b, o + k * 7 + 2, none⟩ = some (.string y.nm)) := hrow 2 _ rfl
                have YH3 : Hid (w.cell? ⟨b, o + k * 7 + 3, none⟩ = some (.int .i64 y.at_.1)) := hrow 3 _ rfl
                have YH4 : Hid (w.cell? ⟨b, o + k * 7 + 4, none⟩ = some (.int .i64 y.at_.2)) := hrow 4 _ rfl
                have YH5 : Hid (w.cell? ⟨b, o + k * 7 + 5, none⟩ = some (.string y.vl)) := hrow 5 _ rfl
                have YH6 : Hid (w.cell? ⟨b, o + k * 7 + 6, none⟩ = some (.bool y.gn)) := hrow 6 _ rfl
                have kk1 : (k : Int) < (l2.length : Int) := by omega
                have kk0 : (0 : Int) ≤ (k : Int) := by omega
                clear ey hrow hbl HWs0
                go_wp2_with fail
                cases hw : wasB l2 k m with
                | true =>
                  have HW2 : Hid (wasB l2 (k + 1) m = true) := (by show _ = _; rw [HWs.out, hw]; rfl)
                  clear hw HWs
                  refine wp_region_held_drew (S := fun W' => Below w.heap.size w W' ∧ BxC b6 (rgCells m) 25 W') (by kernel_rfl) ⟨HM9.out.bel.drew, HZ2.out.below (Below.refl _ _).drew⟩ (fun hHeld => ?_)
                  obtain ⟨Ut22u0, eW⟩ : ∃ X, X = wq.drew := ⟨_, rfl⟩
                  have hb : Below wq.heap.size wq Ut22u0 := by rw [eW]; exact (Below.refl _ _).drew
                  replace HM9 : Hid (RgS w rb F R Ut22u0) := HM9.out.below hb
                  replace HZ2 : Hid (BxC b6 (rgCells m) 25 Ut22u0) := HZ2.out.below hb
                  rw [← eW] at hHeld ⊢
                  clear eW hb
                  refine tkW 0 (some 63) (v := ?_) ?_ hHeld ?_
                  rotate_left
                  · (intro ww _; go_simp; try with_reducible rfl)
                  refine tkW 1 (some 64) (v := ?_) ?_ hHeld ?_
                  rotate_left
                  · (intro ww _; go_simp; try with_reducible rfl)
                  refine tkU 2 (some 65) hHeld ?_
                  refine tkU 3 (some 66) hHeld ?_
                  refine tkU 4 (some 67) hHeld ?_
                  refine tkU 5 (some 68) hHeld ?_
                  refine tkU 6 (some 69) hHeld ?_
                  refine tkU 7 (some 70) hHeld ?_
                  refine tkW 8 (some 71) (v := ?_) ?_ hHeld ?_
                  rotate_left
                  · (intro ww _; go_simp; try with_reducible rfl)
                  refine tkW 9 (some 8) (v := ?_) ?_ hHeld ?_
                  rotate_left
                  · (intro ww _; go_simp; try with_reducible rfl)
                  refine wpAnyH_done (by kernel_rfl) ?_ _
                  clear hHeld
                  go_wp2
                  go_roundw
                  case rel => exact ⟨k + 1, by go_num, by omega, by (rw [HW2.out]), HM9, HZ2⟩
                  case measure => simp [intOf]; omega
                | false =>
                  have HW2 : Hid (wasB l2 (k + 1) m = decide (y = m)) := (by show _ = _; rw [HWs.out, hw]; rfl)
                  clear hw HWs
                  refine wp_region_held_drew (S := fun W' => Below w.heap.size w W' ∧ BxC b6 (rgCells m) 25 W') (by kernel_rfl) ⟨HM9.out.bel.drew, HZ2.out.below (Below.refl _ _).drew⟩ (fun hHeld => ?_)
                  obtain ⟨Uf23u0, eW⟩ : ∃ X, X = wq.drew := ⟨_, rfl⟩
                  have hb : Below wq.heap.size wq Uf23u0 := by rw [eW]; exact (Below.refl _ _).drew
                  replace HM9 : Hid (RgS w rb F R Uf23u0) := HM9.out.below hb
                  replace HZ2 : Hid (BxC b6 (rgCells m) 25 Uf23u0) := HZ2.out.below hb
                  rw [← eW] at hHeld ⊢
                  clear eW hb
                  refine tkW 0 (some 63) (v := ?_) ?_ hHeld ?_
                  rotate_left
                  · (intro ww _; go_simp; try with_reducible rfl)
                  refine tkW 1 (some 64) (v := ?_) ?_ hHeld ?_
                  rotate_left
                  · (intro ww _; go_simp; try with_reducible rfl)
                  refine tkW 2 (some 65) (v := ?_) ?_ hHeld ?_
                  rotate_left
                  · (intro ww _; go_simp; try with_reducible rfl)
                  refine tkW 3 (some 66) (v := ?_) ?_ hHeld ?_
                  rotate_left
                  · (intro ww _; go_simp; try with_reducible rfl)
                  refine tkW 4 (some 67) (v := ?_) ?_ hHeld ?_
                  rotate_left
                  · (intro ww hSw; (try dsimp only at hSw); go_simp; try with_reducible rfl)
                  refine tkW 5 (some 68) (v := ?_) ?_ hHeld ?_
                  rotate_left
                  · (intro ww hSw; (try dsimp only at hSw); have hbw := hSw.1; have y0 : ww.cell? ⟨b, o + k * 7, none⟩ = some (.int .i64 y.nd.1) := (hbw.cell (p := ⟨b, o + k * 7, none⟩) HGl.out).trans YH0.out; have y1 : ww.cell? ⟨b, o + k * 7 + 1, none⟩ = some (.int .i64 y.nd.2) := (hbw.cell (p := ⟨b, o + k * 7 + 1, none⟩) HGl.out).trans YH1.out; have y2 : ww.cell? ⟨b, o + k * 7 + 2, none⟩ = some (.string y.nm) := (hbw.cell (p := ⟨b, o + k * 7 + 2, none⟩) HGl.out).trans YH2.out; have y3 : ww.cell? ⟨b, o + k * 7 + 3, none⟩ = some (.int .i64 y.at_.1) := (hbw.cell (p := ⟨b, o + k * 7 + 3, none⟩) HGl.out).trans YH3.out; have y4 : ww.cell? ⟨b, o + k * 7 + 4, none⟩ = some (.int .i64 y.at_.2) := (hbw.cell (p := ⟨b, o + k * 7 + 4, none⟩) HGl.out).trans YH4.out; have y5 : ww.cell? ⟨b, o + k * 7 + 5, none⟩ = some (.string y.vl) := (hbw.cell (p := ⟨b, o + k * 7 + 5, none⟩) HGl.out).trans YH5.out; have y6 : ww.cell? ⟨b, o + k * 7 + 6, none⟩ = some (.bool y.gn) := (hbw.cell (p := ⟨b, o + k * 7 + 6, none⟩) HGl.out).trans YH6.out; go_simp; try with_reducible rfl)
                  refine tkW 6 (some 69) (v := ?_) ?_ hHeld ?_
                  rotate_left
                  · (intro ww hSw; (try dsimp only at hSw); have hbx := hSw.2; have z0 := hbx.cell 0 _ rfl; have z1 := hbx.cell 1 _ rfl; have z2 := hbx.cell 2 _ rfl; have z3 := hbx.cell 3 _ rfl; have z4 := hbx.cell 4 _ rfl; have z5 := hbx.cell 5 _ rfl; have z6 := hbx.cell 6 _ rfl; go_simp; try with_reducible rfl)
                  refine tkW 7 (some 70) (v := .bool (decide (y = m))) ?_ hHeld ?_
                  · (intro ww hSw; (try dsimp only at hSw); exact execEql (p := y) (q := m) rfl rfl ww)
                  refine tkW 8 (some 71) (v := ?_) ?_ hHeld ?_
                  rotate_left
                  · (intro ww _; go_simp; try with_reducible rfl)
                  refine tkW 9 (some 8) (v := ?_) ?_ hHeld ?_
                  rotate_left
                  · (intro ww _; go_simp; try with_reducible rfl)
                  refine wpAnyH_done (by kernel_rfl) ?_ _
                  clear hHeld
                  go_wp2
                  go_roundw
                  case rel => exact ⟨k + 1, by go_num, by omega, by (rw [HW2.out]), HM9, HZ2⟩
                  case measure => simp [intOf]; omega
              · have HWt : Hid (wasB l2 k m = true) := (by show _ = _; rw [show k = l2.length by omega]; exact HWa.out)
                rw [HWt.out]
                clear HWt
                go_wp2
                go_roundw
                case rel => exact ⟨i + 1, by go_num, by omega, HM9⟩
                case measure => simp [intOf]; omega
        · have q : (chkR x == 0) = false := by simpa using h0
          clear h0 HBx
          go_wp2
          go_roundw
          case rel => exact ⟨i + 1, by go_num, by omega, HM⟩
          case measure => simp [intOf]; omega
      · go_wp2_with fail
        refine (awake_any _).mono ?_
        rintro e w6 ⟨rfl, hb⟩
        replace HM : Hid (RgS w rb F R w6) := HM.out.below hb
        clear hb
        go_wp2
        go_ret
        exact ⟨rfl, HM.out.bel⟩
  · have HBe0 : BestL l R := by rw [List.take_of_length_le (by omega)] at hBest; exact hBest
    have hk : ¬ (200 : Int) < (l.length : Int) := by omega
    obtain ⟨l2, el2⟩ : ∃ X, X = l := ⟨_, rfl⟩
    rw [← el2] at HLs HBe0 hk hlen hl
    rw [← el2]
    have HBe : Hid (BestL l2 R) := HBe0
    have HL2 : Hid (IsRg w (.slice a1 l2.length c1) l2) := HLs.out
    clear el2 HBe0 HLs hBest
    go_wp2_with fail
    clear hk
    go_loopw [5, 6, 7, 8, 9] (fun iv _ _ _ _ wr => ∃ i : Nat, iv = .int .i64 (i : Int) ∧ i ≤ l2.length ∧ Hid (RgS w rb F R wr)) (fun iv _ _ _ _ _ => l2.length - (intOf iv).toNat)
    case atStart => exact ⟨0, rfl, Nat.zero_le _, HM⟩
    case round =>
      clear HM
      obtain ⟨i, rfl, hil, HM⟩ := hrel
      by_cases hlt : i < l2.length
      · obtain ⟨b, o, cap, ev, _, hbl, hrow⟩ := HL2.out.1.row7 (i := i) hlt
        injection ev with ev1 ev2 ev3
        subst ev1
        subst ev3
        have hx := List.getElem_mem hlt
        obtain ⟨x, ex⟩ : ∃ x, x = l2[i] := ⟨_, rfl⟩
        rw [← ex] at hrow hx
        have HSm : Hid (x.nm.size ≤ 281474976710656) := Nat.le_trans (HL2.out.2 x hx).1 (by decide)
        have HGl : Hid (b < w.heap.size) := hbl
        have HBx0 := latest_of HBe.out hx
        have RH0 : Hid (w.cell? ⟨b, o + i * 7, none⟩ = some (.int .i64 x.nd.1)) := hrow 0 _ rfl
        have RH1 : Hid (w.cell? ⟨b, o + i * 7 + 1, none⟩ = some (.int .i64 x.nd.2)) := hrow 1 _ rfl
        have RH2 : Hid (w.cell? ⟨b, o + i * 7 + 2, none⟩ = some (.string x.nm)) := hrow 2 _ rfl
        have RH3 : Hid (w.cell? ⟨b, o + i * 7 + 3, none⟩ = some (.int .i64 x.at_.1)) := hrow 3 _ rfl
        have RH4 : Hid (w.cell? ⟨b, o + i * 7 + 4, none⟩ = some (.int .i64 x.at_.2)) := hrow 4 _ rfl
        have RH5 : Hid (w.cell? ⟨b, o + i * 7 + 5, none⟩ = some (.string x.vl)) := hrow 5 _ rfl
        have RH6 : Hid (w.cell? ⟨b, o + i * 7 + 6, none⟩ = some (.bool x.gn)) := hrow 6 _ rfl
        have k1 : (i : Int) < (l2.length : Int) := by omega
        have k0 : (0 : Int) ≤ (i : Int) := by omega
        have HBx : Hid (okR x = true → ∃ m, atR R (keyR x) = m ∧ hasR R (keyR x) = true ∧ winB x m = false ∧ wasB l2 l2.length m = true) := HBx0
        clear ex hrow hbl ev2 hx HBx0
        have r0 : wr.cell? ⟨b, o + i * 7, none⟩ = some (.int .i64 x.nd.1) := (HM.out.bel.cell (p := ⟨b, o + i * 7, none⟩) HGl.out).trans RH0.out
        have r1 : wr.cell? ⟨b, o + i * 7 + 1, none⟩ = some (.int .i64 x.nd.2) := (HM.out.bel.cell (p := ⟨b, o + i * 7 + 1, none⟩) HGl.out).trans RH1.out
        have r2 : wr.cell? ⟨b, o + i * 7 + 2, none⟩ = some (.string x.nm) := (HM.out.bel.cell (p := ⟨b, o + i * 7 + 2, none⟩) HGl.out).trans RH2.out
        have r3 : wr.cell? ⟨b, o + i * 7 + 3, none⟩ = some (.int .i64 x.at_.1) := (HM.out.bel.cell (p := ⟨b, o + i * 7 + 3, none⟩) HGl.out).trans RH3.out
        have r4 : wr.cell? ⟨b, o + i * 7 + 4, none⟩ = some (.int .i64 x.at_.2) := (HM.out.bel.cell (p := ⟨b, o + i * 7 + 4, none⟩) HGl.out).trans RH4.out
        have r5 : wr.cell? ⟨b, o + i * 7 + 5, none⟩ = some (.string x.vl) := (HM.out.bel.cell (p := ⟨b, o + i * 7 + 5, none⟩) HGl.out).trans RH5.out
        have r6 : wr.cell? ⟨b, o + i * 7 + 6, none⟩ = some (.bool x.gn) := (HM.out.bel.cell (p := ⟨b, o + i * 7 + 6, none⟩) HGl.out).trans RH6.out
        go_wp2_with fail
        clear r0 r1 r2 r3 r4 r5 r6
        refine (refCheck_any x HSm.out _).mono ?_
        rintro e w6 ⟨rfl, hb⟩
        replace HM : Hid (RgS w rb F R w6) := HM.out.below hb
        clear hb
        by_cases h0 : chkR x = 0
        · obtain ⟨m, q1, q2, q3, q4⟩ := HBx.out (decide_eq_true h0)
          have HAt : Hid (atR R (keyR x) = m) := q1
          have HHas : Hid (hasR R (keyR x) = true) := q2
          have HWn : Hid (winB x m = false) := q3
          have HWa : Hid (wasB l2 l2.length m = true) := q4
          rw [h0]
          clear q1 q2 q3 q4 h0 HBx
          go_wp2_with fail
          refine wp_region_held_drew (S := fun W' => Below w.heap.size w W') (by kernel_rfl) HM.out.bel.drew (fun hHeld => ?_)
          obtain ⟨Ug24u0, eW⟩ : ∃ X, X = w6.drew := ⟨_, rfl⟩
          have hb : Below w6.heap.size w6 Ug24u0 := by rw [eW]; exact (Below.refl _ _).drew
          replace HM : Hid (RgS w rb F R Ug24u0) := HM.out.below hb
          rw [← eW] at hHeld ⊢
          clear eW hb
          refine tkW 0 (some 33) (v := ?_) ?_ hHeld ?_
          rotate_left
          · (intro ww _; go_simp; try with_reducible rfl)
          refine tkW 1 (some 34) (v := ?_) ?_ hHeld ?_
          rotate_left
          · (intro ww _; go_simp; try with_reducible rfl)
          refine tkW 2 (some 35) (v := ?_) ?_ hHeld ?_
          rotate_left
          · (intro ww _; go_simp; try with_reducible rfl)
          refine tkW 3 (some 36) (v := ?_) ?_ hHeld ?_
          rotate_left
          · (intro ww hSw; (try dsimp only at hSw); go_simp; try with_reducible rfl)
          refine tkW 4 (some 37) (v := ?_) ?_ hHeld ?_
          rotate_left
          · (intro ww _; go_simp; try with_reducible rfl)
          refine tkW 5 (some 38) (v := ?_) ?_ hHeld ?_
          rotate_left
          · (intro ww hSw; (try dsimp only at hSw); have hbw := hSw; have r0 : ww.cell? ⟨b, o + i * 7, none⟩ = some (.int .i64 x.nd.1) := (hbw.cell (p := ⟨b, o + i * 7, none⟩) HGl.out).trans RH0.out; have r1 : ww.cell? ⟨b, o + i * 7 + 1, none⟩ = some (.int .i64 x.nd.2) := (hbw.cell (p := ⟨b, o + i * 7 + 1, none⟩) HGl.out).trans RH1.out; have r2 : ww.cell? ⟨b, o + i * 7 + 2, none⟩ = some (.string x.nm) := (hbw.cell (p := ⟨b, o + i * 7 + 2, none⟩) HGl.out).trans RH2.out; have r3 : ww.cell? ⟨b, o + i * 7 + 3, none⟩ = some (.int .i64 x.at_.1) := (hbw.cell (p := ⟨b, o + i * 7 + 3, none⟩) HGl.out).trans RH3.out; have r4 : ww.cell? ⟨b, o + i * 7 + 4, none⟩ = some (.int .i64 x.at_.2) := (hbw.cell (p := ⟨b, o + i * 7 + 4, none⟩) HGl.out).trans RH4.out; have r5 : ww.cell? ⟨b, o + i * 7 + 5, none⟩ = some (.string x.vl) := (hbw.cell (p := ⟨b, o + i * 7 + 5, none⟩) HGl.out).trans RH5.out; have r6 : ww.cell? ⟨b, o + i * 7 + 6, none⟩ = some (.bool x.gn) := (hbw.cell (p := ⟨b, o + i * 7 + 6, none⟩) HGl.out).trans RH6.out; go_simp; try with_reducible rfl)
          refine tkW 6 (some 39) (v := ?_) ?_ hHeld ?_
          rotate_left
          · (intro ww _; go_simp; try with_reducible rfl)
          refine tkW 7 (some 40) (v := ?_) ?_ hHeld ?_
          rotate_left
          · (intro ww _; go_simp; try with_reducible rfl)
          refine tkW 8 (some 41) (v := ?_) ?_ hHeld ?_
          rotate_left
          · (intro ww hSw; (try dsimp only at hSw); go_simp; try with_reducible rfl)
          refine tkW 9 (some 42) (v := ?_) ?_ hHeld ?_
          rotate_left
          · (intro ww _; go_simp; try with_reducible rfl)
          refine tkW 10 (some 43) (v := ?_) ?_ hHeld ?_
          rotate_left
          · (intro ww hSw; (try dsimp only at hSw); have hbw := hSw; have r0 : ww.cell? ⟨b, o + i * 7, none⟩ = some (.int .i64 x.nd.1) := (hbw.cell (p := ⟨b, o + i * 7, none⟩) HGl.out).trans RH0.out; have r1 : ww.cell? ⟨b, o + i * 7 + 1, none⟩ = some (.int .i64 x.nd.2) := (hbw.cell (p := ⟨b, o + i * 7 + 1, none⟩) HGl.out).trans RH1.out; have r2 : ww.cell? ⟨b, o + i * 7 + 2, none⟩ = some (.string x.nm) := (hbw.cell (p := ⟨b, o + i * 7 + 2, none⟩) HGl.out).trans RH2.out; have r3 : ww.cell? ⟨b, o + i * 7 + 3, none⟩ = some (.int .i64 x.at_.1) := (hbw.cell (p := ⟨b, o + i * 7 + 3, none⟩) HGl.out).trans RH3.out; have r4 : ww.cell? ⟨b, o + i * 7 + 4, none⟩ = some (.int .i64 x.at_.2) := (hbw.cell (p := ⟨b, o + i * 7 + 4, none⟩) HGl.out).trans RH4.out; have r5 : ww.cell? ⟨b, o + i * 7 + 5, none⟩ = some (.string x.vl) := (hbw.cell (p := ⟨b, o + i * 7 + 5, none⟩) HGl.out).trans RH5.out; have r6 : ww.cell? ⟨b, o + i * 7 + 6, none⟩ = some (.bool x.gn) := (hbw.cell (p := ⟨b, o + i * 7 + 6, none⟩) HGl.out).trans RH6.out; go_simp; try with_reducible rfl)
          refine wpAnyH_ready (rs := [11, 15]) (by kernel_rfl) (by simp) ?_
          refine AllReadyH.cons (o := ⟨some 44, _, _, _, _, _⟩) rfl (fun K hK => ?_) (AllReadyH.cons (o := ⟨some 6, _, _, _, _, _⟩) rfl (fun K hK => ?_) AllReadyH.nil)
          · go_simp
            refine (get_v HM.out.rv (keyR x)).mono ?_
            rintro e Ug24u1 ⟨rfl, hb⟩
            rw [HAt.out, HHas.out]
            (try go_wp2_with fail)
            refine hK.out _ _ (hHeld.trans (hb.mono hHeld.size)) (fun hHeld2 => ?_)
            clear hK K hHeld
            have hHeld := hHeld2
            clear hHeld2
            (try simp only [Act.put, List.setIfInBounds_toArray, List.set_cons_zero, List.set_cons_succ])
            replace HM : Hid (RgS w rb F R Ug24u1) := HM.out.below hb
            clear hb
            refine tkW 12 (some 32) (v := ?_) ?_ hHeld ?_
            rotate_left
            · (intro ww _; go_simp; try with_reducible rfl)
            refine tkW 13 (some 45) (v := ?_) ?_ hHeld ?_
            rotate_left
            · (intro ww _; go_simp; try with_reducible rfl)
            refine tkW 14 (some 46) (v := ?_) ?_ hHeld ?_
            rotate_left
            · (intro ww _; go_simp; try with_reducible rfl)
            refine wpAnyH_ready (rs := [15]) (by kernel_rfl) (by simp) ?_
            refine AllReadyH.cons (o := ⟨some 6, _, _, _, _, _⟩) rfl (fun K hK => ?_) AllReadyH.nil
            have HN60 : Hid (w.heap.size ≤ Ug24u1.heap.size ∧ ¬ F Ug24u1.heap.size) := ⟨hHeld.size, fun h => Nat.lt_irrefl _ (HM.out.row.lt _ h)⟩
            have hbx : Below Ug24u1.heap.size Ug24u1 (Ug24u1.alloc (.cells #[.int .i64 0, .int .i64 0, .string ⟨#[]⟩, .int .i64 0, .int .i64 0, .string ⟨#[]⟩, .bool false] 25)) := (Below.refl _ _).alloc (Nat.le_refl _) _
            go_simp
            refine hK.out _ _ (hHeld.trans (hbx.mono hHeld.size)) (fun hHeld2 => ?_)
            clear hK K hHeld
            have hHeld := hHeld2
            clear hHeld2
            (try simp only [Act.put, List.setIfInBounds_toArray, List.set_cons_zero, List.set_cons_succ])
            obtain ⟨Ug24u2, eW⟩ : ∃ X, X = Ug24u1.alloc (.cells #[.int .i64 0, .int .i64 0, .string ⟨#[]⟩, .int .i64 0, .int .i64 0, .string ⟨#[]⟩, .bool false] 25) := ⟨_, rfl⟩
            have hb : Below Ug24u1.heap.size Ug24u1 Ug24u2 := by rw [eW]; exact (Below.refl _ _).alloc (Nat.le_refl _) _
            replace HM : Hid (RgS w rb F R Ug24u2) := HM.out.below hb
            have HZ : Hid (Ug24u2.heap[Ug24u1.heap.size]? = some (.cells #[.int .i64 0, .int .i64 0, .string ⟨#[]⟩, .int .i64 0, .int .i64 0, .string ⟨#[]⟩, .bool false] 25)) := by rw [eW]; exact heap_alloc_new _ _
            rw [← eW] at hHeld ⊢
            clear eW
            clear hbx
            obtain ⟨b6, enb⟩ : ∃ b, b = Ug24u1.heap.size := ⟨_, rfl⟩
            have HN6 : Hid (w.heap.size ≤ b6 ∧ ¬ F b6) := by rw [enb]; exact HN60.out
            rw [← enb] at HZ ⊢
            clear enb
            clear HN60
            clear hb
            refine wpAnyH_ready (rs := [16]) (by kernel_rfl) (by simp) ?_
            refine AllReadyH.cons (o := ⟨none, _, _, _, _, _⟩) rfl (fun K hK => ?_) AllReadyH.nil
            refine step_store_row rfl 25 (.tmp 6) (.tmp 45) rfl b6 25 #[.int .i64 0, .int .i64 0, .string ⟨#[]⟩, .int .i64 0, .int .i64 0, .string ⟨#[]⟩, .bool false] (rgCells m).toArray rfl rfl HZ.out sizeReg rfl (by simp [Value.oneCell', rgCells]) ?_
            obtain ⟨Ug24u3, eW⟩ : ∃ Y, Y = Ug24u2.setRow b6 (rgCells m).toArray := ⟨_, rfl⟩
            have ht9 : Touch (fun j => j = b6) Ug24u2 Ug24u3 := by rw [eW]; exact Touch.of_grown (grown_setRow _ _ _) fun j e _ => by cases e; rfl
            have HZ2 : Hid (BxC b6 (rgCells m) 25 Ug24u3) := by rw [eW]; exact setRow_same HZ.out
            have hS2 : Below w.heap.size w Ug24u3 := hHeld.trans (ht9.below (fun j e => by have := HN6.out.1; omega) hHeld.size)
            have HM9 : Hid (RgS w rb F R Ug24u3) := HM.out.box ht9 HN6.out.2 HN6.out.1
            rw [← eW]
            refine hK.out _ _ (hS2) (fun hHeld2 => ?_)
            clear hK K hHeld
            have hHeld := hHeld2
            clear hHeld2
            (try simp only [Act.put, List.setIfInBounds_toArray, List.set_cons_zero, List.set_cons_succ])
            clear eW hS2 HZ ht9 HM
            refine tkW 17 (some 7) (v := ?_) ?_ hHeld ?_
            rotate_left
            · (intro ww _; go_simp; try with_reducible rfl)
            refine wpAnyH_done (by kernel_rfl) ?_ _
            clear hHeld
            go_wp2_with fail
            refine wp_region_held_drew (S := fun W' => Below w.heap.size w W' ∧ BxC b6 (rgCells m) 25 W') (by kernel_rfl) ⟨HM9.out.bel.drew, HZ2.out.below (Below.refl _ _).drew⟩ (fun hHeld => ?_)
            obtain ⟨Un25u0, eW⟩ : ∃ X, X = Ug24u3.drew := ⟨_, rfl⟩
            have hb : Below Ug24u3.heap.size Ug24u3 Un25u0 := by rw [eW]; exact (Below.refl _ _).drew
            replace HM9 : Hid (RgS w rb F R Un25u0) := HM9.out.below hb
            replace HZ2 : Hid (BxC b6 (rgCells m) 25 Un25u0) := HZ2.out.below hb
            rw [← eW] at hHeld ⊢
            clear eW hb
            refine tkW 0 (some 47) (v := ?_) ?_ hHeld ?_
            rotate_left
            · (intro ww _; go_simp; try with_reducible rfl)
            refine tkW 1 (some 48) (v := ?_) ?_ hHeld ?_
            rotate_left
            · (intro ww _; go_simp; try with_reducible rfl)
            refine tkW 2 (some 49) (v := ?_) ?_ hHeld ?_
            rotate_left
            · (intro ww _; go_simp; try with_reducible rfl)
            refine tkW 3 (some 50) (v := ?_) ?_ hHeld ?_
            rotate_left
            · (intro ww _; go_simp; try with_reducible rfl)
            refine tkW 4 (some 51) (v := ?_) ?_ hHeld ?_
            rotate_left
            · (intro ww _; go_simp; try with_reducible rfl)
            refine tkW 5 (some 52) (v := ?_) ?_ hHeld ?_
            rotate_left
            · (intro ww hSw; (try dsimp only at hSw); go_simp; try with_reducible rfl)
            refine tkW 6 (some 53) (v := ?_) ?_ hHeld ?_
            rotate_left
            · (intro ww hSw; (try dsimp only at hSw); have hbw := hSw.1; have r0 : ww.cell? ⟨b, o + i * 7, none⟩ = some (.int .i64 x.nd.1) := (hbw.cell (p := ⟨b, o + i * 7, none⟩) HGl.out).trans RH0.out; have r1 : ww.cell? ⟨b, o + i * 7 + 1, none⟩ = some (.int .i64 x.nd.2) := (hbw.cell (p := ⟨b, o + i * 7 + 1, none⟩) HGl.out).trans RH1.out; have r2 : ww.cell? ⟨b, o + i * 7 + 2, none⟩ = some (.string x.nm) := (hbw.cell (p := ⟨b, o + i * 7 + 2, none⟩) HGl.out).trans RH2.out; have r3 : ww.cell? ⟨b, o + i * 7 + 3, none⟩ = some (.int .i64 x.at_.1) := (hbw.cell (p := ⟨b, o + i * 7 + 3, none⟩) HGl.out).trans RH3.out; have r4 : ww.cell? ⟨b, o + i * 7 + 4, none⟩ = some (.int .i64 x.at_.2) := (hbw.cell (p := ⟨b, o + i * 7 + 4, none⟩) HGl.out).trans RH4.out; have r5 : ww.cell? ⟨b, o + i * 7 + 5, none⟩ = some (.string x.vl) := (hbw.cell (p := ⟨b, o + i * 7 + 5, none⟩) HGl.out).trans RH5.out; have r6 : ww.cell? ⟨b, o + i * 7 + 6, none⟩ = some (.bool x.gn) := (hbw.cell (p := ⟨b, o + i * 7 + 6, none⟩) HGl.out).trans RH6.out; go_simp; try with_reducible rfl)
            refine tkW 7 (some 54) (v := ?_) ?_ hHeld ?_
            rotate_left
            · (intro ww hSw; (try dsimp only at hSw); have hbx := hSw.2; have z0 := hbx.cell 0 _ rfl; have z1 := hbx.cell 1 _ rfl; have z2 := hbx.cell 2 _ rfl; have z3 := hbx.cell 3 _ rfl; have z4 := hbx.cell 4 _ rfl; have z5 := hbx.cell 5 _ rfl; have z6 := hbx.cell 6 _ rfl; go_simp; try with_reducible rfl)
            refine wpAnyH_ready (rs := [8]) (by kernel_rfl) (by simp) ?_
            refine AllReadyH.cons (o := ⟨some 55, _, _, _, _, _⟩) rfl (fun K hK => ?_) AllReadyH.nil
            go_simp
            refine (wins_any x m _).mono ?_
            rintro e Un25u1 ⟨rfl, hb⟩
            rw [HWn.out]
            (try go_wp2_with fail)
            refine hK.out _ _ (⟨hHeld.1.trans (hb.mono hHeld.1.size), hHeld.2.below hb⟩) (fun hHeld2 => ?_)
            clear hK K hHeld
            have hHeld := hHeld2
            clear hHeld2
            (try simp only [Act.put, List.setIfInBounds_toArray, List.set_cons_zero, List.set_cons_succ])
            replace HM9 : Hid (RgS w rb F R Un25u1) := HM9.out.below hb
            replace HZ2 : Hid (BxC b6 (rgCells m) 25 Un25u1) := HZ2.out.below hb
            clear hb
            refine tkW 9 (some 56) (v := ?_) ?_ hHeld ?_
            rotate_left
            · (intro ww _; go_simp; try with_reducible rfl)
            refine wpAnyH_done (by kernel_rfl) ?_ _
            clear hHeld
            have HM0 : Hid (RgS w rb F R Un25u1) := HM9.out
            have HZ0 : Hid (BxC b6 (rgCells m) 25 Un25u1) := HZ2.out
            clear HM9 HZ2 HN6 HAt HHas HWn RH0 RH1 RH2 RH3 RH4 RH5 RH6
            go_wp2_with fail
            go_loopw [8, 9] (fun wv kv wr2 => ∃ k : Nat, kv = .int .i64 (k : Int) ∧ k ≤ l2.length ∧ wv = .bool (wasB l2 k m) ∧ Hid (RgS w rb F R wr2) ∧ Hid (BxC b6 (rgCells m) 25 wr2)) (fun _ kv _ => l2.length - (intOf kv).toNat)
            case atStart => exact ⟨0, rfl, Nat.zero_le _, rfl, HM0, HZ0⟩
            case round =>
              rename World => wq
              clear HM0 HZ0
              obtain ⟨k, rfl, hkl, rfl, HM9, HZ2⟩ := hrel
              by_cases hkt : k < l2.length
              · obtain ⟨b9, o9, cap9, ev, _, hbl, hrow⟩ := HL2.out.1.row7 (i := k) hkt
                injection ev with ev1 ev2 ev3
                injection ev1 with ev4
                injection ev4 with ev5 ev6 _
                subst ev5
                subst ev6
                clear ev2 ev3
                have HWs0 := wasB_next l2 k m hkt
                obtain ⟨y, ey⟩ : ∃ y, y = l2[k] := ⟨_, rfl⟩
                rw [← ey] at hrow HWs0
                have HWs : Hid (wasB l2 (k + 1) m = (wasB l2 k m || decide (y = m))) := HWs0
                have YH0 : Hid (w.cell? ⟨b, o + k * 7, none⟩ = some (.int .i64 y.nd.1)) := hrow 0 _ rfl
                have YH1 : Hid (w.cell? ⟨b, o + k * 7 + 1, none⟩ = some (.int .i64 y.nd.2)) := hrow 1 _ rfl
                have YH2 : Hid (w.cell? ⟨b, o + k * 7 + 2, none⟩ = some (.string y.nm)) := hrow 2 _ rfl
                have YH3 : Hid (w.cell? ⟨b, o + k * 7 + 3, none⟩ = some (.int .i64 y.at_.1)) := hrow 3 _ rfl
                have YH4 : Hid (w.cell? ⟨b, o + k * 7 + 4, none⟩ = some (.int .i64 y.at_.2)) := hrow 4 _ rfl
                have YH5 : Hid (w.cell? ⟨b, o + k * 7 + 5, none⟩ = some (.string y.vl)) := hrow 5 _ rfl
                have YH6 : Hid (w.cell? ⟨b, o + k * 7 + 6, none⟩ = some (.bool y.gn)) := hrow 6 _ rfl
                have kk1 : (k : Int) < (l2.length : Int) := by omega
                have kk0 : (0 : Int) ≤ (k : Int) := by omega
                clear ey hrow hbl HWs0
                go_wp2_with fail
                cases hw : wasB l2 k m with
                | true =>
                  have HW2 : Hid (wasB l2 (k + 1) m = true) := (by show _ = _; rw [HWs.out, hw]; rfl)
                  clear hw HWs
                  refine wp_region_held_drew (S := fun W' => Below w.heap.size w W' ∧ BxC b6 (rgCells m) 25 W') (by kernel_rfl) ⟨HM9.out.bel.drew, HZ2.out.below (Below.refl _ _).drew⟩ (fun hHeld => ?_)
                  obtain ⟨Ut26u0, eW⟩ : ∃ X, X = wq.drew := ⟨_, rfl⟩
                  have hb : Below wq.heap.size wq Ut26u0 := by rw [eW]; exact (Below.refl _ _).drew
                  replace HM9 : Hid (RgS w rb F R Ut26u0) := HM9.out.below hb
                  replace HZ2 : Hid (BxC b6 (rgCells m) 25 Ut26u0) := HZ2.out.below hb
                  rw [← eW] at hHeld ⊢
                  clear eW hb
                  refine tkW 0 (some 63) (v := ?_) ?_ hHeld ?_
                  rotate_left
                  · (intro ww _; go_simp; try with_reducible rfl)
                  refine tkW 1 (some 64) (v := ?_) ?_ hHeld ?_
                  rotate_left
                  · (intro ww _; go_simp; try with_reducible rfl)
                  refine tkU 2 (some 65) hHeld ?_
                  refine tkU 3 (some 66) hHeld ?_
                  refine tkU 4 (some 67) hHeld ?_
                  refine tkU 5 (some 68) hHeld ?_
                  refine tkU 6 (some 69) hHeld ?_
                  refine tkU 7 (some 70) hHeld ?_
                  refine tkW 8 (some 71) (v := ?_) ?_ hHeld ?_
                  rotate_left
                  · (intro ww _; go_simp; try with_reducible rfl)
                  refine tkW 9 (some 8) (v := ?_) ?_ hHeld ?_
                  rotate_left
                  · (intro ww _; go_simp; try with_reducible rfl)
                  refine wpAnyH_done (by kernel_rfl) ?_ _
                  clear hHeld
                  go_wp2
                  go_roundw
                  case rel => exact ⟨k + 1, by go_num, by omega, by (rw [HW2.out]), HM9, HZ2⟩
                  case measure => simp [intOf]; omega
                | false =>
                  have HW2 : Hid (wasB l2 (k + 1) m = decide (y = m)) := (by show _ = _; rw [HWs.out, hw]; rfl)
                  clear hw HWs
                  refine wp_region_held_drew (S := fun W' => Below w.heap.size w W' ∧ BxC b6 (rgCells m) 25 W') (by kernel_rfl) ⟨HM9.out.bel.drew, HZ2.out.below (Below.refl _ _).drew⟩ (fun hHeld => ?_)
                  obtain ⟨Uf27u0, eW⟩ : ∃ X, X = wq.drew := ⟨_, rfl⟩
                  have hb : Below wq.heap.size wq Uf27u0 := by rw [eW]; exact (Below.refl _ _).drew
                  replace HM9 : Hid (RgS w rb F R Uf27u0) := HM9.out.below hb
                  replace HZ2 : Hid (BxC b6 (rgCells m) 25 Uf27u0) := HZ2.out.below hb
                  rw [← eW] at hHeld ⊢
                  clear eW hb
                  refine tkW 0 (some 63) (v := ?_) ?_ hHeld ?_
                  rotate_left
                  · (intro ww _; go_simp; try with_reducible rfl)
                  refine tkW 1 (some 64) (v := ?_) ?_ hHeld ?_
                  rotate_left
                  · (intro ww _; go_simp; try with_reducible rfl)
                  refine tkW 2 (some 65) (v := ?_) ?_ hHeld ?_
                  rotate_left
                  · (intro ww _; go_simp; try with_reducible rfl)
                  refine tkW 3 (some 66) (v := ?_) ?_ hHeld ?_
                  rotate_left
                  · (intro ww _; go_simp; try with_reducible rfl)
                  refine tkW 4 (some 67) (v := ?_) ?_ hHeld ?_
                  rotate_left
                  · (intro ww hSw; (try dsimp only at hSw); go_simp; try with_reducible rfl)
                  refine tkW 5 (some 68) (v := ?_) ?_ hHeld ?_
                  rotate_left
                  · (intro ww hSw; (try dsimp only at hSw); have hbw := hSw.1; have y0 : ww.cell? ⟨b, o + k * 7, none⟩ = some (.int .i64 y.nd.1) := (hbw.cell (p := ⟨b, o + k * 7, none⟩) HGl.out).trans YH0.out; have y1 : ww.cell? ⟨b, o + k * 7 + 1, none⟩ = some (.int .i64 y.nd.2) := (hbw.cell (p := ⟨b, o + k * 7 + 1, none⟩) HGl.out).trans YH1.out; have y2 : ww.cell? ⟨b, o + k * 7 + 2, none⟩ = some (.string y.nm) := (hbw.cell (p := ⟨b, o + k * 7 + 2, none⟩) HGl.out).trans YH2.out; have y3 : ww.cell? ⟨b, o + k * 7 + 3, none⟩ = some (.int .i64 y.at_.1) := (hbw.cell (p := ⟨b, o + k * 7 + 3, none⟩) HGl.out).trans YH3.out; have y4 : ww.cell? ⟨b, o + k * 7 + 4, none⟩ = some (.int .i64 y.at_.2) := (hbw.cell (p := ⟨b, o + k * 7 + 4, none⟩) HGl.out).trans YH4.out; have y5 : ww.cell? ⟨b, o + k * 7 + 5, none⟩ = some (.string y.vl) := (hbw.cell (p := ⟨b, o + k * 7 + 5, none⟩) HGl.out).trans YH5.out; have y6 : ww.cell? ⟨b, o + k * 7 + 6, none⟩ = some (.bool y.gn) := (hbw.cell (p := ⟨b, o + k * 7 + 6, none⟩) HGl.out).trans YH6.out; go_simp; try with_reducible rfl)
                  refine tkW 6 (some 69) (v := ?_) ?_ hHeld ?_
                  rotate_left
                  · (intro ww hSw; (try dsimp only at hSw); have hbx := hSw.2; have z0 := hbx.cell 0 _ rfl; have z1 := hbx.cell 1 _ rfl; have z2 := hbx.cell 2 _ rfl; have z3 := hbx.cell 3 _ rfl; have z4 := hbx.cell 4 _ rfl; have z5 := hbx.cell 5 _ rfl; have z6 := hbx.cell 6 _ rfl; go_simp; try with_reducible rfl)
                  refine tkW 7 (some 70) (v := .bool (decide (y = m))) ?_ hHeld ?_
                  · (intro ww hSw; (try dsimp only at hSw); exact execEql (p := y) (q := m) rfl rfl ww)
                  refine tkW 8 (some 71) (v := ?_) ?_ hHeld ?_
                  rotate_left
                  · (intro ww _; go_simp; try with_reducible rfl)
                  refine tkW 9 (some 8) (v := ?_) ?_ hHeld ?_
                  rotate_left
                  · (intro ww _; go_simp; try with_reducible rfl)
                  refine wpAnyH_done (by kernel_rfl) ?_ _
                  clear hHeld
                  go_wp2
                  go_roundw
                  case rel => exact ⟨k + 1, by go_num, by omega, by (rw [HW2.out]), HM9, HZ2⟩
                  case measure => simp [intOf]; omega
              · have HWt : Hid (wasB l2 k m = true) := (by show _ = _; rw [show k = l2.length by omega]; exact HWa.out)
                rw [HWt.out]
                clear HWt
                go_wp2
                go_roundw
                case rel => exact ⟨i + 1, by go_num, by omega, HM9⟩
                case measure => simp [intOf]; omega
          · have HN60 : Hid (w.heap.size ≤ Ug24u0.heap.size ∧ ¬ F Ug24u0.heap.size) := ⟨hHeld.size, fun h => Nat.lt_irrefl _ (HM.out.row.lt _ h)⟩
            have hbx : Below Ug24u0.heap.size Ug24u0 (Ug24u0.alloc (.cells #[.int .i64 0, .int .i64 0, .string ⟨#[]⟩, .int .i64 0, .int .i64 0, .string ⟨#[]⟩, .bool false] 25)) := (Below.refl _ _).alloc (Nat.le_refl _) _
            go_simp
            refine hK.out _ _ (hHeld.trans (hbx.mono hHeld.size)) (fun hHeld2 => ?_)
            clear hK K hHeld
            have hHeld := hHeld2
            clear hHeld2
            (try simp only [Act.put, List.setIfInBounds_toArray, List.set_cons_zero, List.set_cons_succ])
            obtain ⟨Ug24u4, eW⟩ : ∃ X, X = Ug24u0.alloc (.cells #[.int .i64 0, .int .i64 0, .string ⟨#[]⟩, .int .i64 0, .int .i64 0, .string ⟨#[]⟩, .bool false] 25) := ⟨_, rfl⟩
            have hb : Below Ug24u0.heap.size Ug24u0 Ug24u4 := by rw [eW]; exact (Below.refl _ _).alloc (Nat.le_refl _) _
            replace HM : Hid (RgS w rb F R Ug24u4) := HM.out.below hb
            have HZ : Hid (Ug24u4.heap[Ug24u0.heap.size]? = some (.cells #[.int .i64 0, .int .i64 0, .string ⟨#[]⟩, .int .i64 0, .int .i64 0, .string ⟨#[]⟩, .bool false] 25)) := by rw [eW]; exact heap_alloc_new _ _
            rw [← eW] at hHeld ⊢
            clear eW
            clear hbx
            obtain ⟨b6, enb⟩ : ∃ b, b = Ug24u0.heap.size := ⟨_, rfl⟩
            have HN6 : Hid (w.heap.size ≤ b6 ∧ ¬ F b6) := by rw [enb]; exact HN60.out
            rw [← enb] at HZ ⊢
            clear enb
            clear HN60
            clear hb
            refine wpAnyH_ready (rs := [11]) (by kernel_rfl) (by simp) ?_
            refine AllReadyH.cons (o := ⟨some 44, _, _, _, _, _⟩) rfl (fun K hK => ?_) AllReadyH.nil
            go_simp
            refine (get_v HM.out.rv (keyR x)).mono ?_
            rintro e Ug24u5 ⟨rfl, hb⟩
            rw [HAt.out, HHas.out]
            (try go_wp2_with fail)
            refine hK.out _ _ (hHeld.trans (hb.mono hHeld.size)) (fun hHeld2 => ?_)
            clear hK K hHeld
            have hHeld := hHeld2
            clear hHeld2
            (try simp only [Act.put, List.setIfInBounds_toArray, List.set_cons_zero, List.set_cons_succ])
            replace HM : Hid (RgS w rb F R Ug24u5) := HM.out.below hb
            replace HZ : Hid (Ug24u5.heap[b6]? = some (.cells #[.int .i64 0, .int .i64 0, .string ⟨#[]⟩, .int .i64 0, .int .i64 0, .string ⟨#[]⟩, .bool false] 25)) := (hb.block _ (row_lt HZ.out)).trans HZ.out
            clear hb
            refine tkW 12 (some 32) (v := ?_) ?_ hHeld ?_
            rotate_left
            · (intro ww _; go_simp; try with_reducible rfl)
            refine tkW 13 (some 45) (v := ?_) ?_ hHeld ?_
            rotate_left
            · (intro ww _; go_simp; try with_reducible rfl)
            refine tkW 14 (some 46) (v := ?_) ?_ hHeld ?_
            rotate_left
            · (intro ww _; go_simp; try with_reducible rfl)
            refine wpAnyH_ready (rs := [16]) (by kernel_rfl) (by simp) ?_
            refine AllReadyH.cons (o := ⟨none, _, _, _, _, _⟩) rfl (fun K hK => ?_) AllReadyH.nil
            refine step_store_row rfl 25 (.tmp 6) (.tmp 45) rfl b6 25 #[.int .i64 0, .int .i64 0, .string ⟨#[]⟩, .int .i64 0, .int .i64 0, .string ⟨#[]⟩, .bool false] (rgCells m).toArray rfl rfl HZ.out sizeReg rfl (by simp [Value.oneCell', rgCells]) ?_
            obtain ⟨Ug24u6, eW⟩ : ∃ Y, Y = Ug24u5.setRow b6 (rgCells m).toArray := ⟨_, rfl⟩
            have ht9 : Touch (fun j => j = b6) Ug24u5 Ug24u6 := by rw [eW]; exact Touch.of_grown (grown_setRow _ _ _) fun j e _ => by cases e; rfl
            have HZ2 : Hid (BxC b6 (rgCells m) 25 Ug24u6) := by rw [eW]; exact setRow_same HZ.out
            have hS2 : Below w.heap.size w Ug24u6 := hHeld.trans (ht9.below (fun j e => by have := HN6.out.1; omega) hHeld.size)
            have HM9 : Hid (RgS w rb F R Ug24u6) := HM.out.box ht9 HN6.out.2 HN6.out.1
            rw [← eW]
            refine hK.out _ _ (hS2) (fun hHeld2 => ?_)
            clear hK K hHeld
            have hHeld := hHeld2
            clear hHeld2
            (try simp only [Act.put, List.setIfInBounds_toArray, List.set_cons_zero, List.set_cons_succ])
            clear eW hS2 HZ ht9 HM
            refine tkW 17 (some 7) (v := ?_) ?_ hHeld ?_
            rotate_left
            · (intro ww _; go_simp; try with_reducible rfl)
            refine wpAnyH_done (by kernel_rfl) ?_ _
            clear hHeld
            go_wp2_with fail
            refine wp_region_held_drew (S := fun W' => Below w.heap.size w W' ∧ BxC b6 (rgCells m) 25 W') (by kernel_rfl) ⟨HM9.out.bel.drew, HZ2.out.below (Below.refl _ _).drew⟩ (fun hHeld => ?_)
            obtain ⟨Un28u0, eW⟩ : ∃ X, X = Ug24u6.drew := ⟨_, rfl⟩
            have hb : Below Ug24u6.heap.size Ug24u6 Un28u0 := by rw [eW]; exact (Below.refl _ _).drew
            replace HM9 : Hid (RgS w rb F R Un28u0) := HM9.out.below hb
            replace HZ2 : Hid (BxC b6 (rgCells m) 25 Un28u0) := HZ2.out.below hb
            rw [← eW] at hHeld ⊢
            clear eW hb
            refine tkW 0 (some 47) (v := ?_) ?_ hHeld ?_
            rotate_left
            · (intro ww _; go_simp; try with_reducible rfl)
            refine tkW 1 (some 48) (v := ?_) ?_ hHeld ?_
            rotate_left
            · (intro ww _; go_simp; try with_reducible rfl)
            refine tkW 2 (some 49) (v := ?_) ?_ hHeld ?_
            rotate_left
            · (intro ww _; go_simp; try with_reducible rfl)
            refine tkW 3 (some 50) (v := ?_) ?_ hHeld ?_
            rotate_left
            · (intro ww _; go_simp; try with_reducible rfl)
            refine tkW 4 (some 51) (v := ?_) ?_ hHeld ?_
            rotate_left
            · (intro ww _; go_simp; try with_reducible rfl)
            refine tkW 5 (some 52) (v := ?_) ?_ hHeld ?_
            rotate_left
            · (intro ww hSw; (try dsimp only at hSw); go_simp; try with_reducible rfl)
            refine tkW 6 (some 53) (v := ?_) ?_ hHeld ?_
            rotate_left
            · (intro ww hSw; (try dsimp only at hSw); have hbw := hSw.1; have r0 : ww.cell? ⟨b, o + i * 7, none⟩ = some (.int .i64 x.nd.1) := (hbw.cell (p := ⟨b, o + i * 7, none⟩) HGl.out).trans RH0.out; have r1 : ww.cell? ⟨b, o + i * 7 + 1, none⟩ = some (.int .i64 x.nd.2) := (hbw.cell (p := ⟨b, o + i * 7 + 1, none⟩) HGl.out).trans RH1.out; have r2 : ww.cell? ⟨b, o + i * 7 + 2, none⟩ = some (.string x.nm) := (hbw.cell (p := ⟨b, o + i * 7 + 2, none⟩) HGl.out).trans RH2.out; have r3 : ww.cell? ⟨b, o + i * 7 + 3, none⟩ = some (.int .i64 x.at_.1) := (hbw.cell (p := ⟨b, o + i * 7 + 3, none⟩) HGl.out).trans RH3.out; have r4 : ww.cell? ⟨b, o + i * 7 + 4, none⟩ = some (.int .i64 x.at_.2) := (hbw.cell (p := ⟨b, o + i * 7 + 4, none⟩) HGl.out).trans RH4.out; have r5 : ww.cell? ⟨b, o + i * 7 + 5, none⟩ = some (.string x.vl) := (hbw.cell (p := ⟨b, o + i * 7 + 5, none⟩) HGl.out).trans RH5.out; have r6 : ww.cell? ⟨b, o + i * 7 + 6, none⟩ = some (.bool x.gn) := (hbw.cell (p := ⟨b, o + i * 7 + 6, none⟩) HGl.out).trans RH6.out; go_simp; try with_reducible rfl)
            refine tkW 7 (some 54) (v := ?_) ?_ hHeld ?_
            rotate_left
            · (intro ww hSw; (try dsimp only at hSw); have hbx := hSw.2; have z0 := hbx.cell 0 _ rfl; have z1 := hbx.cell 1 _ rfl; have z2 := hbx.cell 2 _ rfl; have z3 := hbx.cell 3 _ rfl; have z4 := hbx.cell 4 _ rfl; have z5 := hbx.cell 5 _ rfl; have z6 := hbx.cell 6 _ rfl; go_simp; try with_reducible rfl)
            refine wpAnyH_ready (rs := [8]) (by kernel_rfl) (by simp) ?_
            refine AllReadyH.cons (o := ⟨some 55, _, _, _, _, _⟩) rfl (fun K hK => ?_) AllReadyH.nil
            go_simp
            refine (wins_any x m _).mono ?_
            rintro e Un28u1 ⟨rfl, hb⟩
            rw [HWn.out]
            (try go_wp2_with fail)
            refine hK.out _ _ (⟨hHeld.1.trans (hb.mono hHeld.1.size), hHeld.2.below hb⟩) (fun hHeld2 => ?_)
            clear hK K hHeld
            have hHeld := hHeld2
            clear hHeld2
            (try simp only [Act.put, List.setIfInBounds_toArray, List.set_cons_zero, List.set_cons_succ])
            replace HM9 : Hid (RgS w rb F R Un28u1) := HM9.out.below hb
            replace HZ2 : Hid (BxC b6 (rgCells m) 25 Un28u1) := HZ2.out.below hb
            clear hb
            refine tkW 9 (some 56) (v := ?_) ?_ hHeld ?_
            rotate_left
            · (intro ww _; go_simp; try with_reducible rfl)
            refine wpAnyH_done (by kernel_rfl) ?_ _
            clear hHeld
            have HM0 : Hid (RgS w rb F R Un28u1) := HM9.out
            have HZ0 : Hid (BxC b6 (rgCells m) 25 Un28u1) := HZ2.out
            clear HM9 HZ2 HN6 HAt HHas HWn RH0 RH1 RH2 RH3 RH4 RH5 RH6
            go_wp2_with fail
            go_loopw [8, 9] (fun wv kv wr2 => ∃ k : Nat, kv = .int .i64 (k : Int) ∧ k ≤ l2.length ∧ wv = .bool (wasB l2 k m) ∧ Hid (RgS w rb F R wr2) ∧ Hid (BxC b6 (rgCells m) 25 wr2)) (fun _ kv _ => l2.length - (intOf kv).toNat)
            case atStart => exact ⟨0, rfl, Nat.zero_le _, rfl, HM0, HZ0⟩
            case round =>
              rename World => wq
              clear HM0 HZ0
              obtain ⟨k, rfl, hkl, rfl, HM9, HZ2⟩ := hrel
              by_cases hkt : k < l2.length
              · obtain ⟨b9, o9, cap9, ev, _, hbl, hrow⟩ := HL2.out.1.row7 (i := k) hkt
                injection ev with ev1 ev2 ev3
                injection ev1 with ev4
                injection ev4 with ev5 ev6 _
                subst ev5
                subst ev6
                clear ev2 ev3
                have HWs0 := wasB_next l2 k m hkt
                obtain ⟨y, ey⟩ : ∃ y, y = l2[k] := ⟨_, rfl⟩
                rw [← ey] at hrow HWs0
                have HWs : Hid (wasB l2 (k + 1) m = (wasB l2 k m || decide (y = m))) := HWs0
                have YH0 : Hid (w.cell? ⟨b, o + k * 7, none⟩ = some (.int .i64 y.nd.1)) := hrow 0 _ rfl
                have YH1 : Hid (w.cell? ⟨b, o + k * 7 + 1, none⟩ = some (.int .i64 y.nd.2)) := hrow 1 _ rfl
                have YH2 : Hid (w.cell? ⟨b, o + k * 7 + 2, none⟩ = some (.string y.nm)) := hrow 2 _ rfl
                have YH3 : Hid (w.cell? ⟨b, o + k * 7 + 3, none⟩ = some (.int .i64 y.at_.1)) := hrow 3 _ rfl
                have YH4 : Hid (w.cell? ⟨b, o + k * 7 + 4, none⟩ = some (.int .i64 y.at_.2)) := hrow 4 _ rfl
                have YH5 : Hid (w.cell? ⟨b, o + k * 7 + 5, none⟩ = some (.string y.vl)) := hrow 5 _ rfl
                have YH6 : Hid (w.cell? ⟨b, o + k * 7 + 6, none⟩ = some (.bool y.gn)) := hrow 6 _ rfl
                have kk1 : (k : Int) < (l2.length : Int) := by omega
                have kk0 : (0 : Int) ≤ (k : Int) := by omega
                clear ey hrow hbl HWs0
                go_wp2_with fail
                cases hw : wasB l2 k m with
                | true =>
                  have HW2 : Hid (wasB l2 (k + 1) m = true) := (by show _ = _; rw [HWs.out, hw]; rfl)
                  clear hw HWs
                  refine wp_region_held_drew (S := fun W' => Below w.heap.size w W' ∧ BxC b6 (rgCells m) 25 W') (by kernel_rfl) ⟨HM9.out.bel.drew, HZ2.out.below (Below.refl _ _).drew⟩ (fun hHeld => ?_)
                  obtain ⟨Ut29u0, eW⟩ : ∃ X, X = wq.drew := ⟨_, rfl⟩
                  have hb : Below wq.heap.size wq Ut29u0 := by rw [eW]; exact (Below.refl _ _).drew
                  replace HM9 : Hid (RgS w rb F R Ut29u0) := HM9.out.below hb
                  replace HZ2 : Hid (BxC b6 (rgCells m) 25 Ut29u0) := HZ2.out.below hb
                  rw [← eW] at hHeld ⊢
                  clear eW hb
                  refine tkW 0 (some 63) (v := ?_) ?_ hHeld ?_
                  rotate_left
                  · (intro ww _; go_simp; try with_reducible rfl)
                  refine tkW 1 (some 64) (v := ?_) ?_ hHeld ?_
                  rotate_left
                  · (intro ww _; go_simp; try with_reducible rfl)
                  refine tkU 2 (some 65) hHeld ?_
                  refine tkU 3 (some 66) hHeld ?_
                  refine tkU 4 (some 67) hHeld ?_
                  refine tkU 5 (some 68) hHeld ?_
                  refine tkU 6 (some 69) hHeld ?_
                  refine tkU 7 (some 70) hHeld ?_
                  refine tkW 8 (some 71) (v := ?_) ?_ hHeld ?_
                  rotate_left
                  · (intro ww _; go_simp; try with_reducible rfl)
                  refine tkW 9 (some 8) (v := ?_) ?_ hHeld ?_
                  rotate_left
                  · (intro ww _; go_simp; try with_reducible rfl)
                  refine wpAnyH_done (by kernel_rfl) ?_ _
                  clear hHeld
                  go_wp2
                  go_roundw
                  case rel => exact ⟨k + 1, by go_num, by omega, by (rw [HW2.out]), HM9, HZ2⟩
                  case measure => simp [intOf]; omega
                | false =>
                  have HW2 : Hid (wasB l2 (k + 1) m = decide (y = m)) := (by show _ = _; rw [HWs.out, hw]; rfl)
                  clear hw HWs
                  refine wp_region_held_drew (S := fun W' => Below w.heap.size w W' ∧ BxC b6 (rgCells m) 25 W') (by kernel_rfl) ⟨HM9.out.bel.drew, HZ2.out.below (Below.refl _ _).drew⟩ (fun hHeld => ?_)
                  obtain ⟨Uf30u0, eW⟩ : ∃ X, X = wq.drew := ⟨_, rfl⟩
                  have hb : Below wq.heap.size wq Uf30u0 := by rw [eW]; exact (Below.refl _ _).drew
                  replace HM9 : Hid (RgS w rb F R Uf30u0) := HM9.out.below hb
                  replace HZ2 : Hid (BxC b6 (rgCells m) 25 Uf30u0) := HZ2.out.below hb
                  rw [← eW] at hHeld ⊢
                  clear eW hb
                  refine tkW 0 (some 63) (v := ?_) ?_ hHeld ?_
                  rotate_left
                  · (intro ww _; go_simp; try with_reducible rfl)
                  refine tkW 1 (some 64) (v := ?_) ?_ hHeld ?_
                  rotate_left
                  · (intro ww _; go_simp; try with_reducible rfl)
                  refine tkW 2 (some 65) (v := ?_) ?_ hHeld ?_
                  rotate_left
                  · (intro ww _; go_simp; try with_reducible rfl)
                  refine tkW 3 (some 66) (v := ?_) ?_ hHeld ?_
                  rotate_left
                  · (intro ww _; go_simp; try with_reducible rfl)
                  refine tkW 4 (some 67) (v := ?_) ?_ hHeld ?_
                  rotate_left
                  · (intro ww hSw; (try dsimp only at hSw); go_simp; try with_reducible rfl)
                  refine tkW 5 (some 68) (v := ?_) ?_ hHeld ?_
                  rotate_left
                  · (intro ww hSw; (try dsimp only at hSw); have hbw := hSw.1; have y0 : ww.cell? ⟨b, o + k * 7, none⟩ = some (.int .i64 y.nd.1) := (hbw.cell (p := ⟨b, o + k * 7, none⟩) HGl.out).trans YH0.out; have y1 : ww.cell? ⟨b, o + k * 7 + 1, none⟩ = some (.int .i64 y.nd.2) := (hbw.cell (p := ⟨b, o + k * 7 + 1, none⟩) HGl.out).trans YH1.out; have y2 : ww.cell? ⟨b, o + k * 7 + 2, none⟩ = some (.string y.nm) := (hbw.cell (p := ⟨b, o + k * 7 + 2, none⟩) HGl.out).trans YH2.out; have y3 : ww.cell? ⟨b, o + k * 7 + 3, none⟩ = some (.int .i64 y.at_.1) := (hbw.cell (p := ⟨b, o + k * 7 + 3, none⟩) HGl.out).trans YH3.out; have y4 : ww.cell? ⟨b, o + k * 7 + 4, none⟩ = some (.int .i64 y.at_.2) := (hbw.cell (p := ⟨b, o + k * 7 + 4, none⟩) HGl.out).trans YH4.out; have y5 : ww.cell? ⟨b, o + k * 7 + 5, none⟩ = some (.string y.vl) := (hbw.cell (p := ⟨b, o + k * 7 + 5, none⟩) HGl.out).trans YH5.out; have y6 : ww.cell? ⟨b, o + k * 7 + 6, none⟩ = some (.bool y.gn) := (hbw.cell (p := ⟨b, o + k * 7 + 6, none⟩) HGl.out).trans YH6.out; go_simp; try with_reducible rfl)
                  refine tkW 6 (some 69) (v := ?_) ?_ hHeld ?_
                  rotate_left
                  · (intro ww hSw; (try dsimp only at hSw); have hbx := hSw.2; have z0 := hbx.cell 0 _ rfl; have z1 := hbx.cell 1 _ rfl; have z2 := hbx.cell 2 _ rfl; have z3 := hbx.cell 3 _ rfl; have z4 := hbx.cell 4 _ rfl; have z5 := hbx.cell 5 _ rfl; have z6 := hbx.cell 6 _ rfl; go_simp; try with_reducible rfl)
                  refine tkW 7 (some 70) (v := .bool (decide (y = m))) ?_ hHeld ?_
                  · (intro ww hSw; (try dsimp only at hSw); exact execEql (p := y) (q := m) rfl rfl ww)
                  refine tkW 8 (some 71) (v := ?_) ?_ hHeld ?_
                  rotate_left
                  · (intro ww _; go_simp; try with_reducible rfl)
                  refine tkW 9 (some 8) (v := ?_) ?_ hHeld ?_
                  rotate_left
                  · (intro ww _; go_simp; try with_reducible rfl)
                  refine wpAnyH_done (by kernel_rfl) ?_ _
                  clear hHeld
                  go_wp2
                  go_roundw
                  case rel => exact ⟨k + 1, by go_num, by omega, by (rw [HW2.out]), HM9, HZ2⟩
                  case measure => simp [intOf]; omega
              · have HWt : Hid (wasB l2 k m = true) := (by show _ = _; rw [show k = l2.length by omega]; exact HWa.out)
                rw [HWt.out]
                clear HWt
                go_wp2
                go_roundw
                case rel => exact ⟨i + 1, by go_num, by omega, HM9⟩
                case measure => simp [intOf]; omega
        · have q : (chkR x == 0) = false := by simpa using h0
          clear h0 HBx
          go_wp2
          go_roundw
          case rel => exact ⟨i + 1, by go_num, by omega, HM⟩
          case measure => simp [intOf]; omega
      · go_wp2_with fail
        refine (awake_any _).mono ?_
        rintro e w6 ⟨rfl, hb⟩
        replace HM : Hid (RgS w rb F R w6) := HM.out.below hb
        clear hb
        go_wp2
        go_ret
        exact ⟨rfl, HM.out.bel⟩

end Go.Proofs.Ytoljacnipkibiaa
