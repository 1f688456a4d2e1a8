/- unlink. -/
import Derived.Test.YtccpljllgpabnabPaA
import Derived.Test.YtccpljllgpabnabTk
import Derived.Deep.RegionHeld
namespace Go.Proofs.Ytccpljllgpabnab
open Go.RowKit
set_option linter.unusedVariables false
set_option linter.unusedSimpArgs false

set_option maxRecDepth 100000 in
set_option maxHeartbeats 4000000 in
theorem unlink_any (X : Nat → Prop) (g : Gr) (n p : Nat) (w : World) (hM : GMem X w g) (hn : X n) (hp : X p) (eu : g.up n = some p) (ha : ∀ a, g.pv n = some a → X a ∧ a ≠ n) (hm : ∀ y, g.nx n = some y → X y ∧ y ≠ n) :
    Calls Try.prog 50 #[ptr (some n)] w fun e w' => (∃ v, e = .returned v) ∧ GMem X w' (unl g p n) ∧ Touch X w w' := by
  cases ev : g.pv n with
  | none =>
    cases em : g.nx n with
    | none =>
      have HM := hide9 hM
      have HT := hide9 (Touch.refl X w)
      clear hM
      have p7 : w.cell? ⟨n, 7, none⟩ = some (.pointer none) := (by have h9 := HM.out.cpv hn; rw [ev] at h9; exact h9)
      show Calls Try.prog 50 #[.pointer (some ⟨n, 0, none⟩)] w _
      go_enter Try.func50, Try.ntmps50
      go_wp2
      clear p7
      refine wp_region_held_drew (S := fun W' => W'.cell? ⟨n, 6, none⟩ = some (.pointer (some ⟨p, 0, none⟩)) ∧ W'.cell? ⟨n, 8, none⟩ = some (.pointer none)) (by kernel_rfl) ⟨(by have h9 := HM.out.cup hn; (try dsimp only at h9); rw [eu] at h9; exact h9), (by have h9 := HM.out.cnx hn; (try dsimp only at h9); rw [em] at h9; exact h9)⟩ (fun hHeld => ?_)
      obtain ⟨Ur1u0, eW⟩ : ∃ X, X = w.drew := ⟨_, rfl⟩
      have hb : Below w.heap.size w Ur1u0 := by rw [eW]; exact (Below.refl _ _).drew
      replace HM : Hid (GMem X Ur1u0 g) := HM.out.keep fun b h9 => hb.block b (HM.out.lt h9)
      replace HT : Hid (Touch X w Ur1u0) := HT.out.trans (Touch.of_below (F := X) hb) (fun j q => .inl q)
      rw [← eW] at hHeld ⊢
      clear eW hb
      refine tkW 0 (some 7) (v := ?_) ?_ hHeld ?_
      rotate_left
      · (intro ww _; go_simp; try with_reducible rfl)
      refine tkW 1 (some 8) (v := ?_) ?_ hHeld ?_
      rotate_left
      · (intro ww hSw; (try dsimp only at hSw); obtain ⟨k_0, k_1⟩ := hSw; go_simp; try with_reducible rfl)
      refine tkW 2 (some 9) (v := ?_) ?_ hHeld ?_
      rotate_left
      · (intro ww _; go_simp; try with_reducible rfl)
      refine tkW 3 (some 10) (v := ?_) ?_ hHeld ?_
      rotate_left
      · (intro ww hSw; (try dsimp only at hSw); obtain ⟨k_0, k_1⟩ := hSw; go_simp; try with_reducible rfl)
      refine tkW 4 (some 11) (v := ?_) ?_ hHeld ?_
      rotate_left
      · (intro ww _; go_simp; try with_reducible rfl)
      refine tkW 5 (some 12) (v := ?_) ?_ hHeld ?_
      rotate_left
      · (intro ww hSw; (try dsimp only at hSw); obtain ⟨k_0, k_1⟩ := hSw; go_simp; try with_reducible rfl)
      refine tkW 6 (some 13) (v := ?_) ?_ hHeld ?_
      rotate_left
      · (intro ww _; go_simp; try with_reducible rfl)
      refine tkW 7 (some 14) (v := ?_) ?_ hHeld ?_
      rotate_left
      · (intro ww hSw; (try dsimp only at hSw); obtain ⟨k_0, k_1⟩ := hSw; go_simp; try with_reducible rfl)
      refine tkW 8 (some 15) (v := ?_) ?_ hHeld ?_
      rotate_left
      · (intro ww hSw; (try dsimp only at hSw); obtain ⟨k_0, k_1⟩ := hSw; go_simp; try with_reducible rfl)
      refine tkW 9 (some 16) (v := ?_) ?_ hHeld ?_
      rotate_left
      · (intro ww _; go_simp; try with_reducible rfl)
      refine wpAnyH_ready (rs := [10]) (by kernel_rfl) (by simp) ?_
      refine AllReadyH.cons (o := ⟨none, _, _, _, _, _⟩) rfl (fun K hK => ?_) AllReadyH.nil
      have pc : ∃ v, Ur1u0.cell? ⟨p, 9, none⟩ = some v := ⟨_, HM.out.cfs hp⟩
      obtain ⟨vc, pc⟩ := pc
      have zc := HM.out.fz hp 9
      have M9 := HM.out.setFs hp none
      have HM9 : Hid (GMem X (Ur1u0.setCell ⟨p, 9, none⟩ (.pointer none)) ({ g with fs := updF g.fs p none })) := M9
      have hS9 : (fun W' => W'.cell? ⟨n, 6, none⟩ = some (.pointer (some ⟨p, 0, none⟩)) ∧ W'.cell? ⟨n, 8, none⟩ = some (.pointer none)) (Ur1u0.setCell ⟨p, 9, none⟩ (.pointer none)) := ⟨(by have h9 := M9.cup hn; (try dsimp only at h9); rw [eu] at h9; exact h9), (by have h9 := M9.cnx hn; (try dsimp only at h9); rw [em] at h9; exact h9)⟩
      have HT9 : Hid (Touch X w (Ur1u0.setCell ⟨p, 9, none⟩ (.pointer none))) := touch_set HT.out hp
      go_simp
      refine hK.out _ _ (hS9) (fun hHeld2 => ?_)
      clear hK K hHeld
      have hHeld := hHeld2
      clear hHeld2
      (try simp only [Act.put, List.setIfInBounds_toArray, List.set_cons_zero, List.set_cons_succ])
      obtain ⟨Ur1u1, eX⟩ : ∃ X, X = Ur1u0.setCell ⟨p, 9, none⟩ (.pointer none) := ⟨_, rfl⟩
      rw [← eX] at HM9 HT9 ⊢
      clear hS9 M9 pc zc HM HT hHeld eX
      have HM := HM9
      have HT := HT9
      clear HM9 HT9
      refine wpAnyH_done (by kernel_rfl) ?_ _
      have q8 : Ur1u1.cell? ⟨n, 8, none⟩ = some (.pointer none) := (by have h9 := HM.out.cnx hn; (try dsimp only at h9); rw [em] at h9; exact h9)
      have M6 := HM.out.setUp hn none
      have M7 := M6.setPv hn none
      have M8 := M7.setNx hn none
      have p6 : ∃ v, Ur1u1.cell? ⟨n, 6, none⟩ = some v := ⟨_, HM.out.cup hn⟩
      obtain ⟨v6, p6⟩ := p6
      have z6 : Ur1u1.frozen? ⟨n, 6, none⟩ = false := HM.out.fz hn 6
      have p7 : ∃ v, (Ur1u1.setCell ⟨n, 6, none⟩ (.pointer none)).cell? ⟨n, 7, none⟩ = some v := ⟨_, M6.cpv hn⟩
      obtain ⟨v7, p7⟩ := p7
      have z7 : (Ur1u1.setCell ⟨n, 6, none⟩ (.pointer none)).frozen? ⟨n, 7, none⟩ = false := M6.fz hn 7
      have p8 : ∃ v, ((Ur1u1.setCell ⟨n, 6, none⟩ (.pointer none)).setCell ⟨n, 7, none⟩ (.pointer none)).cell? ⟨n, 8, none⟩ = some v := ⟨_, M7.cnx hn⟩
      obtain ⟨v8, p8⟩ := p8
      have z8 : ((Ur1u1.setCell ⟨n, 6, none⟩ (.pointer none)).setCell ⟨n, 7, none⟩ (.pointer none)).frozen? ⟨n, 8, none⟩ = false := M7.fz hn 8
      have HF : Hid (GMem X (((Ur1u1.setCell ⟨n, 6, none⟩ (.pointer none)).setCell ⟨n, 7, none⟩ (.pointer none)).setCell ⟨n, 8, none⟩ (.pointer none)) (unl g p n)) := M8.congr (fun b hb => (by
        simp only [gRow, unl, ev, em, orU, updF, if_true, reduceCtorEq, if_false]
        try (by_cases e1 : b = n <;> simp_all)))
      have HT8 : Hid (Touch X w (((Ur1u1.setCell ⟨n, 6, none⟩ (.pointer none)).setCell ⟨n, 7, none⟩ (.pointer none)).setCell ⟨n, 8, none⟩ (.pointer none))) := touch_set (touch_set (touch_set HT.out hn) hn) hn
      clear M6 M7 M8 HM HT
      go_wp2
      refine bodyPost_end (results_none rfl _ _ _) rfl ?_
      exact ⟨⟨_, rfl⟩, HF.out, HT8.out⟩
    | some y =>
      obtain ⟨hy, hyn⟩ := hm y em
      have HM := hide9 hM
      have HT := hide9 (Touch.refl X w)
      clear hM
      have p7 : w.cell? ⟨n, 7, none⟩ = some (.pointer none) := (by have h9 := HM.out.cpv hn; rw [ev] at h9; exact h9)
      show Calls Try.prog 50 #[.pointer (some ⟨n, 0, none⟩)] w _
      go_enter Try.func50, Try.ntmps50
      go_wp2
      clear p7
      refine wp_region_held_drew (S := fun W' => W'.cell? ⟨n, 6, none⟩ = some (.pointer (some ⟨p, 0, none⟩)) ∧ W'.cell? ⟨n, 8, none⟩ = some (.pointer (some ⟨y, 0, none⟩))) (by kernel_rfl) ⟨(by have h9 := HM.out.cup hn; (try dsimp only at h9); rw [eu] at h9; exact h9), (by have h9 := HM.out.cnx hn; (try dsimp only at h9); rw [em] at h9; exact h9)⟩ (fun hHeld => ?_)
      obtain ⟨Ur2u0, eW⟩ : ∃ X, X = w.drew := ⟨_, rfl⟩
      have hb : Below w.heap.size w Ur2u0 := by rw [eW]; exact (Below.refl _ _).drew
      replace HM : Hid (GMem X Ur2u0 g) := HM.out.keep fun b h9 => hb.block b (HM.out.lt h9)
      replace HT : Hid (Touch X w Ur2u0) := HT.out.trans (Touch.of_below (F := X) hb) (fun j q => .inl q)
      rw [← eW] at hHeld ⊢
      clear eW hb
      refine tkW 0 (some 7) (v := ?_) ?_ hHeld ?_
      rotate_left
      · (intro ww _; go_simp; try with_reducible rfl)
      refine tkW 1 (some 8) (v := ?_) ?_ hHeld ?_
      rotate_left
      · (intro ww hSw; (try dsimp only at hSw); obtain ⟨k_0, k_1⟩ := hSw; go_simp; try with_reducible rfl)
      refine tkW 2 (some 9) (v := ?_) ?_ hHeld ?_
      rotate_left
      · (intro ww _; go_simp; try with_reducible rfl)
      refine tkW 3 (some 10) (v := ?_) ?_ hHeld ?_
      rotate_left
      · (intro ww hSw; (try dsimp only at hSw); obtain ⟨k_0, k_1⟩ := hSw; go_simp; try with_reducible rfl)
      refine tkW 4 (some 11) (v := ?_) ?_ hHeld ?_
      rotate_left
      · (intro ww _; go_simp; try with_reducible rfl)
      refine tkW 5 (some 12) (v := ?_) ?_ hHeld ?_
      rotate_left
      · (intro ww hSw; (try dsimp only at hSw); obtain ⟨k_0, k_1⟩ := hSw; go_simp; try with_reducible rfl)
      refine tkW 6 (some 13) (v := ?_) ?_ hHeld ?_
      rotate_left
      · (intro ww _; go_simp; try with_reducible rfl)
      refine tkW 7 (some 14) (v := ?_) ?_ hHeld ?_
      rotate_left
      · (intro ww hSw; (try dsimp only at hSw); obtain ⟨k_0, k_1⟩ := hSw; go_simp; try with_reducible rfl)
      refine tkW 8 (some 15) (v := ?_) ?_ hHeld ?_
      rotate_left
      · (intro ww hSw; (try dsimp only at hSw); obtain ⟨k_0, k_1⟩ := hSw; go_simp; try with_reducible rfl)
      refine tkW 9 (some 16) (v := ?_) ?_ hHeld ?_
      rotate_left
      · (intro ww _; go_simp; try with_reducible rfl)
      refine wpAnyH_ready (rs := [10]) (by kernel_rfl) (by simp) ?_
      refine AllReadyH.cons (o := ⟨none, _, _, _, _, _⟩) rfl (fun K hK => ?_) AllReadyH.nil
      have pc : ∃ v, Ur2u0.cell? ⟨p, 9, none⟩ = some v := ⟨_, HM.out.cfs hp⟩
      obtain ⟨vc, pc⟩ := pc
      have zc := HM.out.fz hp 9
      have M9 := HM.out.setFs hp (some y)
      have HM9 : Hid (GMem X (Ur2u0.setCell ⟨p, 9, none⟩ (.pointer (some ⟨y, 0, none⟩))) ({ g with fs := updF g.fs p (some y) })) := M9
      have hS9 : (fun W' => W'.cell? ⟨n, 6, none⟩ = some (.pointer (some ⟨p, 0, none⟩)) ∧ W'.cell? ⟨n, 8, none⟩ = some (.pointer (some ⟨y, 0, none⟩))) (Ur2u0.setCell ⟨p, 9, none⟩ (.pointer (some ⟨y, 0, none⟩))) := ⟨(by have h9 := M9.cup hn; (try dsimp only at h9); rw [eu] at h9; exact h9), (by have h9 := M9.cnx hn; (try dsimp only at h9); rw [em] at h9; exact h9)⟩
      have HT9 : Hid (Touch X w (Ur2u0.setCell ⟨p, 9, none⟩ (.pointer (some ⟨y, 0, none⟩)))) := touch_set HT.out hp
      go_simp
      refine hK.out _ _ (hS9) (fun hHeld2 => ?_)
      clear hK K hHeld
      have hHeld := hHeld2
      clear hHeld2
      (try simp only [Act.put, List.setIfInBounds_toArray, List.set_cons_zero, List.set_cons_succ])
      obtain ⟨Ur2u1, eX⟩ : ∃ X, X = Ur2u0.setCell ⟨p, 9, none⟩ (.pointer (some ⟨y, 0, none⟩)) := ⟨_, rfl⟩
      rw [← eX] at HM9 HT9 ⊢
      clear hS9 M9 pc zc HM HT hHeld eX
      have HM := HM9
      have HT := HT9
      clear HM9 HT9
      refine wpAnyH_done (by kernel_rfl) ?_ _
      have q8 : Ur2u1.cell? ⟨n, 8, none⟩ = some (.pointer (some ⟨y, 0, none⟩)) := (by have h9 := HM.out.cnx hn; (try dsimp only at h9); rw [em] at h9; exact h9)
      go_wp2
      clear q8
      refine wp_region_held_drew (S := fun W' => W'.cell? ⟨n, 8, none⟩ = some (.pointer (some ⟨y, 0, none⟩)) ∧ W'.cell? ⟨n, 7, none⟩ = some (.pointer none)) (by kernel_rfl) ⟨(by have h9 := HM.out.cnx hn; (try dsimp only at h9); rw [em] at h9; exact h9), (by have h9 := HM.out.cpv hn; (try dsimp only at h9); (first | rw [ev] at h9 | rw [updF_ne _ _ hyn.symm, ev] at h9); exact h9)⟩ (fun hHeld => ?_)
      obtain ⟨Us3u0, eW⟩ : ∃ X, X = Ur2u1.drew := ⟨_, rfl⟩
      have hb : Below Ur2u1.heap.size Ur2u1 Us3u0 := by rw [eW]; exact (Below.refl _ _).drew
      replace HM : Hid (GMem X Us3u0 { g with fs := updF g.fs p (some y) }) := HM.out.keep fun b h9 => hb.block b (HM.out.lt h9)
      replace HT : Hid (Touch X w Us3u0) := HT.out.trans (Touch.of_below (F := X) hb) (fun j q => .inl q)
      rw [← eW] at hHeld ⊢
      clear eW hb
      refine tkW 0 (some 32) (v := ?_) ?_ hHeld ?_
      rotate_left
      · (intro ww _; go_simp; try with_reducible rfl)
      refine tkW 1 (some 33) (v := ?_) ?_ hHeld ?_
      rotate_left
      · (intro ww hSw; (try dsimp only at hSw); obtain ⟨k_0, k_1⟩ := hSw; go_simp; try with_reducible rfl)
      refine tkW 2 (some 34) (v := ?_) ?_ hHeld ?_
      rotate_left
      · (intro ww _; go_simp; try with_reducible rfl)
      refine tkW 3 (some 35) (v := ?_) ?_ hHeld ?_
      rotate_left
      · (intro ww hSw; (try dsimp only at hSw); obtain ⟨k_0, k_1⟩ := hSw; go_simp; try with_reducible rfl)
      refine tkW 4 (some 36) (v := ?_) ?_ hHeld ?_
      rotate_left
      · (intro ww _; go_simp; try with_reducible rfl)
      refine tkW 5 (some 37) (v := ?_) ?_ hHeld ?_
      rotate_left
      · (intro ww hSw; (try dsimp only at hSw); obtain ⟨k_0, k_1⟩ := hSw; go_simp; try with_reducible rfl)
      refine tkW 6 (some 38) (v := ?_) ?_ hHeld ?_
      rotate_left
      · (intro ww _; go_simp; try with_reducible rfl)
      refine tkW 7 (some 39) (v := ?_) ?_ hHeld ?_
      rotate_left
      · (intro ww hSw; (try dsimp only at hSw); obtain ⟨k_0, k_1⟩ := hSw; go_simp; try with_reducible rfl)
      refine tkW 8 (some 40) (v := ?_) ?_ hHeld ?_
      rotate_left
      · (intro ww hSw; (try dsimp only at hSw); obtain ⟨k_0, k_1⟩ := hSw; go_simp; try with_reducible rfl)
      refine tkW 9 (some 41) (v := ?_) ?_ hHeld ?_
      rotate_left
      · (intro ww _; go_simp; try with_reducible rfl)
      refine wpAnyH_ready (rs := [10]) (by kernel_rfl) (by simp) ?_
      refine AllReadyH.cons (o := ⟨none, _, _, _, _, _⟩) rfl (fun K hK => ?_) AllReadyH.nil
      have pc : ∃ v, Us3u0.cell? ⟨y, 7, none⟩ = some v := ⟨_, HM.out.cpv hy⟩
      obtain ⟨vc, pc⟩ := pc
      have zc := HM.out.fz hy 7
      have M9 := HM.out.setPv hy none
      have HM9 : Hid (GMem X (Us3u0.setCell ⟨y, 7, none⟩ (.pointer none)) ({ ({ g with fs := updF g.fs p (some y) }) with pv := updF g.pv y none })) := M9
      have hS9 : (fun W' => W'.cell? ⟨n, 8, none⟩ = some (.pointer (some ⟨y, 0, none⟩)) ∧ W'.cell? ⟨n, 7, none⟩ = some (.pointer none)) (Us3u0.setCell ⟨y, 7, none⟩ (.pointer none)) := ⟨(by have h9 := M9.cnx hn; (try dsimp only at h9); rw [em] at h9; exact h9), (by have h9 := M9.cpv hn; (try dsimp only at h9); (first | rw [ev] at h9 | rw [updF_ne _ _ hyn.symm, ev] at h9); exact h9)⟩
      have HT9 : Hid (Touch X w (Us3u0.setCell ⟨y, 7, none⟩ (.pointer none))) := touch_set HT.out hy
      go_simp
      refine hK.out _ _ (hS9) (fun hHeld2 => ?_)
      clear hK K hHeld
      have hHeld := hHeld2
      clear hHeld2
      (try simp only [Act.put, List.setIfInBounds_toArray, List.set_cons_zero, List.set_cons_succ])
      obtain ⟨Us3u1, eX⟩ : ∃ X, X = Us3u0.setCell ⟨y, 7, none⟩ (.pointer none) := ⟨_, rfl⟩
      rw [← eX] at HM9 HT9 ⊢
      clear hS9 M9 pc zc HM HT hHeld eX
      have HM := HM9
      have HT := HT9
      clear HM9 HT9
      refine wpAnyH_done (by kernel_rfl) ?_ _
      have M6 := HM.out.setUp hn none
      have M7 := M6.setPv hn none
      have M8 := M7.setNx hn none
      have p6 : ∃ v, Us3u1.cell? ⟨n, 6, none⟩ = some v := ⟨_, HM.out.cup hn⟩
      obtain ⟨v6, p6⟩ := p6
      have z6 : Us3u1.frozen? ⟨n, 6, none⟩ = false := HM.out.fz hn 6
      have p7 : ∃ v, (Us3u1.setCell ⟨n, 6, none⟩ (.pointer none)).cell? ⟨n, 7, none⟩ = some v := ⟨_, M6.cpv hn⟩
      obtain ⟨v7, p7⟩ := p7
      have z7 : (Us3u1.setCell ⟨n, 6, none⟩ (.pointer none)).frozen? ⟨n, 7, none⟩ = false := M6.fz hn 7
      have p8 : ∃ v, ((Us3u1.setCell ⟨n, 6, none⟩ (.pointer none)).setCell ⟨n, 7, none⟩ (.pointer none)).cell? ⟨n, 8, none⟩ = some v := ⟨_, M7.cnx hn⟩
      obtain ⟨v8, p8⟩ := p8
      have z8 : ((Us3u1.setCell ⟨n, 6, none⟩ (.pointer none)).setCell ⟨n, 7, none⟩ (.pointer none)).frozen? ⟨n, 8, none⟩ = false := M7.fz hn 8
      have HF : Hid (GMem X (((Us3u1.setCell ⟨n, 6, none⟩ (.pointer none)).setCell ⟨n, 7, none⟩ (.pointer none)).setCell ⟨n, 8, none⟩ (.pointer none)) (unl g p n)) := M8.congr (fun b hb => (by
        simp only [gRow, unl, ev, em, orU, updF, if_true, reduceCtorEq, if_false]
        try (by_cases e1 : b = n <;> simp_all)))
      have HT8 : Hid (Touch X w (((Us3u1.setCell ⟨n, 6, none⟩ (.pointer none)).setCell ⟨n, 7, none⟩ (.pointer none)).setCell ⟨n, 8, none⟩ (.pointer none))) := touch_set (touch_set (touch_set HT.out hn) hn) hn
      clear M6 M7 M8 HM HT
      go_wp2
      refine bodyPost_end (results_none rfl _ _ _) rfl ?_
      exact ⟨⟨_, rfl⟩, HF.out, HT8.out⟩
  | some a =>
    obtain ⟨hx, han⟩ := ha a ev
    cases em : g.nx n with
    | none =>
      have HM := hide9 hM
      have HT := hide9 (Touch.refl X w)
      clear hM
      have p7 : w.cell? ⟨n, 7, none⟩ = some (.pointer (some ⟨a, 0, none⟩)) := (by have h9 := HM.out.cpv hn; rw [ev] at h9; exact h9)
      show Calls Try.prog 50 #[.pointer (some ⟨n, 0, none⟩)] w _
      go_enter Try.func50, Try.ntmps50
      go_wp2
      clear p7
      refine wp_region_held_drew (S := fun W' => W'.cell? ⟨n, 7, none⟩ = some (.pointer (some ⟨a, 0, none⟩)) ∧ W'.cell? ⟨n, 8, none⟩ = some (.pointer none)) (by kernel_rfl) ⟨(by have h9 := HM.out.cpv hn; (try dsimp only at h9); rw [ev] at h9; exact h9), (by have h9 := HM.out.cnx hn; (try dsimp only at h9); (first | rw [em] at h9 | rw [updF_ne _ _ han.symm, em] at h9); exact h9)⟩ (fun hHeld => ?_)
      obtain ⟨Ur4u0, eW⟩ : ∃ X, X = w.drew := ⟨_, rfl⟩
      have hb : Below w.heap.size w Ur4u0 := by rw [eW]; exact (Below.refl _ _).drew
      replace HM : Hid (GMem X Ur4u0 g) := HM.out.keep fun b h9 => hb.block b (HM.out.lt h9)
      replace HT : Hid (Touch X w Ur4u0) := HT.out.trans (Touch.of_below (F := X) hb) (fun j q => .inl q)
      rw [← eW] at hHeld ⊢
      clear eW hb
      refine tkW 0 (some 17) (v := ?_) ?_ hHeld ?_
      rotate_left
      · (intro ww _; go_simp; try with_reducible rfl)
      refine tkW 1 (some 18) (v := ?_) ?_ hHeld ?_
      rotate_left
      · (intro ww hSw; (try dsimp only at hSw); obtain ⟨k_0, k_1⟩ := hSw; go_simp; try with_reducible rfl)
      refine tkW 2 (some 19) (v := ?_) ?_ hHeld ?_
      rotate_left
      · (intro ww _; go_simp; try with_reducible rfl)
      refine tkW 3 (some 20) (v := ?_) ?_ hHeld ?_
      rotate_left
      · (intro ww hSw; (try dsimp only at hSw); obtain ⟨k_0, k_1⟩ := hSw; go_simp; try with_reducible rfl)
      refine tkW 4 (some 21) (v := ?_) ?_ hHeld ?_
      rotate_left
      · (intro ww _; go_simp; try with_reducible rfl)
      refine tkW 5 (some 22) (v := ?_) ?_ hHeld ?_
      rotate_left
      · (intro ww hSw; (try dsimp only at hSw); obtain ⟨k_0, k_1⟩ := hSw; go_simp; try with_reducible rfl)
      refine tkW 6 (some 23) (v := ?_) ?_ hHeld ?_
      rotate_left
      · (intro ww _; go_simp; try with_reducible rfl)
      refine tkW 7 (some 24) (v := ?_) ?_ hHeld ?_
      rotate_left
      · (intro ww hSw; (try dsimp only at hSw); obtain ⟨k_0, k_1⟩ := hSw; go_simp; try with_reducible rfl)
      refine tkW 8 (some 25) (v := ?_) ?_ hHeld ?_
      rotate_left
      · (intro ww hSw; (try dsimp only at hSw); obtain ⟨k_0, k_1⟩ := hSw; go_simp; try with_reducible rfl)
      refine tkW 9 (some 26) (v := ?_) ?_ hHeld ?_
      rotate_left
      · (intro ww _; go_simp; try with_reducible rfl)
      refine wpAnyH_ready (rs := [10]) (by kernel_rfl) (by simp) ?_
      refine AllReadyH.cons (o := ⟨none, _, _, _, _, _⟩) rfl (fun K hK => ?_) AllReadyH.nil
      have pc : ∃ v, Ur4u0.cell? ⟨a, 8, none⟩ = some v := ⟨_, HM.out.cnx hx⟩
      obtain ⟨vc, pc⟩ := pc
      have zc := HM.out.fz hx 8
      have M9 := HM.out.setNx hx none
      have HM9 : Hid (GMem X (Ur4u0.setCell ⟨a, 8, none⟩ (.pointer none)) ({ g with nx := updF g.nx a none })) := M9
      have hS9 : (fun W' => W'.cell? ⟨n, 7, none⟩ = some (.pointer (some ⟨a, 0, none⟩)) ∧ W'.cell? ⟨n, 8, none⟩ = some (.pointer none)) (Ur4u0.setCell ⟨a, 8, none⟩ (.pointer none)) := ⟨(by have h9 := M9.cpv hn; (try dsimp only at h9); rw [ev] at h9; exact h9), (by have h9 := M9.cnx hn; (try dsimp only at h9); (first | rw [em] at h9 | rw [updF_ne _ _ han.symm, em] at h9); exact h9)⟩
      have HT9 : Hid (Touch X w (Ur4u0.setCell ⟨a, 8, none⟩ (.pointer none))) := touch_set HT.out hx
      go_simp
      refine hK.out _ _ (hS9) (fun hHeld2 => ?_)
      clear hK K hHeld
      have hHeld := hHeld2
      clear hHeld2
      (try simp only [Act.put, List.setIfInBounds_toArray, List.set_cons_zero, List.set_cons_succ])
      obtain ⟨Ur4u1, eX⟩ : ∃ X, X = Ur4u0.setCell ⟨a, 8, none⟩ (.pointer none) := ⟨_, rfl⟩
      rw [← eX] at HM9 HT9 ⊢
      clear hS9 M9 pc zc HM HT hHeld eX
      have HM := HM9
      have HT := HT9
      clear HM9 HT9
      refine wpAnyH_done (by kernel_rfl) ?_ _
      have q8 : Ur4u1.cell? ⟨n, 8, none⟩ = some (.pointer none) := (by have h9 := HM.out.cnx hn; (try dsimp only at h9); rw [updF_ne _ _ han.symm, em] at h9; exact h9)
      have M6 := HM.out.setUp hn none
      have M7 := M6.setPv hn none
      have M8 := M7.setNx hn none
      have p6 : ∃ v, Ur4u1.cell? ⟨n, 6, none⟩ = some v := ⟨_, HM.out.cup hn⟩
      obtain ⟨v6, p6⟩ := p6
      have z6 : Ur4u1.frozen? ⟨n, 6, none⟩ = false := HM.out.fz hn 6
      have p7 : ∃ v, (Ur4u1.setCell ⟨n, 6, none⟩ (.pointer none)).cell? ⟨n, 7, none⟩ = some v := ⟨_, M6.cpv hn⟩
      obtain ⟨v7, p7⟩ := p7
      have z7 : (Ur4u1.setCell ⟨n, 6, none⟩ (.pointer none)).frozen? ⟨n, 7, none⟩ = false := M6.fz hn 7
      have p8 : ∃ v, ((Ur4u1.setCell ⟨n, 6, none⟩ (.pointer none)).setCell ⟨n, 7, none⟩ (.pointer none)).cell? ⟨n, 8, none⟩ = some v := ⟨_, M7.cnx hn⟩
      obtain ⟨v8, p8⟩ := p8
      have z8 : ((Ur4u1.setCell ⟨n, 6, none⟩ (.pointer none)).setCell ⟨n, 7, none⟩ (.pointer none)).frozen? ⟨n, 8, none⟩ = false := M7.fz hn 8
      have HF : Hid (GMem X (((Ur4u1.setCell ⟨n, 6, none⟩ (.pointer none)).setCell ⟨n, 7, none⟩ (.pointer none)).setCell ⟨n, 8, none⟩ (.pointer none)) (unl g p n)) := M8.congr (fun b hb => (by
        simp only [gRow, unl, ev, em, orU, updF, if_true, reduceCtorEq, if_false]
        try (by_cases e1 : b = n <;> simp_all)))
      have HT8 : Hid (Touch X w (((Ur4u1.setCell ⟨n, 6, none⟩ (.pointer none)).setCell ⟨n, 7, none⟩ (.pointer none)).setCell ⟨n, 8, none⟩ (.pointer none))) := touch_set (touch_set (touch_set HT.out hn) hn) hn
      clear M6 M7 M8 HM HT
      go_wp2
      refine bodyPost_end (results_none rfl _ _ _) rfl ?_
      exact ⟨⟨_, rfl⟩, HF.out, HT8.out⟩
    | some y =>
      obtain ⟨hy, hyn⟩ := hm y em
      have HM := hide9 hM
      have HT := hide9 (Touch.refl X w)
      clear hM
      have p7 : w.cell? ⟨n, 7, none⟩ = some (.pointer (some ⟨a, 0, none⟩)) := (by have h9 := HM.out.cpv hn; rw [ev] at h9; exact h9)
      show Calls Try.prog 50 #[.pointer (some ⟨n, 0, none⟩)] w _
      go_enter Try.func50, Try.ntmps50
      go_wp2
      clear p7
      refine wp_region_held_drew (S := fun W' => W'.cell? ⟨n, 7, none⟩ = some (.pointer (some ⟨a, 0, none⟩)) ∧ W'.cell? ⟨n, 8, none⟩ = some (.pointer (some ⟨y, 0, none⟩))) (by kernel_rfl) ⟨(by have h9 := HM.out.cpv hn; (try dsimp only at h9); rw [ev] at h9; exact h9), (by have h9 := HM.out.cnx hn; (try dsimp only at h9); (first | rw [em] at h9 | rw [updF_ne _ _ han.symm, em] at h9); exact h9)⟩ (fun hHeld => ?_)
      obtain ⟨Ur5u0, eW⟩ : ∃ X, X = w.drew := ⟨_, rfl⟩
      have hb : Below w.heap.size w Ur5u0 := by rw [eW]; exact (Below.refl _ _).drew
      replace HM : Hid (GMem X Ur5u0 g) := HM.out.keep fun b h9 => hb.block b (HM.out.lt h9)
      replace HT : Hid (Touch X w Ur5u0) := HT.out.trans (Touch.of_below (F := X) hb) (fun j q => .inl q)
      rw [← eW] at hHeld ⊢
      clear eW hb
      refine tkW 0 (some 17) (v := ?_) ?_ hHeld ?_
      rotate_left
      · (intro ww _; go_simp; try with_reducible rfl)
      refine tkW 1 (some 18) (v := ?_) ?_ hHeld ?_
      rotate_left
      · (intro ww hSw; (try dsimp only at hSw); obtain ⟨k_0, k_1⟩ := hSw; go_simp; try with_reducible rfl)
      refine tkW 2 (some 19) (v := ?_) ?_ hHeld ?_
      rotate_left
      · (intro ww _; go_simp; try with_reducible rfl)
      refine tkW 3 (some 20) (v := ?_) ?_ hHeld ?_
      rotate_left
      · (intro ww hSw; (try dsimp only at hSw); obtain ⟨k_0, k_1⟩ := hSw; go_simp; try with_reducible rfl)
      refine tkW 4 (some 21) (v := ?_) ?_ hHeld ?_
      rotate_left
      · (intro ww _; go_simp; try with_reducible rfl)
      refine tkW 5 (some 22) (v := ?_) ?_ hHeld ?_
      rotate_left
      · (intro ww hSw; (try dsimp only at hSw); obtain ⟨k_0, k_1⟩ := hSw; go_simp; try with_reducible rfl)
      refine tkW 6 (some 23) (v := ?_) ?_ hHeld ?_
      rotate_left
      · (intro ww _; go_simp; try with_reducible rfl)
      refine tkW 7 (some 24) (v := ?_) ?_ hHeld ?_
      rotate_left
      · (intro ww hSw; (try dsimp only at hSw); obtain ⟨k_0, k_1⟩ := hSw; go_simp; try with_reducible rfl)
      refine tkW 8 (some 25) (v := ?_) ?_ hHeld ?_
      rotate_left
      · (intro ww hSw; (try dsimp only at hSw); obtain ⟨k_0, k_1⟩ := hSw; go_simp; try with_reducible rfl)
      refine tkW 9 (some 26) (v := ?_) ?_ hHeld ?_
      rotate_left
      · (intro ww _; go_simp; try with_reducible rfl)
      refine wpAnyH_ready (rs := [10]) (by kernel_rfl) (by simp) ?_
      refine AllReadyH.cons (o := ⟨none, _, _, _, _, _⟩) rfl (fun K hK => ?_) AllReadyH.nil
      have pc : ∃ v, Ur5u0.cell? ⟨a, 8, none⟩ = some v := ⟨_, HM.out.cnx hx⟩
      obtain ⟨vc, pc⟩ := pc
      have zc := HM.out.fz hx 8
      have M9 := HM.out.setNx hx (some y)
      have HM9 : Hid (GMem X (Ur5u0.setCell ⟨a, 8, none⟩ (.pointer (some ⟨y, 0, none⟩))) ({ g with nx := updF g.nx a (some y) })) := M9
      have hS9 : (fun W' => W'.cell? ⟨n, 7, none⟩ = some (.pointer (some ⟨a, 0, none⟩)) ∧ W'.cell? ⟨n, 8, none⟩ = some (.pointer (some ⟨y, 0, none⟩))) (Ur5u0.setCell ⟨a, 8, none⟩ (.pointer (some ⟨y, 0, none⟩))) := ⟨(by have h9 := M9.cpv hn; (try dsimp only at h9); rw [ev] at h9; exact h9), (by have h9 := M9.cnx hn; (try dsimp only at h9); (first | rw [em] at h9 | rw [updF_ne _ _ han.symm, em] at h9); exact h9)⟩
      have HT9 : Hid (Touch X w (Ur5u0.setCell ⟨a, 8, none⟩ (.pointer (some ⟨y, 0, none⟩)))) := touch_set HT.out hx
      go_simp
      refine hK.out _ _ (hS9) (fun hHeld2 => ?_)
      clear hK K hHeld
      have hHeld := hHeld2
      clear hHeld2
      (try simp only [Act.put, List.setIfInBounds_toArray, List.set_cons_zero, List.set_cons_succ])
      obtain ⟨Ur5u1, eX⟩ : ∃ X, X = Ur5u0.setCell ⟨a, 8, none⟩ (.pointer (some ⟨y, 0, none⟩)) := ⟨_, rfl⟩
      rw [← eX] at HM9 HT9 ⊢
      clear hS9 M9 pc zc HM HT hHeld eX
      have HM := HM9
      have HT := HT9
      clear HM9 HT9
      refine wpAnyH_done (by kernel_rfl) ?_ _
      have q8 : Ur5u1.cell? ⟨n, 8, none⟩ = some (.pointer (some ⟨y, 0, none⟩)) := (by have h9 := HM.out.cnx hn; (try dsimp only at h9); rw [updF_ne _ _ han.symm, em] at h9; exact h9)
      go_wp2
      clear q8
      refine wp_region_held_drew (S := fun W' => W'.cell? ⟨n, 8, none⟩ = some (.pointer (some ⟨y, 0, none⟩)) ∧ W'.cell? ⟨n, 7, none⟩ = some (.pointer (some ⟨a, 0, none⟩))) (by kernel_rfl) ⟨(by have h9 := HM.out.cnx hn; (try dsimp only at h9); rw [updF_ne _ _ han.symm, em] at h9; exact h9), (by have h9 := HM.out.cpv hn; (try dsimp only at h9); (first | rw [ev] at h9 | rw [updF_ne _ _ hyn.symm, ev] at h9); exact h9)⟩ (fun hHeld => ?_)
      obtain ⟨Us6u0, eW⟩ : ∃ X, X = Ur5u1.drew := ⟨_, rfl⟩
      have hb : Below Ur5u1.heap.size Ur5u1 Us6u0 := by rw [eW]; exact (Below.refl _ _).drew
      replace HM : Hid (GMem X Us6u0 { g with nx := updF g.nx a (some y) }) := HM.out.keep fun b h9 => hb.block b (HM.out.lt h9)
      replace HT : Hid (Touch X w Us6u0) := HT.out.trans (Touch.of_below (F := X) hb) (fun j q => .inl q)
      rw [← eW] at hHeld ⊢
      clear eW hb
      refine tkW 0 (some 32) (v := ?_) ?_ hHeld ?_
      rotate_left
      · (intro ww _; go_simp; try with_reducible rfl)
      refine tkW 1 (some 33) (v := ?_) ?_ hHeld ?_
      rotate_left
      · (intro ww hSw; (try dsimp only at hSw); obtain ⟨k_0, k_1⟩ := hSw; go_simp; try with_reducible rfl)
      refine tkW 2 (some 34) (v := ?_) ?_ hHeld ?_
      rotate_left
      · (intro ww _; go_simp; try with_reducible rfl)
      refine tkW 3 (some 35) (v := ?_) ?_ hHeld ?_
      rotate_left
      · (intro ww hSw; (try dsimp only at hSw); obtain ⟨k_0, k_1⟩ := hSw; go_simp; try with_reducible rfl)
      refine tkW 4 (some 36) (v := ?_) ?_ hHeld ?_
      rotate_left
      · (intro ww _; go_simp; try with_reducible rfl)
      refine tkW 5 (some 37) (v := ?_) ?_ hHeld ?_
      rotate_left
      · (intro ww hSw; (try dsimp only at hSw); obtain ⟨k_0, k_1⟩ := hSw; go_simp; try with_reducible rfl)
      refine tkW 6 (some 38) (v := ?_) ?_ hHeld ?_
      rotate_left
      · (intro ww _; go_simp; try with_reducible rfl)
      refine tkW 7 (some 39) (v := ?_) ?_ hHeld ?_
      rotate_left
      · (intro ww hSw; (try dsimp only at hSw); obtain ⟨k_0, k_1⟩ := hSw; go_simp; try with_reducible rfl)
      refine tkW 8 (some 40) (v := ?_) ?_ hHeld ?_
      rotate_left
      · (intro ww hSw; (try dsimp only at hSw); obtain ⟨k_0, k_1⟩ := hSw; go_simp; try with_reducible rfl)
      refine tkW 9 (some 41) (v := ?_) ?_ hHeld ?_
      rotate_left
      · (intro ww _; go_simp; try with_reducible rfl)
      refine wpAnyH_ready (rs := [10]) (by kernel_rfl) (by simp) ?_
      refine AllReadyH.cons (o := ⟨none, _, _, _, _, _⟩) rfl (fun K hK => ?_) AllReadyH.nil
      have pc : ∃ v, Us6u0.cell? ⟨y, 7, none⟩ = some v := ⟨_, HM.out.cpv hy⟩
      obtain ⟨vc, pc⟩ := pc
      have zc := HM.out.fz hy 7
      have M9 := HM.out.setPv hy (some a)
      have HM9 : Hid (GMem X (Us6u0.setCell ⟨y, 7, none⟩ (.pointer (some ⟨a, 0, none⟩))) ({ ({ g with nx := updF g.nx a (some y) }) with pv := updF g.pv y (some a) })) := M9
      have hS9 : (fun W' => W'.cell? ⟨n, 8, none⟩ = some (.pointer (some ⟨y, 0, none⟩)) ∧ W'.cell? ⟨n, 7, none⟩ = some (.pointer (some ⟨a, 0, none⟩))) (Us6u0.setCell ⟨y, 7, none⟩ (.pointer (some ⟨a, 0, none⟩))) := ⟨(by have h9 := M9.cnx hn; (try dsimp only at h9); rw [updF_ne _ _ han.symm, em] at h9; exact h9), (by have h9 := M9.cpv hn; (try dsimp only at h9); (first | rw [ev] at h9 | rw [updF_ne _ _ hyn.symm, ev] at h9); exact h9)⟩
      have HT9 : Hid (Touch X w (Us6u0.setCell ⟨y, 7, none⟩ (.pointer (some ⟨a, 0, none⟩)))) := touch_set HT.out hy
      go_simp
      refine hK.out _ _ (hS9) (fun hHeld2 => ?_)
      clear hK K hHeld
      have hHeld := hHeld2
      clear hHeld2
      (try simp only [Act.put, List.setIfInBounds_toArray, List.set_cons_zero, List.set_cons_succ])
      obtain ⟨Us6u1, eX⟩ : ∃ X, X = Us6u0.setCell ⟨y, 7, none⟩ (.pointer (some ⟨a, 0, none⟩)) := ⟨_, rfl⟩
      rw [← eX] at HM9 HT9 ⊢
      clear hS9 M9 pc zc HM HT hHeld eX
      have HM := HM9
      have HT := HT9
      clear HM9 HT9
      refine wpAnyH_done (by kernel_rfl) ?_ _
      have M6 := HM.out.setUp hn none
      have M7 := M6.setPv hn none
      have M8 := M7.setNx hn none
      have p6 : ∃ v, Us6u1.cell? ⟨n, 6, none⟩ = some v := ⟨_, HM.out.cup hn⟩
      obtain ⟨v6, p6⟩ := p6
      have z6 : Us6u1.frozen? ⟨n, 6, none⟩ = false := HM.out.fz hn 6
      have p7 : ∃ v, (Us6u1.setCell ⟨n, 6, none⟩ (.pointer none)).cell? ⟨n, 7, none⟩ = some v := ⟨_, M6.cpv hn⟩
      obtain ⟨v7, p7⟩ := p7
      have z7 : (Us6u1.setCell ⟨n, 6, none⟩ (.pointer none)).frozen? ⟨n, 7, none⟩ = false := M6.fz hn 7
      have p8 : ∃ v, ((Us6u1.setCell ⟨n, 6, none⟩ (.pointer none)).setCell ⟨n, 7, none⟩ (.pointer none)).cell? ⟨n, 8, none⟩ = some v := ⟨_, M7.cnx hn⟩
      obtain ⟨v8, p8⟩ := p8
      have z8 : ((Us6u1.setCell ⟨n, 6, none⟩ (.pointer none)).setCell ⟨n, 7, none⟩ (.pointer none)).frozen? ⟨n, 8, none⟩ = false := M7.fz hn 8
      have HF : Hid (GMem X (((Us6u1.setCell ⟨n, 6, none⟩ (.pointer none)).setCell ⟨n, 7, none⟩ (.pointer none)).setCell ⟨n, 8, none⟩ (.pointer none)) (unl g p n)) := M8.congr (fun b hb => (by
        simp only [gRow, unl, ev, em, orU, updF, if_true, reduceCtorEq, if_false]
        try (by_cases e1 : b = n <;> simp_all)))
      have HT8 : Hid (Touch X w (((Us6u1.setCell ⟨n, 6, none⟩ (.pointer none)).setCell ⟨n, 7, none⟩ (.pointer none)).setCell ⟨n, 8, none⟩ (.pointer none))) := touch_set (touch_set (touch_set HT.out hn) hn) hn
      clear M6 M7 M8 HM HT
      go_wp2
      refine bodyPost_end (results_none rfl _ _ _) rfl ?_
      exact ⟨⟨_, rfl⟩, HF.out, HT8.out⟩

end Go.Proofs.Ytccpljllgpabnab
