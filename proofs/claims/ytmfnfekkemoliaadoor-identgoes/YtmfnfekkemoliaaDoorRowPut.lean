/- What the document's Put does: a stamp at its place in a list. -/
import Derived.Test.YtmfnfekkemoliaaDoorRowOwn
import Derived.Test.YtmfnfekkemoliaaDoorRowHas
import Derived.Test.YtmfnfekkemoliaaDoorWalksE
namespace Go.Proofs.YtmfnfekkemoliaaDoor
open Go.RowKit
set_option linter.unusedVariables false

/-- One round: what is built, and whether the stamp is in it. -/
def putStep (s : Int × Int) (p : List (Int × Int) × Bool) (x : Int × Int) : List (Int × Int) × Bool :=
  if p.2 = false ∧ lessS s.1 s.2 x.1 x.2 = true then (p.1 ++ [s] ++ [x], true) else (p.1 ++ [x], p.2)
def putTo (s : Int × Int) (d : List (Int × Int)) : List (Int × Int) × Bool := d.foldl (putStep s) ([], false)
def putL (d : List (Int × Int)) (s : Int × Int) : List (Int × Int) :=
  if s ∈ d then d else if (putTo s d).2 = true then (putTo s d).1 else (putTo s d).1 ++ [s]
/-- Four cells that a region reads, and all that was there. -/
def Kept4 (w0 : World) (A B : Nat) (o : Nat) (c r x y : Int) (w : World) : Prop :=
  (w.cell? ⟨A, 0, none⟩ = some (.int .i64 c) ∧ w.cell? ⟨A, 1, none⟩ = some (.int .i64 r) ∧ w.cell? ⟨B, o, none⟩ = some (.int .i64 x) ∧ w.cell? ⟨B, o + 1, none⟩ = some (.int .i64 y)) ∧ Below w0.heap.size w0 w
theorem Kept4.step {w0 : World} {A B o : Nat} {c r x y : Int} {W w' : World} (hA : A < w0.heap.size) (hB : B < w0.heap.size) (h : Kept4 w0 A B o c r x y W) (hb : Below W.heap.size W w') : Kept4 w0 A B o c r x y w' := by
  obtain ⟨⟨h1, h2, h3, h4⟩, hw⟩ := h
  have hs := hw.size
  exact ⟨⟨(hb.cell (p := ⟨A, 0, none⟩) (by show A < _; omega)).trans h1, (hb.cell (p := ⟨A, 1, none⟩) (by show A < _; omega)).trans h2, (hb.cell (p := ⟨B, o, none⟩) (by show B < _; omega)).trans h3, (hb.cell (p := ⟨B, o + 1, none⟩) (by show B < _; omega)).trans h4⟩, hw.trans (hb.mono hs)⟩

theorem putTo_next (s : Int × Int) (d : List (Int × Int)) (k : Nat) (h : k < d.length) : putTo s (d.take (k + 1)) = putStep s (putTo s (d.take k)) d[k] := by
  unfold putTo
  rw [List.take_succ_eq_append_getElem h, List.foldl_append]
  rfl
theorem putTo_length (s : Int × Int) : ∀ (d : List (Int × Int)), (putTo s d).1.length = d.length + if (putTo s d).2 = true then 1 else 0 := by
  have key : ∀ (d : List (Int × Int)) (p : List (Int × Int) × Bool), (d.foldl (putStep s) p).1.length + (if p.2 = true then 1 else 0) = p.1.length + d.length + if (d.foldl (putStep s) p).2 = true then 1 else 0 := by
    intro d
    induction d with
    | nil => intro p; obtain ⟨x, b⟩ := p; cases b <;> simp
    | cons x y ih =>
      intro p
      rw [List.foldl_cons]
      have h := ih (putStep s p x)
      unfold putStep at h ⊢
      split at h
      · rename_i hc
        rw [if_pos hc]
        simp [hc.1] at h ⊢
        omega
      · rename_i hc
        rw [if_neg hc]
        simp at h ⊢
        omega
  intro d
  have h := key d ([], false)
  simp at h
  exact h

set_option maxHeartbeats 2000000 in
theorem put_there (v : Value) (d : List (Int × Int)) (c r : Int) (w : World) (h1 : IsS w v d) (hm : (c, r) ∈ d) :
    Calls Tryd.prog 38 #[v, .agg #[.int .i64 c, .int .i64 r]] w fun e w' => e = .returned v ∧ Below w.heap.size w w' := by
  have hd : decide ((c, r) ∈ d) = true := by simp [hm]
  have HD : Hid ((c, r) ∈ d) := hm
  clear hm
  have hbox : Below w.heap.size w (w.alloc (.cells #[.int .i64 c, .int .i64 r] 23)) := (Below.refl _ _).alloc (Nat.le_refl _) _
  have h2 := h1.below hbox
  obtain ⟨a1, c1, rfl, hc1, hl1, r1⟩ := h1
  go_enter Tryd.func38, Tryd.ntmps38
  go_wp2_with fail
  refine (has_any _ d c r _ h2).mono ?_
  rintro e w1 ⟨rfl, hb1⟩
  rw [hd]
  go_wp2
  go_ret
  exact ⟨rfl, hbox.trans (hb1.mono (by simp))⟩

set_option maxHeartbeats 2000000 in
set_option maxRecDepth 100000 in
theorem put_new (v : Value) (d : List (Int × Int)) (c r : Int) (w : World) (h1 : IsS w v d) (hm : (c, r) ∉ d) (hlen : d.length < 8796093022208) :
    Calls Tryd.prog 38 #[v, .agg #[.int .i64 c, .int .i64 r]] w fun e w' => ∃ v', e = .returned v' ∧ IsS w' v' (putL d (c, r)) ∧ Below w.heap.size w w' := by
  have hd : decide ((c, r) ∈ d) = false := by simp [hm]
  have HD : Hid ((c, r) ∉ d) := hm
  clear hm
  have hbox : Below w.heap.size w (w.alloc (.cells #[.int .i64 c, .int .i64 r] 23)) := (Below.refl _ _).alloc (Nat.le_refl _) _
  have h2 := h1.below hbox
  obtain ⟨a1, c1, rfl, hc1, hl1, r1⟩ := h1
  obtain ⟨i0, hi, hz0, hz1, hz2⟩ := info_parts infoStamp
  go_enter Tryd.func38, Tryd.ntmps38
  go_wp2_with fail
  refine (has_any _ d c r _ h2).mono ?_
  rintro e w1 ⟨rfl, hb1⟩
  rw [hd]
  have hbw1 : Below w.heap.size w w1 := hbox.trans (hb1.mono (by simp))
  have z1 : w.heap.size < w1.heap.size := by have := hb1.size; simp at this; omega
  have y1 : w1.cell? ⟨w.heap.size, 0, none⟩ = some (.int .i64 c) := (hb1.cell (p := ⟨w.heap.size, 0, none⟩) (by simp)).trans (by simp [go_sem])
  have y2 : w1.cell? ⟨w.heap.size, 1, none⟩ = some (.int .i64 r) := (hb1.cell (p := ⟨w.heap.size, 1, none⟩) (by simp)).trans (by simp [go_sem])
  go_wp2
  go_loopw [5, 6, 7] (fun ov dv iv wr => ∃ (k : Nat) (ao : Option Addr) (co : Nat), k ≤ d.length ∧ iv = .int .i64 (k : Int) ∧ dv = .bool (putTo (c, r) (d.take k)).2 ∧ ov = .slice ao (putTo (c, r) (d.take k)).1.length co ∧ OwnS w1.heap.size wr (.slice ao (putTo (c, r) (d.take k)).1.length co) (putTo (c, r) (d.take k)).1 ∧ Below w1.heap.size w1 wr) (fun _ _ iv _ => d.length - (intOf iv).toNat)
  case atStart => exact ⟨0, _, _, Nat.zero_le _, rfl, rfl, rfl, OwnS.empty w1 _ (Nat.le_refl _), (Below.refl _ _).alloc (Nat.le_refl _) _⟩
  case round =>
    obtain ⟨k, ao, co, hk, rfl, rfl, rfl, hown, hb⟩ := hrel
    have hbw : Below w.heap.size w wr := hbw1.trans (hb.mono (by omega))
    have hz := hb.size
    have u1 : wr.cell? ⟨w.heap.size, 0, none⟩ = some (.int .i64 c) := (hb.cell (p := ⟨w.heap.size, 0, none⟩) z1).trans y1
    have u2 : wr.cell? ⟨w.heap.size, 1, none⟩ = some (.int .i64 r) := (hb.cell (p := ⟨w.heap.size, 1, none⟩) z1).trans y2
    have hlp : (putTo (c, r) (d.take k)).1.length ≤ k + 1 := by
      have h := putTo_length (c, r) (d.take k)
      have h3 := List.length_take_le k d
      split at h <;> omega
    have hlq : (putTo (c, r) (d.take k)).2 = false → (putTo (c, r) (d.take k)).1.length ≤ k := fun e => by
      have h := putTo_length (c, r) (d.take k)
      have h3 := List.length_take_le k d
      rw [e] at h
      simp at h
      omega
    by_cases hlt : k < d.length
    · obtain ⟨b1, o1, rfl, g1⟩ := r1.resolve_left (by intro e; subst e; simp at hlt)
      obtain ⟨x11, x12⟩ := (g1.below hbw) k hlt
      have hbw0 : b1 < w.heap.size := g1.lt (by intro e; subst e; simp at hlt)
      have hbk : b1 < wr.heap.size := (g1.below hbw).lt (by intro e; subst e; simp at hlt)
      have k1 : (k : Int) < (d.length : Int) := by omega
      have k0 : (0 : Int) ≤ (k : Int) := by omega
      have NX : Hid (putTo (c, r) (d.take (k + 1)) = putStep (c, r) (putTo (c, r) (d.take k)) d[k]) := putTo_next _ _ _ hlt
      generalize putTo (c, r) (d.take k) = pk at *
      obtain ⟨D, dn⟩ := pk
      dsimp only at hown hlp hlq ⊢
      have HO : Hid (OwnS w1.heap.size wr (.slice ao D.length co) D) := hown
      clear hown r1 g1 h2
      cases dn
      · have hlr : D.length ≤ k := hlq rfl
        clear hlq
        cases hs : lessS c r d[k].1 d[k].2
        · go_wp2
          refine wp_region_held_drew (S := (fun w' => (w'.cell? ⟨w.heap.size, 0, none⟩ = some (.int .i64 c) ∧ w'.cell? ⟨w.heap.size, 1, none⟩ = some (.int .i64 r) ∧ w'.cell? ⟨b1, o1 + k * 2, none⟩ = some (.int .i64 d[k].1) ∧ w'.cell? ⟨b1, o1 + k * 2 + 1, none⟩ = some (.int .i64 d[k].2)) ∧ Below wr.heap.size wr w')) (by kernel_rfl) ⟨⟨u1, u2, x11, x12⟩, (Below.refl _ _).drew⟩ (fun hHeld => ?_)
          refine wpAnyH_take (i := 0) (oi := ⟨some 19, _, _, _, _, _⟩) (v := ?v0) rfl (by kernel_rfl) (by kernel_rfl) (by kernel_rfl) (fun _ _ _ h => h) (Or.inl ⟨by rfl, ?hy0⟩) hHeld ?rest0
          case hy0 => (intro w hSw; (try dsimp only at hSw); go_simp; try with_reducible rfl)
          simp only [Act.put, List.setIfInBounds_toArray, List.set_cons_zero, List.set_cons_succ]
          refine wpAnyH_take (i := 1) (oi := ⟨some 20, _, _, _, _, _⟩) (v := ?v1) rfl (by kernel_rfl) (by kernel_rfl) (by kernel_rfl) (fun _ _ _ h => h) (Or.inl ⟨by rfl, ?hy1⟩) hHeld ?rest1
          case hy1 => (intro w hSw; (try dsimp only at hSw); go_simp; try with_reducible rfl)
          simp only [Act.put, List.setIfInBounds_toArray, List.set_cons_zero, List.set_cons_succ]
          refine wpAnyH_take (i := 2) (oi := ⟨some 21, _, _, _, _, _⟩) (v := ?v2) rfl (by kernel_rfl) (by kernel_rfl) (by kernel_rfl) (fun _ _ _ h => h) (Or.inl ⟨by rfl, ?hy2⟩) hHeld ?rest2
          case hy2 => (intro w hSw; (try dsimp only at hSw); go_simp; try with_reducible rfl)
          simp only [Act.put, List.setIfInBounds_toArray, List.set_cons_zero, List.set_cons_succ]
          refine wpAnyH_take (i := 3) (oi := ⟨some 22, _, _, _, _, _⟩) (v := ?v3) rfl (by kernel_rfl) (by kernel_rfl) (by kernel_rfl) (fun _ _ _ h => h) (Or.inl ⟨by rfl, ?hy3⟩) hHeld ?rest3
          case hy3 => (intro w hSw; (try dsimp only at hSw); go_simp; try with_reducible rfl)
          simp only [Act.put, List.setIfInBounds_toArray, List.set_cons_zero, List.set_cons_succ]
          refine wpAnyH_take (i := 4) (oi := ⟨some 23, _, _, _, _, _⟩) (v := ?v4) rfl (by kernel_rfl) (by kernel_rfl) (by kernel_rfl) (fun _ _ _ h => h) (Or.inl ⟨by rfl, ?hy4⟩) hHeld ?rest4
          case hy4 => (intro w hSw; (try dsimp only at hSw); go_simp; try with_reducible rfl)
          simp only [Act.put, List.setIfInBounds_toArray, List.set_cons_zero, List.set_cons_succ]
          refine wpAnyH_take (i := 5) (oi := ⟨some 24, _, _, _, _, _⟩) (v := ?v5) rfl (by kernel_rfl) (by kernel_rfl) (by kernel_rfl) (fun _ _ _ h => h) (Or.inl ⟨by rfl, ?hy5⟩) hHeld ?rest5
          case hy5 => (intro w hSw; (try dsimp only at hSw); go_simp; try with_reducible rfl)
          simp only [Act.put, List.setIfInBounds_toArray, List.set_cons_zero, List.set_cons_succ]
          refine wpAnyH_take (i := 6) (oi := ⟨some 25, _, _, _, _, _⟩) (v := ?v6) rfl (by kernel_rfl) (by kernel_rfl) (by kernel_rfl) (fun _ _ _ h => h) (Or.inl ⟨by rfl, ?hy6⟩) hHeld ?rest6
          case hy6 => (intro w hSw; (try dsimp only at hSw); go_simp; try with_reducible rfl)
          simp only [Act.put, List.setIfInBounds_toArray, List.set_cons_zero, List.set_cons_succ]
          refine wpAnyH_take (i := 7) (oi := ⟨some 26, _, _, _, _, _⟩) (v := ?v7) rfl (by kernel_rfl) (by kernel_rfl) (by kernel_rfl) (fun _ _ _ h => h) (Or.inl ⟨by rfl, ?hy7⟩) hHeld ?rest7
          case hy7 => (intro w hSw; (try dsimp only at hSw); go_simp; try with_reducible rfl)
          simp only [Act.put, List.setIfInBounds_toArray, List.set_cons_zero, List.set_cons_succ]
          refine wpAnyH_ready (rs := [8]) (by kernel_rfl) (by simp) ?_
          refine AllReadyH.cons (o := ⟨some 27, _, _, _, _, _⟩) rfl (fun K hK => ?_) AllReadyH.nil
          go_simp
          refine (refLess_bel _ _ _ _ _).mono ?_
          rintro e w' ⟨rfl, hb9⟩
          (try go_wp2_with fail)
          refine hK.out _ _ (Kept4.step (by omega) hbk hHeld hb9) (fun hHeld2 => ?_)
          clear hK K hHeld
          have hHeld := hHeld2
          clear hHeld2
          (try simp only [Act.put, List.setIfInBounds_toArray, List.set_cons_zero, List.set_cons_succ])
          refine wpAnyH_take (i := 9) (oi := ⟨some 28, _, _, _, _, _⟩) (v := ?v9) rfl (by kernel_rfl) (by kernel_rfl) (by kernel_rfl) (fun _ _ _ h => h) (Or.inl ⟨by rfl, ?hy9⟩) hHeld ?rest9
          case hy9 => (intro w hSw; (try dsimp only at hSw); go_simp; try with_reducible rfl)
          simp only [Act.put, List.setIfInBounds_toArray, List.set_cons_zero, List.set_cons_succ]
          refine wpAnyH_done (by kernel_rfl) ?_ _
          obtain ⟨⟨s1, s2, s3, s4⟩, sb⟩ := hHeld
          have HO2 : Hid (OwnS w1.heap.size w' (.slice ao D.length co) D) := OwnS.below HO.out sb
          have sz := sb.size
          go_wp2_with (at_builtin; refine wpList_append_own _ rfl _ _ 38 rfl w1.heap.size 23 i0 (.agg #[.int .i64 0, .int .i64 0]) 2 16 Tryd.underlying38 hi hz0 hz1 hz2 rfl (by decide) _ _ _ rfl (World.ownsRow.alloc HO2.out _) ⟨w'.heap.size, 0, none⟩ 1 1 [.int .i64 d[k].1, .int .i64 d[k].2] rfl rfl (cell_two_new _ _ _ _) (fun x hx => by simp at hx; rcases hx with rfl | rfl <;> rfl) (by unfold maxLen; omega) (by omega) (by simp; omega) ?_; intro v' w3 hown' hgrow3 hnil3)
          go_roundw
          case rel =>
            have h5 : OwnS w1.heap.size _ _ (D ++ [d[k]]) := OwnS.snoc hown'
            obtain ⟨a2, c2, e2⟩ := h5.form
            subst e2
            have NE : Hid (putTo (c, r) (d.take (k + 1)) = (D ++ [d[k]], false)) := by show _ = _; rw [NX.out]; simp [putStep, hs]
            refine ⟨k + 1, a2, c2, by omega, by go_num, by rw [NE.out], by rw [NE.out], by rw [NE.out]; exact h5, ?_⟩
            exact ((hb.trans (sb.mono hz)).alloc (by omega) _).grown hgrow3 (by simp; omega) (fun j e => HO2.out.block j e)
          case measure => simp [intOf]; omega
        · go_wp2
          refine wp_region_held_drew (S := (fun w' => (w'.cell? ⟨w.heap.size, 0, none⟩ = some (.int .i64 c) ∧ w'.cell? ⟨w.heap.size, 1, none⟩ = some (.int .i64 r) ∧ w'.cell? ⟨b1, o1 + k * 2, none⟩ = some (.int .i64 d[k].1) ∧ w'.cell? ⟨b1, o1 + k * 2 + 1, none⟩ = some (.int .i64 d[k].2)) ∧ Below wr.heap.size wr w')) (by kernel_rfl) ⟨⟨u1, u2, x11, x12⟩, (Below.refl _ _).drew⟩ (fun hHeld => ?_)
          refine wpAnyH_take (i := 0) (oi := ⟨some 19, _, _, _, _, _⟩) (v := ?vb0) rfl (by kernel_rfl) (by kernel_rfl) (by kernel_rfl) (fun _ _ _ h => h) (Or.inl ⟨by rfl, ?hyb0⟩) hHeld ?restb0
          case hyb0 => (intro w hSw; (try dsimp only at hSw); go_simp; try with_reducible rfl)
          simp only [Act.put, List.setIfInBounds_toArray, List.set_cons_zero, List.set_cons_succ]
          refine wpAnyH_take (i := 1) (oi := ⟨some 20, _, _, _, _, _⟩) (v := ?vb1) rfl (by kernel_rfl) (by kernel_rfl) (by kernel_rfl) (fun _ _ _ h => h) (Or.inl ⟨by rfl, ?hyb1⟩) hHeld ?restb1
          case hyb1 => (intro w hSw; (try dsimp only at hSw); go_simp; try with_reducible rfl)
          simp only [Act.put, List.setIfInBounds_toArray, List.set_cons_zero, List.set_cons_succ]
          refine wpAnyH_take (i := 2) (oi := ⟨some 21, _, _, _, _, _⟩) (v := ?vb2) rfl (by kernel_rfl) (by kernel_rfl) (by kernel_rfl) (fun _ _ _ h => h) (Or.inl ⟨by rfl, ?hyb2⟩) hHeld ?restb2
          case hyb2 => (intro w hSw; (try dsimp only at hSw); go_simp; try with_reducible rfl)
          simp only [Act.put, List.setIfInBounds_toArray, List.set_cons_zero, List.set_cons_succ]
          refine wpAnyH_take (i := 3) (oi := ⟨some 22, _, _, _, _, _⟩) (v := ?vb3) rfl (by kernel_rfl) (by kernel_rfl) (by kernel_rfl) (fun _ _ _ h => h) (Or.inl ⟨by rfl, ?hyb3⟩) hHeld ?restb3
          case hyb3 => (intro w hSw; (try dsimp only at hSw); go_simp; try with_reducible rfl)
          simp only [Act.put, List.setIfInBounds_toArray, List.set_cons_zero, List.set_cons_succ]
          refine wpAnyH_take (i := 4) (oi := ⟨some 23, _, _, _, _, _⟩) (v := ?vb4) rfl (by kernel_rfl) (by kernel_rfl) (by kernel_rfl) (fun _ _ _ h => h) (Or.inl ⟨by rfl, ?hyb4⟩) hHeld ?restb4
          case hyb4 => (intro w hSw; (try dsimp only at hSw); go_simp; try with_reducible rfl)
          simp only [Act.put, List.setIfInBounds_toArray, List.set_cons_zero, List.set_cons_succ]
          refine wpAnyH_take (i := 5) (oi := ⟨some 24, _, _, _, _, _⟩) (v := ?vb5) rfl (by kernel_rfl) (by kernel_rfl) (by kernel_rfl) (fun _ _ _ h => h) (Or.inl ⟨by rfl, ?hyb5⟩) hHeld ?restb5
          case hyb5 => (intro w hSw; (try dsimp only at hSw); go_simp; try with_reducible rfl)
          simp only [Act.put, List.setIfInBounds_toArray, List.set_cons_zero, List.set_cons_succ]
          refine wpAnyH_take (i := 6) (oi := ⟨some 25, _, _, _, _, _⟩) (v := ?vb6) rfl (by kernel_rfl) (by kernel_rfl) (by kernel_rfl) (fun _ _ _ h => h) (Or.inl ⟨by rfl, ?hyb6⟩) hHeld ?restb6
          case hyb6 => (intro w hSw; (try dsimp only at hSw); go_simp; try with_reducible rfl)
          simp only [Act.put, List.setIfInBounds_toArray, List.set_cons_zero, List.set_cons_succ]
          refine wpAnyH_take (i := 7) (oi := ⟨some 26, _, _, _, _, _⟩) (v := ?vb7) rfl (by kernel_rfl) (by kernel_rfl) (by kernel_rfl) (fun _ _ _ h => h) (Or.inl ⟨by rfl, ?hyb7⟩) hHeld ?restb7
          case hyb7 => (intro w hSw; (try dsimp only at hSw); go_simp; try with_reducible rfl)
          simp only [Act.put, List.setIfInBounds_toArray, List.set_cons_zero, List.set_cons_succ]
          refine wpAnyH_ready (rs := [8]) (by kernel_rfl) (by simp) ?_
          refine AllReadyH.cons (o := ⟨some 27, _, _, _, _, _⟩) rfl (fun K hK => ?_) AllReadyH.nil
          go_simp
          refine (refLess_bel _ _ _ _ _).mono ?_
          rintro e w' ⟨rfl, hb9⟩
          (try go_wp2_with fail)
          refine hK.out _ _ (Kept4.step (by omega) hbk hHeld hb9) (fun hHeld2 => ?_)
          clear hK K hHeld
          have hHeld := hHeld2
          clear hHeld2
          (try simp only [Act.put, List.setIfInBounds_toArray, List.set_cons_zero, List.set_cons_succ])
          refine wpAnyH_take (i := 9) (oi := ⟨some 28, _, _, _, _, _⟩) (v := ?vb9) rfl (by kernel_rfl) (by kernel_rfl) (by kernel_rfl) (fun _ _ _ h => h) (Or.inl ⟨by rfl, ?hyb9⟩) hHeld ?restb9
          case hyb9 => (intro w hSw; (try dsimp only at hSw); go_simp; try with_reducible rfl)
          simp only [Act.put, List.setIfInBounds_toArray, List.set_cons_zero, List.set_cons_succ]
          refine wpAnyH_done (by kernel_rfl) ?_ _
          obtain ⟨⟨s1, s2, s3, s4⟩, sb⟩ := hHeld
          have HO2 : Hid (OwnS w1.heap.size w' (.slice ao D.length co) D) := OwnS.below HO.out sb
          have sz := sb.size
          have bel3 : Below w1.heap.size w1 w' := hb.trans (sb.mono hz)
          have hlt1 : b1 < w1.heap.size := by omega
          go_wp2_with (first
            | (at_builtin
               refine wpList_append_own _ rfl _ _ 38 rfl w1.heap.size 23 i0 (.agg #[.int .i64 0, .int .i64 0]) 2 16 Tryd.underlying38 hi hz0 hz1 hz2 rfl (by decide) _ _ _ rfl (World.ownsRow.alloc HO2.out _) ⟨w'.heap.size, 0, none⟩ 1 1 [.int .i64 c, .int .i64 r] rfl rfl (cell_two_new _ _ _ _) (fun x hx => by simp at hx; rcases hx with rfl | rfl <;> rfl) (by unfold maxLen; omega) (by omega) (by simp; omega) ?_
               intro v' w3 hown' hgrow3 hnil3
               have bel4 : Below w1.heap.size w1 w3 := (bel3.alloc (by omega) _).grown hgrow3 (by simp; omega) (fun j e => HO2.out.block j e)
               have z4 := bel4.size
               have t3 : w3.cell? ⟨b1, o1 + k * 2, none⟩ = some (.int .i64 d[k].1) := (bel4.cell (p := ⟨b1, o1 + k * 2, none⟩) hlt1).trans ((hb.cell (p := ⟨b1, o1 + k * 2, none⟩) hlt1).symm.trans x11)
               have t4 : w3.cell? ⟨b1, o1 + k * 2 + 1, none⟩ = some (.int .i64 d[k].2) := (bel4.cell (p := ⟨b1, o1 + k * 2 + 1, none⟩) hlt1).trans ((hb.cell (p := ⟨b1, o1 + k * 2 + 1, none⟩) hlt1).symm.trans x12)
               obtain ⟨a4, c4, e4, hg4⟩ := own_slice hown'
               subst e4
               clear HO2 hgrow3)
            | (at_builtin; refine wpList_append_own _ rfl _ _ 38 rfl w1.heap.size 23 i0 (.agg #[.int .i64 0, .int .i64 0]) 2 16 Tryd.underlying38 hi hz0 hz1 hz2 rfl (by decide) _ _ _ rfl (World.ownsRow.alloc hown' _) ⟨w3.heap.size, 0, none⟩ 1 1 [.int .i64 d[k].1, .int .i64 d[k].2] rfl rfl (cell_two_new _ _ _ _) (fun x hx => by simp at hx; rcases hx with rfl | rfl <;> rfl) (by unfold maxLen; omega) (by omega) (by simp; omega) ?_; intro v5 w5 hown5 hgrow5 _))
          go_roundw
          case rel =>
            have h5 : OwnS w1.heap.size _ _ (D ++ [(c, r)] ++ [d[k]]) := OwnS.snoc2 hown5
            obtain ⟨a2, c2, e2⟩ := h5.form
            subst e2
            have NE : Hid (putTo (c, r) (d.take (k + 1)) = (D ++ [(c, r)] ++ [d[k]], true)) := by show _ = _; rw [NX.out]; simp [putStep, hs]
            refine ⟨k + 1, a2, c2, by omega, by go_num, by rw [NE.out], by rw [NE.out], by rw [NE.out]; exact h5, ?_⟩
            exact ((bel4.alloc (by omega) _).grown hgrow5 (by simp; omega) (fun j e => by cases e; exact hg4))
          case measure => simp [intOf]; omega
      · clear hlq
        go_wp2
        refine wp_region_held_drew (S := (fun w' => (w'.cell? ⟨w.heap.size, 0, none⟩ = some (.int .i64 c) ∧ w'.cell? ⟨w.heap.size, 1, none⟩ = some (.int .i64 r) ∧ w'.cell? ⟨b1, o1 + k * 2, none⟩ = some (.int .i64 d[k].1) ∧ w'.cell? ⟨b1, o1 + k * 2 + 1, none⟩ = some (.int .i64 d[k].2)) ∧ Below wr.heap.size wr w')) (by kernel_rfl) ⟨⟨u1, u2, x11, x12⟩, (Below.refl _ _).drew⟩ (fun hHeld => ?_)
        refine wpAnyH_take (i := 0) (oi := ⟨some 19, _, _, _, _, _⟩) (v := ?vc0) rfl (by kernel_rfl) (by kernel_rfl) (by kernel_rfl) (fun _ _ _ h => h) (Or.inl ⟨by rfl, ?hyc0⟩) hHeld ?restc0
        case hyc0 => (intro w hSw; (try dsimp only at hSw); go_simp; try with_reducible rfl)
        simp only [Act.put, List.setIfInBounds_toArray, List.set_cons_zero, List.set_cons_succ]
        refine wpAnyH_take (i := 1) (oi := ⟨some 20, _, _, _, _, _⟩) (v := ?vc1) rfl (by kernel_rfl) (by kernel_rfl) (by kernel_rfl) (fun _ _ _ h => h) (Or.inl ⟨by rfl, ?hyc1⟩) hHeld ?restc1
        case hyc1 => (intro w hSw; (try dsimp only at hSw); go_simp; try with_reducible rfl)
        simp only [Act.put, List.setIfInBounds_toArray, List.set_cons_zero, List.set_cons_succ]
        refine wpAnyH_take (i := 2) (oi := ⟨some 21, _, _, _, _, _⟩) (v := ?vc2) rfl (by kernel_rfl) (by kernel_rfl) (by kernel_rfl) (fun _ _ _ h => h) (Or.inl ⟨by rfl, ?hyc2⟩) hHeld ?restc2
        case hyc2 => (intro w hSw; (try dsimp only at hSw); go_simp; try with_reducible rfl)
        simp only [Act.put, List.setIfInBounds_toArray, List.set_cons_zero, List.set_cons_succ]
        refine wpAnyH_take (i := 3) (oi := ⟨some 22, _, _, _, _, _⟩) (v := undef) rfl (by kernel_rfl) (by kernel_rfl) (by kernel_rfl) (fun _ _ _ h => h) (Or.inr ⟨by rfl, rfl⟩) hHeld ?_
        simp only [Act.put, List.setIfInBounds_toArray, List.set_cons_zero, List.set_cons_succ]
        refine wpAnyH_take (i := 4) (oi := ⟨some 23, _, _, _, _, _⟩) (v := undef) rfl (by kernel_rfl) (by kernel_rfl) (by kernel_rfl) (fun _ _ _ h => h) (Or.inr ⟨by rfl, rfl⟩) hHeld ?_
        simp only [Act.put, List.setIfInBounds_toArray, List.set_cons_zero, List.set_cons_succ]
        refine wpAnyH_take (i := 5) (oi := ⟨some 24, _, _, _, _, _⟩) (v := undef) rfl (by kernel_rfl) (by kernel_rfl) (by kernel_rfl) (fun _ _ _ h => h) (Or.inr ⟨by rfl, rfl⟩) hHeld ?_
        simp only [Act.put, List.setIfInBounds_toArray, List.set_cons_zero, List.set_cons_succ]
        refine wpAnyH_take (i := 6) (oi := ⟨some 25, _, _, _, _, _⟩) (v := undef) rfl (by kernel_rfl) (by kernel_rfl) (by kernel_rfl) (fun _ _ _ h => h) (Or.inr ⟨by rfl, rfl⟩) hHeld ?_
        simp only [Act.put, List.setIfInBounds_toArray, List.set_cons_zero, List.set_cons_succ]
        refine wpAnyH_take (i := 7) (oi := ⟨some 26, _, _, _, _, _⟩) (v := undef) rfl (by kernel_rfl) (by kernel_rfl) (by kernel_rfl) (fun _ _ _ h => h) (Or.inr ⟨by rfl, rfl⟩) hHeld ?_
        simp only [Act.put, List.setIfInBounds_toArray, List.set_cons_zero, List.set_cons_succ]
        refine wpAnyH_take (i := 8) (oi := ⟨some 27, _, _, _, _, _⟩) (v := undef) rfl (by kernel_rfl) (by kernel_rfl) (by kernel_rfl) (fun _ _ _ h => h) (Or.inr ⟨by rfl, rfl⟩) hHeld ?_
        simp only [Act.put, List.setIfInBounds_toArray, List.set_cons_zero, List.set_cons_succ]
        refine wpAnyH_take (i := 9) (oi := ⟨some 28, _, _, _, _, _⟩) (v := ?vc9) rfl (by kernel_rfl) (by kernel_rfl) (by kernel_rfl) (fun _ _ _ h => h) (Or.inl ⟨by rfl, ?hyc9⟩) hHeld ?restc9
        case hyc9 => (intro w hSw; (try dsimp only at hSw); go_simp; try with_reducible rfl)
        simp only [Act.put, List.setIfInBounds_toArray, List.set_cons_zero, List.set_cons_succ]
        refine wpAnyH_done (by kernel_rfl) ?_ _
        obtain ⟨⟨s1, s2, s3, s4⟩, sb⟩ := hHeld
        have HO2 : Hid (OwnS w1.heap.size wr.drew (.slice ao D.length co) D) := OwnS.below HO.out sb
        have sz := sb.size
        go_wp2_with (at_builtin; refine wpList_append_own _ rfl _ _ 38 rfl w1.heap.size 23 i0 (.agg #[.int .i64 0, .int .i64 0]) 2 16 Tryd.underlying38 hi hz0 hz1 hz2 rfl (by decide) _ _ _ rfl (World.ownsRow.alloc (OwnS.below HO.out (Below.refl _ _)) _) ⟨wr.heap.size, 0, none⟩ 1 1 [.int .i64 d[k].1, .int .i64 d[k].2] rfl rfl (cell_two_new _ _ _ _) (fun x hx => by simp at hx; rcases hx with rfl | rfl <;> rfl) (by unfold maxLen; omega) (by omega) (by simp; omega) ?_; intro v' w3 hown' hgrow3 hnil3)
        go_roundw
        case rel =>
          have h5 : OwnS w1.heap.size _ _ (D ++ [d[k]]) := OwnS.snoc hown'
          obtain ⟨a2, c2, e2⟩ := h5.form
          subst e2
          have NE : Hid (putTo (c, r) (d.take (k + 1)) = (D ++ [d[k]], true)) := by show _ = _; rw [NX.out]; simp [putStep]
          refine ⟨k + 1, a2, c2, by omega, by go_num, by rw [NE.out], by rw [NE.out], by rw [NE.out]; exact h5, ?_⟩
          exact ((hb.alloc (by omega) _).drew).grown hgrow3 (by simp; omega) (fun j e => HO2.out.block j e)
        case measure => simp [intOf]; omega
    · have e : Hid (d.take k = d) := List.take_of_length_le (by omega)
      rw [e.out] at hown hlp hlq ⊢
      have LP : Hid (putL d (c, r) = if (putTo (c, r) d).2 = true then (putTo (c, r) d).1 else (putTo (c, r) d).1 ++ [(c, r)]) := by
        show putL d (c, r) = _; unfold putL; rw [if_neg HD.out]
      generalize putTo (c, r) d = pk at *
      obtain ⟨D, dn⟩ := pk
      dsimp only at hown hlp hlq ⊢
      have HO : Hid (OwnS w1.heap.size wr (.slice ao D.length co) D) := hown
      clear hown
      cases dn
      · have hlr : D.length ≤ k := hlq rfl
        clear hlq
        go_wp2_with (at_builtin; refine wpList_append_own _ rfl _ _ 38 rfl w1.heap.size 23 i0 (.agg #[.int .i64 0, .int .i64 0]) 2 16 Tryd.underlying38 hi hz0 hz1 hz2 rfl (by decide) _ _ _ rfl (World.ownsRow.alloc HO.out _) ⟨wr.heap.size, 0, none⟩ 1 1 [.int .i64 c, .int .i64 r] rfl rfl (cell_two_new _ _ _ _) (fun x hx => by simp at hx; rcases hx with rfl | rfl <;> rfl) (by unfold maxLen; omega) (by omega) (by simp; omega) ?_; intro v' w3 hown' hgrow3 hnil3)
        go_ret
        have h5 : OwnS w1.heap.size _ _ (D ++ [(c, r)]) := OwnS.snoc hown'
        have eL : putL d (c, r) = D ++ [(c, r)] := by rw [LP.out]; rfl
        refine ⟨_, rfl, ?_, ?_⟩
        · rw [eL]; exact h5.isS (by simp; omega)
        · exact hbw1.trans (((hb.alloc (by omega) _).grown hgrow3 (by simp; omega) (fun j e => HO.out.block j e)).mono (by omega))
      · clear hlq
        go_wp2
        go_ret
        have eL : putL d (c, r) = D := by rw [LP.out]; rfl
        refine ⟨_, rfl, ?_, hbw⟩
        rw [eL]; exact HO.out.isS (by omega)

end Go.Proofs.YtmfnfekkemoliaaDoor
