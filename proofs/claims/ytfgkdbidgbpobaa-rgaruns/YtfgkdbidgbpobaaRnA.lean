/- The law's row: so many slots of a replica stand one right behind the other, rising. -/
import Derived.Test.YtfgkdbidgbpobaaRdV
import Derived.Test.YtfgkdbidgbpobaaPlainRn
namespace Go.Proofs.Ytfgkdbidgbpobaa
open Go.RowKit
set_option linter.unusedVariables false
set_option linter.unusedSimpArgs false

set_option maxRecDepth 100000 in
set_option maxHeartbeats 8000000 in
theorem row_any (G : Nat → Prop) (v : Value) (l : List St) (rep : Int) (n : Nat) (w : World) (h : LsE stCells 2 G w v l) (hl : l.length ≤ 4096) (hr : RunOk l rep n) (hc : ∀ x ∈ l, 0 ≤ x.1 ∧ x.1 ≤ 1099511627776) :
    Calls Try.prog 14 #[v, .int .i64 rep, .int .i64 (n : Int)] w fun e w' => e = .returned (.bool true) ∧ Below w.heap.size w w' := by
  obtain ⟨r, t, c, e, hr1, ht1⟩ := hr
  have HAt : Hid (∀ i (hi : i < l.length), (l[i].2 ≠ rep ∧ runN r.length n (i + 1) = runN r.length n i) ∨ (r.length ≤ i ∧ i < r.length + n ∧ l[i] = chT rep c (i - r.length) ∧ runN r.length n i = i - r.length ∧ runN r.length n (i + 1) = i - r.length + 1)) := fun i hi => run_at e hr1 ht1 hi
  have HEn : Hid (runN r.length n l.length = n) := run_end e
  have HC : Hid (∀ i (hi : i < l.length), 0 ≤ l[i].1 ∧ l[i].1 ≤ 1099511627776) := fun i hi => hc _ (List.getElem_mem hi)
  clear e hr1 ht1 hc
  obtain ⟨m, em⟩ : ∃ m, m = r.length := ⟨_, rfl⟩
  rw [← em] at HAt HEn
  clear em
  obtain ⟨a1, c1, e1⟩ := h.form
  subst e1
  have HL : Hid (LsE stCells 2 G w (.slice a1 l.length c1) l) := h
  clear h
  go_enter Try.func14, Try.ntmps14
  go_wp2
  have h0 : runN m n 0 = 0 := by unfold runN; omega
  go_loopw [7, 8] (fun kv iv wr => ∃ i : Nat, iv = .int .i64 (i : Int) ∧ kv = .int .i64 ((runN m n i : Nat) : Int) ∧ i ≤ l.length ∧ Hid (Below w.heap.size w wr)) (fun _ iv _ => l.length - (intOf iv).toNat)
  case atStart => exact ⟨0, rfl, by rw [h0]; rfl, Nat.zero_le _, Below.refl _ _⟩
  case round =>
    clear h0
    obtain ⟨i, rfl, rfl, hi, HB⟩ := hrel
    by_cases hlt : i < l.length
    · obtain ⟨a2, c2, e2, _, _, hrow⟩ := HL.out
      obtain ⟨b, o, rfl, hGb, hbl, hrow⟩ := hrow.resolve_left (by intro e; subst e; simp at hlt)
      injection e2 with ea eb ec
      subst ea
      subst ec
      clear eb
      have HGl : Hid (b < w.heap.size) := hbl
      have HRow : Hid (∀ i (hi : i < l.length), w.cell? ⟨b, o + i * 2, none⟩ = some (.int .i64 l[i].1) ∧ w.cell? ⟨b, o + i * 2 + 1, none⟩ = some (.int .i64 l[i].2)) := fun i hi => ⟨hrow i hi 0 _ rfl, hrow i hi 1 _ rfl⟩
      clear hrow hbl hGb
      have k1 : (i : Int) < (l.length : Int) := by omega
      have k0 : (0 : Int) ≤ (i : Int) := by omega
      have n1 : IntKind.i64.wrap ((i : Int) + 1) = (i : Int) + 1 := by rw [IntKind.wrap_i64]; omega
      have r1 := (HB.out.cell (p := ⟨b, o + i * 2 + 1, none⟩) HGl.out).trans (HRow.out i hlt).2
      rcases HAt.out i hlt with ⟨hne, hnx⟩ | ⟨hge, hin, hel, hk, hnx⟩
      · have q : (l[i].2 == rep) = false := by simpa using hne
        have HNx : Hid (runN m n (i + 1) = runN m n i) := hnx
        obtain ⟨y, ey⟩ : ∃ y, y = l[i].2 := ⟨_, rfl⟩
        rw [← ey] at r1 q hne
        obtain ⟨K, eK⟩ : ∃ K, K = runN m n i := ⟨_, rfl⟩
        rw [← eK] at HNx ⊢
        clear ey hnx eK
        go_wp2
        go_roundw
        case rel => exact ⟨i + 1, by go_num, by rw [HNx.out], by omega, HB⟩
        case measure => simp [intOf]; omega
      · have e2 : l[i].2 = rep := by rw [hel]; rfl
        rw [e2] at r1
        have HNx : Hid (runN m n (i + 1) = runN m n i + 1) := by (show _ = _; rw [hk, hnx])
        by_cases hz : i = m
        · have h0 : runN m n i = 0 := by rw [hk, hz]; omega
          rw [h0] at HNx ⊢
          clear hk hnx hel e2 hz h0 hge hin
          have n0 : ((0 : Nat) : Int) = 0 := rfl
          rw [n0]
          clear n0
          go_wp2
          clear r1
          refine wp_region_held_drew (S := fun W' => Below w.heap.size w W') (by kernel_rfl) HB.out.drew (fun hHeld => ?_)
          obtain ⟨Uz11u0, eW⟩ : ∃ X, X = wr.drew := ⟨_, rfl⟩
          have hb : Below wr.heap.size wr Uz11u0 := by rw [eW]; exact (Below.refl _ _).drew
          replace HB : Hid (Below w.heap.size w Uz11u0) := HB.out.trans (hb.mono HB.out.size)
          rw [← eW] at hHeld ⊢
          clear eW hb
          refine tkW 0 (some 22) (v := ?_) ?_ hHeld ?_
          rotate_left
          · (intro ww _; go_simp; try with_reducible rfl)
          refine tkW 1 (some 23) (v := ?_) ?_ hHeld ?_
          rotate_left
          · (intro ww hSw; (try dsimp only at hSw); go_simp; try with_reducible rfl)
          refine tkW 2 (some 24) (v := ?_) ?_ hHeld ?_
          rotate_left
          · (intro ww _; go_simp; try with_reducible rfl)
          refine tkU 3 (some 25) hHeld ?_
          refine tkU 4 (some 26) hHeld ?_
          refine tkU 5 (some 27) hHeld ?_
          refine tkU 6 (some 28) hHeld ?_
          refine tkU 7 (some 29) hHeld ?_
          refine tkU 8 (some 30) hHeld ?_
          refine tkU 9 (some 31) hHeld ?_
          refine tkU 10 (some 32) hHeld ?_
          refine tkU 11 (some 33) hHeld ?_
          refine tkU 12 (some 34) hHeld ?_
          refine tkU 13 (some 35) hHeld ?_
          refine tkU 14 (some 36) hHeld ?_
          refine tkU 15 (some 37) hHeld ?_
          refine tkU 16 (some 38) hHeld ?_
          refine tkU 17 (some 39) hHeld ?_
          refine tkU 18 (some 40) hHeld ?_
          refine tkU 19 (some 41) hHeld ?_
          refine tkU 20 (some 42) hHeld ?_
          refine tkU 21 (some 43) hHeld ?_
          refine tkU 22 (some 44) hHeld ?_
          refine tkU 23 (some 45) hHeld ?_
          refine tkU 24 (some 46) hHeld ?_
          refine tkU 25 (some 47) hHeld ?_
          refine tkU 26 (some 48) hHeld ?_
          refine tkU 27 (some 49) hHeld ?_
          refine tkU 28 (some 50) hHeld ?_
          refine tkU 29 (some 51) hHeld ?_
          refine tkW 30 (some 52) (v := ?_) ?_ hHeld ?_
          rotate_left
          · (intro ww _; go_simp; try with_reducible rfl)
          refine wpAnyH_done (by kernel_rfl) ?_ _
          clear hHeld
          have n9 : True := trivial
          go_wp2
          go_roundw
          case rel => exact ⟨i + 1, by go_num, by (rw [HNx.out]; go_num), by omega, HB⟩
          case measure => simp [intOf]; omega
        · obtain ⟨N, rfl⟩ : ∃ N, i = N + 1 := ⟨i - 1, by omega⟩
          obtain ⟨K, eK⟩ : ∃ K, runN m n (N + 1) = K + 1 := ⟨N - m, by omega⟩
          have hlt2 : N < l.length := by omega
          rcases HAt.out N hlt2 with ⟨hne, hnx2⟩ | ⟨hge2, hin2, hel2, hk2, _⟩
          · exfalso
            unfold runN at hnx2
            omega
          have HC1 := HC.out N hlt2
          have HP0 : Hid (w.cell? ⟨b, o + N * 2, none⟩ = some (.int .i64 (c + (N - m : Nat)))) := by (show _ = _; rw [(HRow.out N hlt2).1, hel2]; rfl)
          have HP1 : Hid (w.cell? ⟨b, o + N * 2 + 1, none⟩ = some (.int .i64 rep)) := by (show _ = _; rw [(HRow.out N hlt2).2, hel2]; rfl)
          have HQ0 : Hid (w.cell? ⟨b, o + (N + 1) * 2, none⟩ = some (.int .i64 (c + (N + 1 - m : Nat)))) := by (show _ = _; rw [(HRow.out (N + 1) hlt).1, hel]; rfl)
          obtain ⟨x, ex⟩ : ∃ x, x = c + ((N - m : Nat) : Int) := ⟨_, rfl⟩
          have ex2 : c + ((N + 1 - m : Nat) : Int) = x + 1 := by omega
          rw [hel2] at HC1
          have hx1 : 0 ≤ x ∧ x ≤ 1099511627776 := by rw [ex]; exact HC1
          rw [ex2] at HQ0
          rw [← ex] at HP0
          have n2 : IntKind.i64.wrap (x + 1) = x + 1 := by rw [IntKind.wrap_i64]; omega
          rw [eK] at HNx ⊢
          have hKb : K < 4096 := by omega
          clear hk hnx hel e2 hz hge hin hge2 hin2 hel2 hk2 eK ex ex2 HC1 HRow
          have n6 : IntKind.i64.wrap (N : Int) = (N : Int) := by rw [IntKind.wrap_i64]; omega
          have n5 : IntKind.i64.wrap ((N : Int) + 1 - 1) = (N : Int) := by rw [IntKind.wrap_i64]; omega
          have n3 : (N : Int) < (l.length : Int) := by omega
          have n4 : (0 : Int) ≤ (N : Int) := by omega
          have n7 : (0 : Int) < (K : Int) + 1 := by omega
          have n8 : (N : Int) + 1 < (l.length : Int) := by omega
          have n10 : (0 : Int) ≤ (N : Int) + 1 := by omega
          have n11 : IntKind.i64.wrap ((N : Int) + 1) = (N : Int) + 1 := by rw [IntKind.wrap_i64]; omega
          have n12 : IntKind.i64.wrap ((N : Int) + 1 + 1) = (N : Int) + 1 + 1 := by rw [IntKind.wrap_i64]; omega
          go_wp2
          clear r1
          refine wp_region_held_drew (S := fun W' => Below w.heap.size w W') (by kernel_rfl) HB.out.drew (fun hHeld => ?_)
          obtain ⟨Up12u0, eW⟩ : ∃ X, X = wr.drew := ⟨_, rfl⟩
          have hb : Below wr.heap.size wr Up12u0 := by rw [eW]; exact (Below.refl _ _).drew
          replace HB : Hid (Below w.heap.size w Up12u0) := HB.out.trans (hb.mono HB.out.size)
          rw [← eW] at hHeld ⊢
          clear eW hb
          refine tkW 0 (some 22) (v := ?_) ?_ hHeld ?_
          rotate_left
          · (intro ww _; go_simp; try with_reducible rfl)
          refine tkW 1 (some 23) (v := .bool true) ?_ hHeld ?_
          · (intro ww hSw; (try dsimp only at hSw); have hbw := hSw; have p0 := (hbw.cell (p := ⟨b, o + N * 2, none⟩) HGl.out).trans HP0.out; have p1 := (hbw.cell (p := ⟨b, o + N * 2 + 1, none⟩) HGl.out).trans HP1.out; have q0 := (hbw.cell (p := ⟨b, o + (N + 1) * 2, none⟩) HGl.out).trans HQ0.out; go_simp; try omega)
          refine tkW 2 (some 24) (v := ?_) ?_ hHeld ?_
          rotate_left
          · (intro ww _; go_simp; try with_reducible rfl)
          refine tkW 3 (some 25) (v := ?_) ?_ hHeld ?_
          rotate_left
          · (intro ww _; go_simp; try with_reducible rfl)
          refine tkW 4 (some 26) (v := .bool false) ?_ hHeld ?_
          · (intro ww hSw; (try dsimp only at hSw); have hbw := hSw; have p0 := (hbw.cell (p := ⟨b, o + N * 2, none⟩) HGl.out).trans HP0.out; have p1 := (hbw.cell (p := ⟨b, o + N * 2 + 1, none⟩) HGl.out).trans HP1.out; have q0 := (hbw.cell (p := ⟨b, o + (N + 1) * 2, none⟩) HGl.out).trans HQ0.out; go_simp; try omega)
          refine tkW 5 (some 27) (v := ?_) ?_ hHeld ?_
          rotate_left
          · (intro ww _; go_simp; try with_reducible rfl)
          refine tkW 6 (some 28) (v := ?_) ?_ hHeld ?_
          rotate_left
          · (intro ww _; go_simp; try with_reducible rfl)
          refine tkW 7 (some 29) (v := ?_) ?_ hHeld ?_
          rotate_left
          · (intro ww _; go_simp; try with_reducible rfl)
          refine tkW 8 (some 30) (v := .int .i64 (N : Int)) ?_ hHeld ?_
          · (intro ww hSw; (try dsimp only at hSw); have hbw := hSw; have p0 := (hbw.cell (p := ⟨b, o + N * 2, none⟩) HGl.out).trans HP0.out; have p1 := (hbw.cell (p := ⟨b, o + N * 2 + 1, none⟩) HGl.out).trans HP1.out; have q0 := (hbw.cell (p := ⟨b, o + (N + 1) * 2, none⟩) HGl.out).trans HQ0.out; go_simp; try with_reducible rfl)
          refine tkW 9 (some 31) (v := ?_) ?_ hHeld ?_
          rotate_left
          · (intro ww hSw; (try dsimp only at hSw); have hbw := hSw; have p0 := (hbw.cell (p := ⟨b, o + N * 2, none⟩) HGl.out).trans HP0.out; have p1 := (hbw.cell (p := ⟨b, o + N * 2 + 1, none⟩) HGl.out).trans HP1.out; have q0 := (hbw.cell (p := ⟨b, o + (N + 1) * 2, none⟩) HGl.out).trans HQ0.out; go_simp; try with_reducible rfl)
          refine tkW 10 (some 32) (v := ?_) ?_ hHeld ?_
          rotate_left
          · (intro ww _; go_simp; try with_reducible rfl)
          refine tkW 11 (some 33) (v := ?_) ?_ hHeld ?_
          rotate_left
          · (intro ww hSw; (try dsimp only at hSw); have hbw := hSw; have p0 := (hbw.cell (p := ⟨b, o + N * 2, none⟩) HGl.out).trans HP0.out; have p1 := (hbw.cell (p := ⟨b, o + N * 2 + 1, none⟩) HGl.out).trans HP1.out; have q0 := (hbw.cell (p := ⟨b, o + (N + 1) * 2, none⟩) HGl.out).trans HQ0.out; go_simp; try with_reducible rfl)
          refine tkW 12 (some 34) (v := ?_) ?_ hHeld ?_
          rotate_left
          · (intro ww _; go_simp; try with_reducible rfl)
          refine tkW 13 (some 35) (v := .bool false) ?_ hHeld ?_
          · (intro ww hSw; (try dsimp only at hSw); have hbw := hSw; have p0 := (hbw.cell (p := ⟨b, o + N * 2, none⟩) HGl.out).trans HP0.out; have p1 := (hbw.cell (p := ⟨b, o + N * 2 + 1, none⟩) HGl.out).trans HP1.out; have q0 := (hbw.cell (p := ⟨b, o + (N + 1) * 2, none⟩) HGl.out).trans HQ0.out; go_simp; try simp)
          refine tkW 14 (some 36) (v := ?_) ?_ hHeld ?_
          rotate_left
          · (intro ww _; go_simp; try with_reducible rfl)
          refine tkW 15 (some 37) (v := ?_) ?_ hHeld ?_
          rotate_left
          · (intro ww _; go_simp; try with_reducible rfl)
          refine tkW 16 (some 38) (v := ?_) ?_ hHeld ?_
          rotate_left
          · (intro ww _; go_simp; try with_reducible rfl)
          refine tkW 17 (some 39) (v := ?_) ?_ hHeld ?_
          rotate_left
          · (intro ww _; go_simp; try with_reducible rfl)
          refine tkW 18 (some 40) (v := .int .i64 (N : Int)) ?_ hHeld ?_
          · (intro ww hSw; (try dsimp only at hSw); have hbw := hSw; have p0 := (hbw.cell (p := ⟨b, o + N * 2, none⟩) HGl.out).trans HP0.out; have p1 := (hbw.cell (p := ⟨b, o + N * 2 + 1, none⟩) HGl.out).trans HP1.out; have q0 := (hbw.cell (p := ⟨b, o + (N + 1) * 2, none⟩) HGl.out).trans HQ0.out; go_simp; try with_reducible rfl)
          refine tkW 19 (some 41) (v := ?_) ?_ hHeld ?_
          rotate_left
          · (intro ww hSw; (try dsimp only at hSw); have hbw := hSw; have p0 := (hbw.cell (p := ⟨b, o + N * 2, none⟩) HGl.out).trans HP0.out; have p1 := (hbw.cell (p := ⟨b, o + N * 2 + 1, none⟩) HGl.out).trans HP1.out; have q0 := (hbw.cell (p := ⟨b, o + (N + 1) * 2, none⟩) HGl.out).trans HQ0.out; go_simp; try with_reducible rfl)
          refine tkW 20 (some 42) (v := ?_) ?_ hHeld ?_
          rotate_left
          · (intro ww _; go_simp; try with_reducible rfl)
          refine tkW 21 (some 43) (v := ?_) ?_ hHeld ?_
          rotate_left
          · (intro ww hSw; (try dsimp only at hSw); have hbw := hSw; have p0 := (hbw.cell (p := ⟨b, o + N * 2, none⟩) HGl.out).trans HP0.out; have p1 := (hbw.cell (p := ⟨b, o + N * 2 + 1, none⟩) HGl.out).trans HP1.out; have q0 := (hbw.cell (p := ⟨b, o + (N + 1) * 2, none⟩) HGl.out).trans HQ0.out; go_simp; try with_reducible rfl)
          refine tkW 22 (some 44) (v := .int .i64 (x + 1)) ?_ hHeld ?_
          · (intro ww hSw; (try dsimp only at hSw); have hbw := hSw; have p0 := (hbw.cell (p := ⟨b, o + N * 2, none⟩) HGl.out).trans HP0.out; have p1 := (hbw.cell (p := ⟨b, o + N * 2 + 1, none⟩) HGl.out).trans HP1.out; have q0 := (hbw.cell (p := ⟨b, o + (N + 1) * 2, none⟩) HGl.out).trans HQ0.out; go_simp; try with_reducible rfl)
          refine tkW 23 (some 45) (v := ?_) ?_ hHeld ?_
          rotate_left
          · (intro ww _; go_simp; try with_reducible rfl)
          refine tkW 24 (some 46) (v := ?_) ?_ hHeld ?_
          rotate_left
          · (intro ww _; go_simp; try with_reducible rfl)
          refine tkW 25 (some 47) (v := ?_) ?_ hHeld ?_
          rotate_left
          · (intro ww hSw; (try dsimp only at hSw); have hbw := hSw; have p0 := (hbw.cell (p := ⟨b, o + N * 2, none⟩) HGl.out).trans HP0.out; have p1 := (hbw.cell (p := ⟨b, o + N * 2 + 1, none⟩) HGl.out).trans HP1.out; have q0 := (hbw.cell (p := ⟨b, o + (N + 1) * 2, none⟩) HGl.out).trans HQ0.out; go_simp; try with_reducible rfl)
          refine tkW 26 (some 48) (v := ?_) ?_ hHeld ?_
          rotate_left
          · (intro ww _; go_simp; try with_reducible rfl)
          refine tkW 27 (some 49) (v := ?_) ?_ hHeld ?_
          rotate_left
          · (intro ww hSw; (try dsimp only at hSw); have hbw := hSw; have p0 := (hbw.cell (p := ⟨b, o + N * 2, none⟩) HGl.out).trans HP0.out; have p1 := (hbw.cell (p := ⟨b, o + N * 2 + 1, none⟩) HGl.out).trans HP1.out; have q0 := (hbw.cell (p := ⟨b, o + (N + 1) * 2, none⟩) HGl.out).trans HQ0.out; go_simp; try with_reducible rfl)
          refine tkW 28 (some 50) (v := .bool false) ?_ hHeld ?_
          · (intro ww hSw; (try dsimp only at hSw); have hbw := hSw; have p0 := (hbw.cell (p := ⟨b, o + N * 2, none⟩) HGl.out).trans HP0.out; have p1 := (hbw.cell (p := ⟨b, o + N * 2 + 1, none⟩) HGl.out).trans HP1.out; have q0 := (hbw.cell (p := ⟨b, o + (N + 1) * 2, none⟩) HGl.out).trans HQ0.out; go_simp; try simp)
          refine tkW 29 (some 51) (v := ?_) ?_ hHeld ?_
          rotate_left
          · (intro ww _; go_simp; try with_reducible rfl)
          refine tkW 30 (some 52) (v := ?_) ?_ hHeld ?_
          rotate_left
          · (intro ww _; go_simp; try with_reducible rfl)
          refine wpAnyH_done (by kernel_rfl) ?_ _
          clear hHeld
          have n9 : IntKind.i64.wrap (((K : Int) + 1) + 1) = ((K : Int) + 1) + 1 := by rw [IntKind.wrap_i64]; omega
          go_wp2
          go_roundw
          case rel => exact ⟨(N + 1) + 1, by go_num, by (rw [HNx.out]; go_num), by omega, HB⟩
          case measure => simp [intOf]; omega
    · obtain rfl : i = l.length := by omega
      rw [HEn.out]
      go_wp2
      go_ret
      exact ⟨by simp, HB.out⟩

end Go.Proofs.Ytfgkdbidgbpobaa
