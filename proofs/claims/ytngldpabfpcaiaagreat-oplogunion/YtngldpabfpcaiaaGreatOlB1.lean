/- What slices.BinarySearchFunc does with stamps in their order. -/
import Derived.Test.YtngldpabfpcaiaaGreatTk
import Derived.Test.YtngldpabfpcaiaaGreatOlL
import Derived.Deep.RegionHeld
import Derived.Deep.RegionHeld3
namespace Go.Proofs.YtngldpabfpcaiaaGreat
open Go.RowKit
set_option linter.unusedVariables false
set_option linter.unusedSimpArgs false

theorem cell_lt {w : World} {p : Addr} {v : Value} (h : w.cell? p = some v) : p.block < w.heap.size := by
  rcases Nat.lt_or_ge p.block w.heap.size with h' | h'
  · exact h'
  · simp [World.cell?, h'] at h
/-- What a search answers. -/
def SearchP (d : List (Int × Int)) (c r : Int) (e : Ending) : Prop := ∃ (i : Nat) (b : Bool), e = .returned (.tuple #[.int .i64 (i : Int), .bool b]) ∧ i ≤ d.length ∧ (∀ j (h : j < d.length), j < i → lessS d[j].1 d[j].2 c r = true) ∧ (∀ j (h : j < d.length), i ≤ j → lessS d[j].1 d[j].2 c r = false)

set_option maxRecDepth 100000 in
set_option maxHeartbeats 4000000 in
theorem search_any (v : Value) (d : List (Int × Int)) (c r : Int) (w : World) (h : S.OwnS 0 w v d) (hl : d.length ≤ 4096) (hs : d.Pairwise fun x y => lessS x.1 x.2 y.1 y.2 = true) :
    Calls Tryz.prog 44 #[v, .agg #[.int .i64 c, .int .i64 r], .func (.func 45) #[] #[]] w fun e w' => SearchP d c r e ∧ Below w.heap.size w w' := by
  have H : Hid (S.OwnS 0 w v d) := h
  have HT : Hid (∀ x y z : Int × Int, lessS x.1 x.2 y.1 y.2 = true → lessS y.1 y.2 z.1 z.2 = true → lessS x.1 x.2 z.1 z.2 = true) := fun x y z h1 h2 => by simp only [lessS, decide_eq_true_eq] at *; omega
  have HS : Hid (∀ i j (hi : i < d.length) (hj : j < d.length), i < j → lessS d[i].1 d[i].2 d[j].1 d[j].2 = true) := fun i j hi hj hij => List.pairwise_iff_getElem.1 hs i j hi hj hij
  obtain ⟨a0, c0, e0⟩ := h.form
  subst e0
  clear h hs
  have K0 := KeptC.start w [.int .i64 c, .int .i64 r] 36
  have HK0 : Hid (KeptC w w.heap.size [.int .i64 c, .int .i64 r] (w.alloc (.cells #[.int .i64 c, .int .i64 r] 36))) := K0
  clear K0
  go_enter Tryz.func44, Tryz.ntmps44
  go_wp2
  go_loopw [9, 10] (fun iv jv wr => ∃ lo hi : Nat, iv = .int .i64 (lo : Int) ∧ jv = .int .i64 (hi : Int) ∧ lo ≤ hi ∧ hi ≤ d.length ∧ Hid (∀ j (h : j < d.length), j < lo → lessS d[j].1 d[j].2 c r = true) ∧ Hid (∀ j (h : j < d.length), hi ≤ j → lessS d[j].1 d[j].2 c r = false) ∧ Hid (KeptC w w.heap.size [.int .i64 c, .int .i64 r] wr)) (fun iv jv _ => (intOf jv).toNat - (intOf iv).toNat)
  case atStart => exact ⟨0, d.length, rfl, rfl, Nat.zero_le _, Nat.le_refl _, fun j _ h => absurd h (Nat.not_lt_zero _), fun j h1 h2 => absurd h1 (by omega), HK0⟩
  case round =>
    obtain ⟨lo, hi, rfl, rfl, hlh, hhl, H1, H2, HK⟩ := hrel
    by_cases hlt : lo < hi
    · have k1 : (lo : Int) < (hi : Int) := by omega
      obtain ⟨m, hm⟩ : ∃ m : Nat, m = (lo + hi) / 2 := ⟨_, rfl⟩
      have hmd : m < d.length := by omega
      have hm1 : lo ≤ m := by omega
      have hm2 : m < hi := by omega
      have HM : Hid (((lo : Int) + (hi : Int)) / 2 = (m : Int)) := by show _ = _; omega
      clear hm
      obtain ⟨g, cap, ev, x1, x2⟩ := OwnS_cells (H.out.below HK.out.2.2) hmd
      cases ev
      have hgl : g < wr.heap.size := cell_lt x1
      obtain ⟨p, hp⟩ : ∃ p, p = d[m].1 := ⟨_, rfl⟩
      obtain ⟨q, hq⟩ : ∃ q, q = d[m].2 := ⟨_, rfl⟩
      rw [← hp] at x1
      rw [← hq] at x2
      have HL : Hid (lessS d[m].1 d[m].2 c r = lessS p q c r) := by rw [hp, hq]; exact rfl
      obtain ⟨cv, hcv⟩ : ∃ cv, cv = cmpS p q c r := ⟨_, rfl⟩
      have HC : Hid (decide (cv < 0) = lessS p q c r) := by rw [hcv]; exact lessS_cmp p q c r
      clear hp hq
      have km : (m : Int) < (d.length : Int) := by omega
      have km0 : (0 : Int) ≤ (m : Int) := by omega
      go_wp2
      rw [HM.out]
      clear HM
      refine wp_region_held_drew (S := fun W' => KeptC w w.heap.size [.int .i64 c, .int .i64 r] W' ∧ Below wr.heap.size wr W') (by kernel_rfl) ⟨HK.out.drew, (Below.refl _ _).drew⟩ (fun hHeld => ?_)
      refine tkW 0 (some 24) (v := ?_) ?_ hHeld ?_
      rotate_left
      · (intro w hSw; (try dsimp only at hSw); obtain ⟨hk, hbw⟩ := hSw; have k_0 := hk.1 0 _ rfl; have k_1 := hk.1 1 _ rfl; have y1 := (hbw.cell (p := ⟨g, m * 2, none⟩) hgl).trans x1; have y2 := (hbw.cell (p := ⟨g, m * 2 + 1, none⟩) hgl).trans x2; go_simp; try with_reducible rfl)
      refine tkW 1 (some 25) (v := ?_) ?_ hHeld ?_
      rotate_left
      · (intro w hSw; (try dsimp only at hSw); obtain ⟨hk, hbw⟩ := hSw; have k_0 := hk.1 0 _ rfl; have k_1 := hk.1 1 _ rfl; have y1 := (hbw.cell (p := ⟨g, m * 2, none⟩) hgl).trans x1; have y2 := (hbw.cell (p := ⟨g, m * 2 + 1, none⟩) hgl).trans x2; go_simp; try with_reducible rfl)
      refine tkW 2 (some 26) (v := ?_) ?_ hHeld ?_
      rotate_left
      · (intro w hSw; (try dsimp only at hSw); obtain ⟨hk, hbw⟩ := hSw; have k_0 := hk.1 0 _ rfl; have k_1 := hk.1 1 _ rfl; have y1 := (hbw.cell (p := ⟨g, m * 2, none⟩) hgl).trans x1; have y2 := (hbw.cell (p := ⟨g, m * 2 + 1, none⟩) hgl).trans x2; go_simp; try with_reducible rfl)
      refine tkW 3 (some 27) (v := ?_) ?_ hHeld ?_
      rotate_left
      · (intro w hSw; (try dsimp only at hSw); obtain ⟨hk, hbw⟩ := hSw; have k_0 := hk.1 0 _ rfl; have k_1 := hk.1 1 _ rfl; have y1 := (hbw.cell (p := ⟨g, m * 2, none⟩) hgl).trans x1; have y2 := (hbw.cell (p := ⟨g, m * 2 + 1, none⟩) hgl).trans x2; go_simp; try with_reducible rfl)
      refine tkW 4 (some 28) (v := ?_) ?_ hHeld ?_
      rotate_left
      · (intro w hSw; (try dsimp only at hSw); obtain ⟨hk, hbw⟩ := hSw; have k_0 := hk.1 0 _ rfl; have k_1 := hk.1 1 _ rfl; have y1 := (hbw.cell (p := ⟨g, m * 2, none⟩) hgl).trans x1; have y2 := (hbw.cell (p := ⟨g, m * 2 + 1, none⟩) hgl).trans x2; go_simp; try with_reducible rfl)
      refine tkW 5 (some 29) (v := ?_) ?_ hHeld ?_
      rotate_left
      · (intro w hSw; (try dsimp only at hSw); obtain ⟨hk, hbw⟩ := hSw; have k_0 := hk.1 0 _ rfl; have k_1 := hk.1 1 _ rfl; have y1 := (hbw.cell (p := ⟨g, m * 2, none⟩) hgl).trans x1; have y2 := (hbw.cell (p := ⟨g, m * 2 + 1, none⟩) hgl).trans x2; go_simp; try with_reducible rfl)
      refine wpAnyH_ready (rs := [6]) (by kernel_rfl) (by simp) ?_
      refine AllReadyH.cons (o := ⟨some 30, _, _, _, _, _⟩) rfl (fun K hK => ?_) AllReadyH.nil
      go_simp
      refine (compare_any _ _ _ _ _).mono ?_
      rintro e W1 ⟨ecv, hb⟩
      rw [← hcv] at ecv
      subst ecv
      (try go_wp2_with fail)
      refine hK.out _ _ (⟨hHeld.1.step hb, hHeld.2.trans (hb.mono hHeld.2.size)⟩) (fun hHeld2 => ?_)
      clear hK K hHeld
      have hHeld := hHeld2
      clear hHeld2
      (try simp only [Act.put, List.setIfInBounds_toArray, List.set_cons_zero, List.set_cons_succ])
      have HK1 : Hid (KeptC w w.heap.size [.int .i64 c, .int .i64 r] W1) := hHeld.1
      refine tkW 7 (some 31) (v := ?_) ?_ hHeld ?_
      rotate_left
      · (intro w hSw; (try dsimp only at hSw); obtain ⟨hk, hbw⟩ := hSw; have k_0 := hk.1 0 _ rfl; have k_1 := hk.1 1 _ rfl; have y1 := (hbw.cell (p := ⟨g, m * 2, none⟩) hgl).trans x1; have y2 := (hbw.cell (p := ⟨g, m * 2 + 1, none⟩) hgl).trans x2; go_simp; try with_reducible rfl)
      refine wpAnyH_done (by kernel_rfl) ?_ _
      by_cases hc : cv < 0
      · have hcd : decide (cv < 0) = true := by simp [hc]
        have H1b : Hid (∀ j (h : j < d.length), j < m + 1 → lessS d[j].1 d[j].2 c r = true) := fun j hj hjm => by
          have hmt : lessS d[m].1 d[m].2 c r = true := by rw [HL.out, ← HC.out, hcd]
          rcases Nat.lt_or_ge j m with h' | h'
          · exact HT.out d[j] d[m] (c, r) (HS.out j m hj hmd h') hmt
          · obtain rfl : j = m := by omega
            exact hmt
        clear hcd
        go_wp2
        go_roundw
        case rel => exact ⟨m + 1, hi, by first | rfl | go_num, rfl, by omega, by omega, H1b, H2, HK1⟩
        case measure => simp [intOf]; omega
      · have hcd : decide (cv < 0) = false := by simp [hc]
        have H2b : Hid (∀ j (h : j < d.length), m ≤ j → lessS d[j].1 d[j].2 c r = false) := fun j hj hjm => by
          have hmt : lessS d[m].1 d[m].2 c r = false := by rw [HL.out, ← HC.out, hcd]
          rcases Nat.lt_or_ge m j with h' | h'
          · cases hx : lessS d[j].1 d[j].2 c r with
            | false => rfl
            | true => rw [HT.out d[m] d[j] (c, r) (HS.out m j hmd hj h') hx] at hmt; cases hmt
          · obtain rfl : j = m := by omega
            exact hmt
        clear hcd
        go_wp2
        go_roundw
        case rel => exact ⟨lo, m, rfl, by first | rfl | go_num, by omega, by omega, H1, H2b, HK1⟩
        case measure => simp [intOf]; omega
    · obtain rfl : hi = lo := by omega
      clear hlt hlh
      by_cases hn : hi < d.length
      · have hhid := hn
        obtain ⟨g, cap, ev, x1, x2⟩ := OwnS_cells (H.out.below HK.out.2.2) hhid
        cases ev
        have hgl : g < wr.heap.size := cell_lt x1
        obtain ⟨p, hp⟩ : ∃ p, p = d[hi].1 := ⟨_, rfl⟩
        obtain ⟨q, hq⟩ : ∃ q, q = d[hi].2 := ⟨_, rfl⟩
        rw [← hp] at x1
        rw [← hq] at x2
        have HL : Hid (lessS d[hi].1 d[hi].2 c r = lessS p q c r) := by rw [hp, hq]; exact rfl
        obtain ⟨cv, hcv⟩ : ∃ cv, cv = cmpS p q c r := ⟨_, rfl⟩
        have HC : Hid (decide (cv < 0) = lessS p q c r) := by rw [hcv]; exact lessS_cmp p q c r
        clear hp hq
        have km : (hi : Int) < (d.length : Int) := by omega
        have km0 : (0 : Int) ≤ (hi : Int) := by omega
        have kmd : decide ((hi : Int) < (d.length : Int)) = true := by simp [hn]
        go_wp2
        refine wp_region_held_drew (S := fun W' => KeptC w w.heap.size [.int .i64 c, .int .i64 r] W' ∧ Below wr.heap.size wr W') (by kernel_rfl) ⟨HK.out.drew, (Below.refl _ _).drew⟩ (fun hHeld => ?_)
        refine tkW 0 (some 35) (v := ?_) ?_ hHeld ?_
        rotate_left
        · (intro w hSw; (try dsimp only at hSw); obtain ⟨hk, hbw⟩ := hSw; have k_0 := hk.1 0 _ rfl; have k_1 := hk.1 1 _ rfl; have y1 := (hbw.cell (p := ⟨g, hi * 2, none⟩) hgl).trans x1; have y2 := (hbw.cell (p := ⟨g, hi * 2 + 1, none⟩) hgl).trans x2; go_simp; try with_reducible rfl)
        refine tkW 1 (some 36) (v := ?_) ?_ hHeld ?_
        rotate_left
        · (intro w hSw; (try dsimp only at hSw); obtain ⟨hk, hbw⟩ := hSw; have k_0 := hk.1 0 _ rfl; have k_1 := hk.1 1 _ rfl; have y1 := (hbw.cell (p := ⟨g, hi * 2, none⟩) hgl).trans x1; have y2 := (hbw.cell (p := ⟨g, hi * 2 + 1, none⟩) hgl).trans x2; go_simp; try with_reducible rfl)
        refine tkW 2 (some 37) (v := ?_) ?_ hHeld ?_
        rotate_left
        · (intro w hSw; (try dsimp only at hSw); obtain ⟨hk, hbw⟩ := hSw; have k_0 := hk.1 0 _ rfl; have k_1 := hk.1 1 _ rfl; have y1 := (hbw.cell (p := ⟨g, hi * 2, none⟩) hgl).trans x1; have y2 := (hbw.cell (p := ⟨g, hi * 2 + 1, none⟩) hgl).trans x2; go_simp; try with_reducible rfl)
        refine tkW 3 (some 38) (v := ?_) ?_ hHeld ?_
        rotate_left
        · (intro w hSw; (try dsimp only at hSw); obtain ⟨hk, hbw⟩ := hSw; have k_0 := hk.1 0 _ rfl; have k_1 := hk.1 1 _ rfl; have y1 := (hbw.cell (p := ⟨g, hi * 2, none⟩) hgl).trans x1; have y2 := (hbw.cell (p := ⟨g, hi * 2 + 1, none⟩) hgl).trans x2; go_simp; try with_reducible rfl)
        refine tkW 4 (some 39) (v := ?_) ?_ hHeld ?_
        rotate_left
        · (intro w hSw; (try dsimp only at hSw); obtain ⟨hk, hbw⟩ := hSw; have k_0 := hk.1 0 _ rfl; have k_1 := hk.1 1 _ rfl; have y1 := (hbw.cell (p := ⟨g, hi * 2, none⟩) hgl).trans x1; have y2 := (hbw.cell (p := ⟨g, hi * 2 + 1, none⟩) hgl).trans x2; go_simp; try with_reducible rfl)
        refine tkW 5 (some 40) (v := ?_) ?_ hHeld ?_
        rotate_left
        · (intro w hSw; (try dsimp only at hSw); obtain ⟨hk, hbw⟩ := hSw; have k_0 := hk.1 0 _ rfl; have k_1 := hk.1 1 _ rfl; have y1 := (hbw.cell (p := ⟨g, hi * 2, none⟩) hgl).trans x1; have y2 := (hbw.cell (p := ⟨g, hi * 2 + 1, none⟩) hgl).trans x2; go_simp; try with_reducible rfl)
        refine tkW 6 (some 41) (v := ?_) ?_ hHeld ?_
        rotate_left
        · (intro w hSw; (try dsimp only at hSw); obtain ⟨hk, hbw⟩ := hSw; have k_0 := hk.1 0 _ rfl; have k_1 := hk.1 1 _ rfl; have y1 := (hbw.cell (p := ⟨g, hi * 2, none⟩) hgl).trans x1; have y2 := (hbw.cell (p := ⟨g, hi * 2 + 1, none⟩) hgl).trans x2; go_simp; try with_reducible rfl)
        refine tkW 7 (some 42) (v := ?_) ?_ hHeld ?_
        rotate_left
        · (intro w hSw; (try dsimp only at hSw); obtain ⟨hk, hbw⟩ := hSw; have k_0 := hk.1 0 _ rfl; have k_1 := hk.1 1 _ rfl; have y1 := (hbw.cell (p := ⟨g, hi * 2, none⟩) hgl).trans x1; have y2 := (hbw.cell (p := ⟨g, hi * 2 + 1, none⟩) hgl).trans x2; go_simp; try with_reducible rfl)
        refine tkW 8 (some 43) (v := ?_) ?_ hHeld ?_
        rotate_left
        · (intro w hSw; (try dsimp only at hSw); obtain ⟨hk, hbw⟩ := hSw; have k_0 := hk.1 0 _ rfl; have k_1 := hk.1 1 _ rfl; have y1 := (hbw.cell (p := ⟨g, hi * 2, none⟩) hgl).trans x1; have y2 := (hbw.cell (p := ⟨g, hi * 2 + 1, none⟩) hgl).trans x2; go_simp; try with_reducible rfl)
        refine tkW 9 (some 44) (v := ?_) ?_ hHeld ?_
        rotate_left
        · (intro w hSw; (try dsimp only at hSw); obtain ⟨hk, hbw⟩ := hSw; have k_0 := hk.1 0 _ rfl; have k_1 := hk.1 1 _ rfl; have y1 := (hbw.cell (p := ⟨g, hi * 2, none⟩) hgl).trans x1; have y2 := (hbw.cell (p := ⟨g, hi * 2 + 1, none⟩) hgl).trans x2; go_simp; try with_reducible rfl)
        refine tkW 10 (some 45) (v := ?_) ?_ hHeld ?_
        rotate_left
        · (intro w hSw; (try dsimp only at hSw); obtain ⟨hk, hbw⟩ := hSw; have k_0 := hk.1 0 _ rfl; have k_1 := hk.1 1 _ rfl; have y1 := (hbw.cell (p := ⟨g, hi * 2, none⟩) hgl).trans x1; have y2 := (hbw.cell (p := ⟨g, hi * 2 + 1, none⟩) hgl).trans x2; go_simp; try with_reducible rfl)
        refine wpAnyH_ready (rs := [11]) (by kernel_rfl) (by simp) ?_
        refine AllReadyH.cons (o := ⟨some 46, _, _, _, _, _⟩) rfl (fun K hK => ?_) AllReadyH.nil
        go_simp
        refine (compare_any _ _ _ _ _).mono ?_
        rintro e W1 ⟨ecv, hb⟩
        rw [← hcv] at ecv
        subst ecv
        (try go_wp2_with fail)
        refine hK.out _ _ (⟨hHeld.1.step hb, hHeld.2.trans (hb.mono hHeld.2.size)⟩) (fun hHeld2 => ?_)
        clear hK K hHeld
        have hHeld := hHeld2
        clear hHeld2
        (try simp only [Act.put, List.setIfInBounds_toArray, List.set_cons_zero, List.set_cons_succ])
        have HK1 : Hid (KeptC w w.heap.size [.int .i64 c, .int .i64 r] W1) := hHeld.1
        refine tkW 12 (some 47) (v := ?_) ?_ hHeld ?_
        rotate_left
        · (intro w hSw; (try dsimp only at hSw); obtain ⟨hk, hbw⟩ := hSw; have k_0 := hk.1 0 _ rfl; have k_1 := hk.1 1 _ rfl; have y1 := (hbw.cell (p := ⟨g, hi * 2, none⟩) hgl).trans x1; have y2 := (hbw.cell (p := ⟨g, hi * 2 + 1, none⟩) hgl).trans x2; go_simp; try with_reducible rfl)
        refine tkW 13 (some 48) (v := ?_) ?_ hHeld ?_
        rotate_left
        · (intro w hSw; (try dsimp only at hSw); obtain ⟨hk, hbw⟩ := hSw; have k_0 := hk.1 0 _ rfl; have k_1 := hk.1 1 _ rfl; have y1 := (hbw.cell (p := ⟨g, hi * 2, none⟩) hgl).trans x1; have y2 := (hbw.cell (p := ⟨g, hi * 2 + 1, none⟩) hgl).trans x2; go_simp; try with_reducible rfl)
        refine tkW 14 (some 6) (v := ?_) ?_ hHeld ?_
        rotate_left
        · (intro w hSw; (try dsimp only at hSw); obtain ⟨hk, hbw⟩ := hSw; have k_0 := hk.1 0 _ rfl; have k_1 := hk.1 1 _ rfl; have y1 := (hbw.cell (p := ⟨g, hi * 2, none⟩) hgl).trans x1; have y2 := (hbw.cell (p := ⟨g, hi * 2 + 1, none⟩) hgl).trans x2; go_simp; try with_reducible rfl)
        refine tkW 15 (some 7) (v := ?_) ?_ hHeld ?_
        rotate_left
        · (intro w hSw; (try dsimp only at hSw); obtain ⟨hk, hbw⟩ := hSw; have k_0 := hk.1 0 _ rfl; have k_1 := hk.1 1 _ rfl; have y1 := (hbw.cell (p := ⟨g, hi * 2, none⟩) hgl).trans x1; have y2 := (hbw.cell (p := ⟨g, hi * 2 + 1, none⟩) hgl).trans x2; go_simp; try with_reducible rfl)
        refine wpAnyH_done (by kernel_rfl) ?_ _
        go_wp2
        go_ret2
        exact ⟨⟨hi, _, rfl, hhl, H1.out, H2.out⟩, HK1.out.2.2⟩
      · have km : ¬ (hi : Int) < (d.length : Int) := by omega
        have kmd : decide ((hi : Int) < (d.length : Int)) = false := by simp [hn]
        go_wp2
        go_quiet (fail)
        go_wp2
        go_ret2
        exact ⟨⟨hi, _, rfl, hhl, H1.out, H2.out⟩, below_drewN HK.out.2.2 _⟩

end Go.Proofs.YtngldpabfpcaiaaGreat
