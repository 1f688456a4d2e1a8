/- The document's Link and Place. -/
import Derived.Test.YtlcnfoljkcfplaaDsA
namespace Go.Proofs.Ytlcnfoljkcfplaa
open Go.RowKit
set_option linter.unusedVariables false
set_option linter.unusedSimpArgs false

set_option maxRecDepth 100000 in
set_option maxHeartbeats 2000000 in
theorem refLink_any (n : Nat) (v : Value) (f t : Int) (w : World) (hv : ∃ a m c, v = .slice a m c) :
    Calls Try.prog 30 #[.agg #[.int .i64 (n : Int), v], .int .i64 f, .int .i64 t] w fun e w' => e = .returned (.int .i64 (linkE n f t)) ∧ Below w.heap.size w w' := by
  obtain ⟨a, m, c, rfl⟩ := hv
  obtain ⟨W0, eW⟩ : ∃ X, X = w.alloc (.cells #[.int .i64 (n : Int), .slice a m c] 30) := ⟨_, rfl⟩
  have HB : Hid (Below w.heap.size w W0) := by rw [eW]; exact (Below.refl _ _).alloc (Nat.le_refl _) _
  have x_0 : W0.cell? ⟨w.heap.size, 0, none⟩ = some (.int .i64 (n : Int)) := by rw [cell_of_row _ _ _ _ _ _ (show W0.heap[w.heap.size]? = _ by rw [eW]; exact heap_alloc_new _ _)]; rfl
  by_cases h1 : f < 0
  · have hE : linkE n f t = 1 := by unfold linkE; rw [if_neg (by omega)]
    rw [hE]
    clear hE
    go_enter Try.func30, Try.ntmps30
    go_wp2
    rw [← eW]
    go_ret
    exact ⟨rfl, HB.out⟩
  · by_cases h2 : (n : Int) ≤ f
    · have hE : linkE n f t = 1 := by unfold linkE; rw [if_neg (by omega)]
      have g2 : decide ((n : Int) ≤ f) = true := by simp [h2]
      rw [hE]
      clear hE
      go_enter Try.func30, Try.ntmps30
      rw [eW] at x_0
      go_wp2
      rw [← eW]
      go_ret
      exact ⟨rfl, HB.out⟩
    · by_cases h3 : t < 0
      · have hE : linkE n f t = 1 := by unfold linkE; rw [if_neg (by omega)]
        have g2 : decide ((n : Int) ≤ f) = false := by simp; omega
        rw [hE]
        clear hE
        go_enter Try.func30, Try.ntmps30
        rw [eW] at x_0
        go_wp2
        rw [← eW]
        go_ret
        exact ⟨rfl, HB.out⟩
      · by_cases h4 : (n : Int) ≤ t
        · have hE : linkE n f t = 1 := by unfold linkE; rw [if_neg (by omega)]
          have g2 : decide ((n : Int) ≤ f) = false := by simp; omega
          have g4 : decide ((n : Int) ≤ t) = true := by simp [h4]
          rw [hE]
          clear hE
          go_enter Try.func30, Try.ntmps30
          rw [eW] at x_0
          go_wp2
          rw [← eW]
          go_ret
          exact ⟨rfl, HB.out⟩
        · have g2 : decide ((n : Int) ≤ f) = false := by simp; omega
          have g4 : decide ((n : Int) ≤ t) = false := by simp; omega
          by_cases h5 : f = t
          · have hE : linkE n f t = 7 := by unfold linkE; rw [if_pos (by omega), if_pos h5]
            have g5 : (f == t) = true := by simp [h5]
            rw [hE]
            clear hE h5
            go_enter Try.func30, Try.ntmps30
            rw [eW] at x_0
            go_wp2
            rw [← eW]
            go_ret
            exact ⟨rfl, HB.out⟩
          · have hE : linkE n f t = 0 := by unfold linkE; rw [if_pos (by omega), if_neg h5]
            have g5 : (f == t) = false := by simp [h5]
            rw [hE]
            clear hE h5
            go_enter Try.func30, Try.ntmps30
            rw [eW] at x_0
            go_wp2
            rw [← eW]
            go_ret
            exact ⟨rfl, HB.out⟩

set_option maxRecDepth 100000 in
set_option maxHeartbeats 2000000 in
theorem refPlace_any (N : Int) (v : Value) (L : List Sn) (f t i : Int) (w : World) (h : IsS w v L) :
    Calls Try.prog 32 #[.agg #[.int .i64 N, v], .int .i64 f, .int .i64 t, .int .i64 i] w fun e w' => e = .returned (.int .i64 (placeL L f t i)) ∧ Below w.heap.size w w' := by
  obtain ⟨a1, c1, e1⟩ := h.form
  subst e1
  obtain ⟨W0, eW⟩ : ∃ X, X = w.alloc (.cells #[.int .i64 N, .slice a1 L.length c1] 30) := ⟨_, rfl⟩
  have hb : Below w.heap.size w W0 := by rw [eW]; exact (Below.refl _ _).alloc (Nat.le_refl _) _
  have HB : Hid (Below w.heap.size w W0) := hb
  have HS : Hid (IsS W0 (.slice a1 L.length c1) L) := h.below hb
  have x_1 : W0.cell? ⟨w.heap.size, 1, none⟩ = some (.slice a1 L.length c1) := by rw [cell_of_row _ _ _ _ _ _ (show W0.heap[w.heap.size]? = _ by rw [eW]; exact heap_alloc_new _ _)]; rfl
  obtain ⟨R, eR⟩ : ∃ R, R = placeL L f t i := ⟨_, rfl⟩
  have HR : Hid (placeL L f t i = R) := eR.symm
  rw [← eR]
  clear h hb eR
  go_enter Try.func32, Try.ntmps32
  go_wp2
  rw [← eW]
  clear eW
  go_loopw [9, 10] (fun nv iv wr => ∃ (k n : Nat), k ≤ L.length ∧ n ≤ k ∧ nv = .int .i64 (n : Int) ∧ iv = .int .i64 (k : Int) ∧ Hid (placeF f t i (L.drop k) (n : Int) k = R) ∧ wr = W0) (fun _ iv _ => L.length - (intOf iv).toNat)
  case atStart => exact ⟨0, 0, Nat.zero_le _, Nat.le_refl _, rfl, rfl, HR, rfl⟩
  case round =>
    obtain ⟨k, n, hk, hnk, rfl, rfl, HP, hwr⟩ := hrel
    subst hwr
    obtain ⟨_, _, e, _, hll, hrow⟩ := HS.out
    cases e
    by_cases hlt : k < L.length
    · obtain ⟨b, o, rfl, hr⟩ := hrow.resolve_left (by intro e; subst e; simp at hlt)
      obtain ⟨a3, c3, _, q0, q1, _, _⟩ := (hr k hlt).all
      have hp := HP.out
      rw [List.drop_eq_getElem_cons hlt, placeF] at hp
      have k1 : (k : Int) < (L.length : Int) := by omega
      have k0 : (0 : Int) ≤ (k : Int) := by omega
      have HQ : Hid ((if onL f t L[k] = true then (if (n : Int) = i then (k : Int) else placeF f t i (L.drop (k + 1)) ((n : Int) + 1) (k + 1)) else placeF f t i (L.drop (k + 1)) (n : Int) (k + 1)) = R) := hp
      clear hp hrow hr HP HR
      by_cases h1 : L[k].fr = f
      · by_cases h2 : L[k].to = t
        · have g1 : (L[k].fr == f) = true := by simp [h1]
          have g2 : (L[k].to == t) = true := by simp [h2]
          have HM : Hid ((if (n : Int) = i then (k : Int) else placeF f t i (L.drop (k + 1)) ((n : Int) + 1) (k + 1)) = R) := by have := HQ.out; rw [if_pos (onL_yes h1 h2)] at this; exact this
          generalize L[k].fr = x1 at *
          generalize L[k].to = x2 at *
          clear HQ g1 g2
          subst h1 h2
          have g1 : (x1 != x1) = false := by simp
          have g2 : (x2 != x2) = false := by simp
          by_cases h3 : (n : Int) = i
          · have g3 : ((n : Int) == i) = true := by simp [h3]
            have HE : Hid ((k : Int) = R) := by have := HM.out; rw [if_pos h3] at this; exact this
            clear h3 HM
            go_wp2
            go_ret
            exact ⟨by rw [← HE.out]; rfl, HB.out⟩
          · have g3 : ((n : Int) == i) = false := by simp [h3]
            have HE : Hid (placeF x1 x2 i (L.drop (k + 1)) (((n + 1 : Nat)) : Int) (k + 1) = R) := by have := HM.out; rw [if_neg h3] at this; exact this
            clear h3 HM
            go_wp2
            go_roundw
            case rel => exact ⟨k + 1, n + 1, by omega, by omega, by go_num, by go_num, HE, by simp⟩
            case measure => simp [intOf]; omega
        · have g1 : (L[k].fr == f) = true := by simp [h1]
          have g2 : (L[k].to == t) = false := by simp [h2]
          have HM : Hid (placeF f t i (L.drop (k + 1)) (n : Int) (k + 1) = R) := by have := HQ.out; rw [if_neg (by rw [onL_to h2]; simp)] at this; exact this
          generalize L[k].fr = x1 at *
          generalize L[k].to = x2 at *
          clear HQ g1 g2
          subst h1
          have g1 : (x1 != x1) = false := by simp
          have g2 : (x2 != t) = true := by simp [h2]
          have g3 : (x2 == t) = false := by simp [h2]
          go_wp2
          go_roundw
          case rel => exact ⟨k + 1, n, by omega, by omega, rfl, by go_num, HM, by simp⟩
          case measure => simp [intOf]; omega
      · have g1 : (L[k].fr == f) = false := by simp [h1]
        have HM : Hid (placeF f t i (L.drop (k + 1)) (n : Int) (k + 1) = R) := by have := HQ.out; rw [if_neg (by rw [onL_fr h1]; simp)] at this; exact this
        generalize L[k].fr = x1 at *
        generalize L[k].to = x2 at *
        clear HQ
        have g2 : (x1 != f) = true := by simp [h1]
        go_wp2
        go_roundw
        case rel => exact ⟨k + 1, n, by omega, by omega, rfl, by go_num, HM, by simp⟩
        case measure => simp [intOf]; omega
    · obtain rfl : k = L.length := by omega
      have HE : Hid (R = -1) := by have := HP.out; rw [List.drop_length] at this; exact this.symm
      clear HP HR
      go_wp2
      go_ret
      exact ⟨by rw [HE.out]; rfl, HB.out⟩

end Go.Proofs.Ytlcnfoljkcfplaa
