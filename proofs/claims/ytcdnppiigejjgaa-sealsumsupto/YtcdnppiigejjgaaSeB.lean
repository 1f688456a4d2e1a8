/- The sum of lists of bytes: lists of lists in memory, seal.Sum, the document's Sum. -/
import Derived.Test.YtcdnppiigejjgaaSeA
namespace Go.Proofs.Ytcdnppiigejjgaa
open Go.RowKit
set_option linter.unusedVariables false

/-- From block b, offset o on lie slices of these bytes. -/
def RowsAt (w : World) (b o : Nat) (L : List (List UInt8)) : Prop := ∀ i (h : i < L.length), ∃ u, w.cell? ⟨b, o + i, none⟩ = some u ∧ IsB w u L[i]
theorem RowsAt.lt {w : World} {b o : Nat} {L : List (List UInt8)} (h : RowsAt w b o L) (hd : L ≠ []) : b < w.heap.size := by
  obtain ⟨u, h0, _⟩ := h 0 (by cases L with | nil => exact absurd rfl hd | cons x y => simp)
  rcases Nat.lt_or_ge b w.heap.size with h' | h'
  · exact h'
  · simp [World.cell?, h'] at h0
theorem RowsAt.below {w w' : World} {b o : Nat} {L : List (List UInt8)} (h : RowsAt w b o L) (hb : Below w.heap.size w w') : RowsAt w' b o L := by
  intro i hi
  have hlt := h.lt (by intro e; subst e; simp at hi)
  obtain ⟨u, h1, h2⟩ := h i hi
  exact ⟨u, (hb.cell (p := ⟨b, o + i, none⟩) hlt).trans h1, h2.below hb⟩
/-- The value is a slice of slices of these bytes. -/
def IsBB (w : World) (v : Value) (L : List (List UInt8)) : Prop :=
  ∃ (a : Option Addr) (cap : Nat), v = .slice a L.length cap ∧ L.length ≤ cap ∧ L.length ≤ 140737488355328 ∧ (L = [] ∨ ∃ b o, a = some ⟨b, o, none⟩ ∧ RowsAt w b o L)
theorem IsBB.below {w w' : World} {v : Value} {L : List (List UInt8)} (h : IsBB w v L) (hb : Below w.heap.size w w') : IsBB w' v L := by
  obtain ⟨a, cap, e, hc, hl, h⟩ := h
  exact ⟨a, cap, e, hc, hl, h.imp id fun ⟨b, o, e2, hr⟩ => ⟨b, o, e2, hr.below hb⟩⟩
theorem sumF_at {L : List (List UInt8)} {k : Nat} (hk : k < L.length) (r : Nat) : foldR r (L.take (k + 1)).flatten = foldR (foldR r (L.take k).flatten) L[k] := by
  rw [List.take_succ_eq_append_getElem hk, List.flatten_append, foldR_append]; simp
theorem foldR_at {p : List UInt8} {j : Nat} (hj : j < p.length) (r : Nat) : foldR r (p.take (j + 1)) = tkR (foldR r (p.take j)) p[j].toNat := by
  rw [List.take_succ_eq_append_getElem hj, foldR_snoc]

set_option maxRecDepth 100000 in
set_option maxHeartbeats 1000000 in
/-- seal.Sum. -/
theorem sum_any (v : Value) (L : List (List UInt8)) (w : World) (h : IsBB w v L) :
    Calls Try.prog 9 #[v] w fun e w' => e = .returned (.int .u32 (sumL L.flatten : Int)) ∧ w' = w := by
  obtain ⟨a1, c1, rfl, hc1, hl1, r1⟩ := h
  have HR : Hid (L = [] ∨ ∃ b o, a1 = some ⟨b, o, none⟩ ∧ RowsAt w b o L) := r1
  clear r1
  go_enter Try.func9, Try.ntmps9
  go_wp2
  go_loop [3, 10] (fun u i => ∃ y k : Nat, u = .int .u32 (y : Int) ∧ i = .int .i64 (k : Int) ∧ k ≤ L.length ∧ y < 4294967296 ∧ Hid (y = foldR 4294967295 (L.take k).flatten)) (fun _ i => L.length - (intOf i).toNat)
  case atStart => exact ⟨4294967295, 0, rfl, rfl, Nat.zero_le _, by omega, rfl⟩
  case round =>
    obtain ⟨y, k, rfl, rfl, hk, hy, HY⟩ := hrel
    by_cases hlt : k < L.length
    · obtain ⟨b1, o1, rfl, g1⟩ := HR.out.resolve_left (by intro e; subst e; simp at hlt)
      obtain ⟨u, x1, hu⟩ := g1 k hlt
      clear g1
      obtain ⟨a2, c2, rfl, hc2, hl2, r2⟩ := hu
      have HR2 : Hid (L[k] = [] ∨ ∃ b o, a2 = some ⟨b, o, none⟩ ∧ BytesAt w b o L[k]) := r2
      have HYK : Hid (foldR 4294967295 (L.take (k + 1)).flatten = foldR y L[k]) := by show _ = _; rw [sumF_at hlt, ← HY.out]
      clear r2
      generalize L[k] = p at *
      have k1 : (k : Int) < (L.length : Int) := by omega
      have k0 : (0 : Int) ≤ (k : Int) := by omega
      go_wp2
      go_loop [3, 16] (fun u i => ∃ z j : Nat, u = .int .u32 (z : Int) ∧ i = .int .i64 (j : Int) ∧ j ≤ p.length ∧ z < 4294967296 ∧ Hid (z = foldR y (p.take j))) (fun _ i => p.length - (intOf i).toNat)
      case atStart => exact ⟨y, 0, rfl, rfl, Nat.zero_le _, hy, rfl⟩
      case round =>
        obtain ⟨z, j, rfl, rfl, hj, hz, HZ⟩ := hrel
        by_cases hlt2 : j < p.length
        · obtain ⟨b2, o2, rfl, g2⟩ := HR2.out.resolve_left (by intro e; subst e; simp at hlt2)
          have x2 := g2 j hlt2
          have hc := UInt8.toNat_lt p[j]
          have HZ2 : Hid (tkR z p[j].toNat = foldR y (p.take (j + 1))) := by show _ = _; rw [foldR_at hlt2, ← HZ.out]
          have hz2 := tkR_lt hz hc
          clear g2
          generalize p[j].toNat = c at *
          have j1 : (j : Int) < (p.length : Int) := by omega
          have j0 : (0 : Int) ≤ (j : Int) := by omega
          go_wp2_with (go_at_call 18; refine (take_any z c _ hz hc).mono ?_; rintro e w' ⟨rfl, hw⟩; replace hw := hw.symm; subst hw)
          go_round
          case rel => exact ⟨tkR z c, j + 1, rfl, by go_num, by omega, hz2, HZ2⟩
          case measure => simp [intOf]; omega
        · obtain rfl : j = p.length := by omega
          have HZ3 : Hid (z = foldR 4294967295 (L.take (k + 1)).flatten) := by show _ = _; rw [HYK.out, HZ.out, List.take_length]
          go_wp2
          go_round
          case rel => exact ⟨z, k + 1, rfl, by go_num, by omega, hz, HZ3⟩
          case measure => simp [intOf]; omega
    · obtain rfl : k = L.length := by omega
      have HE : Hid (sumL L.flatten = y ^^^ 4294967295) := by show _ = _; rw [HY.out, List.take_length]; rfl
      have hx : bits .xor .u32 (y : Int) 4294967295 = ((y ^^^ 4294967295 : Nat) : Int) := xor_u32 hy (show 4294967295 < 4294967296 by decide)
      generalize y ^^^ 4294967295 = t at *
      go_wp2
      go_ret
      exact ⟨by rw [HE.out]; rfl, rfl⟩

set_option maxRecDepth 100000 in
set_option maxHeartbeats 1000000 in
/-- The document's Sum. -/
theorem refSum_any (v : Value) (p : List UInt8) (w : World) (h : IsB w v p) :
    Calls Try.prog 10 #[v] w fun e w' => e = .returned (.int .u32 (sumL p : Int)) ∧ w' = w := by
  obtain ⟨a1, c1, rfl, hc1, hl1, r1⟩ := h
  have HR : Hid (p = [] ∨ ∃ b o, a1 = some ⟨b, o, none⟩ ∧ BytesAt w b o p) := r1
  clear r1
  go_enter Try.func10, Try.ntmps10
  go_wp2
  go_loop [3, 4] (fun u i => ∃ y k : Nat, u = .int .u32 (y : Int) ∧ i = .int .i64 (k : Int) ∧ k ≤ p.length ∧ y < 4294967296 ∧ Hid (y = foldR 4294967295 (p.take k))) (fun _ i => p.length - (intOf i).toNat)
  case atStart => exact ⟨4294967295, 0, rfl, rfl, Nat.zero_le _, by omega, rfl⟩
  case round =>
    obtain ⟨y, k, rfl, rfl, hk, hy, HY⟩ := hrel
    by_cases hlt : k < p.length
    · obtain ⟨b1, o1, rfl, g1⟩ := HR.out.resolve_left (by intro e; subst e; simp at hlt)
      have x1 := g1 k hlt
      have hc := UInt8.toNat_lt p[k]
      have HY2 : Hid (tkR y p[k].toNat = foldR 4294967295 (p.take (k + 1))) := by show _ = _; rw [foldR_at hlt, ← HY.out]
      have HT : Hid (tkR y p[k].toNat = stpN 8 (y ^^^ p[k].toNat)) := rfl
      clear g1
      generalize p[k].toNat = c at *
      have hx := xor_u32 hy (show c < 4294967296 by omega)
      have hxl : y ^^^ c < 4294967296 := Nat.xor_lt_two_pow (n := 32) hy (by omega)
      generalize y ^^^ c = x at *
      generalize tkR y c = t at *
      have k1 : (k : Int) < (p.length : Int) := by omega
      have k0 : (0 : Int) ≤ (k : Int) := by omega
      go_wp2
      go_loop [3, 5] (fun u i => ∃ z j : Nat, u = .int .u32 (z : Int) ∧ i = .int .i64 (j : Int) ∧ j ≤ 8 ∧ z < 4294967296 ∧ Hid (t = stpN (8 - j) z)) (fun _ i => 8 - (intOf i).toNat)
      case atStart => exact ⟨x, 0, by rfl, rfl, by omega, hxl, HT⟩
      case round =>
        obtain ⟨z, j, rfl, rfl, hj, hz, HZ⟩ := hrel
        by_cases h8 : j < 8
        · have HZ2 : Hid (t = stpN (8 - (j + 1)) (stp z)) := by
            have := HZ.out
            rw [show 8 - j = (8 - (j + 1)) + 1 by omega, stpN_back] at this
            exact this
          have hz2 : z / 2 < 4294967296 := by omega
          have hl := stp_lt hz
          rcases Nat.mod_two_eq_zero_or_one z with h0 | h0
          · have hs := stp_even h0
            rw [hs] at hl HZ2
            have hm : ¬ (z : Int) % 2 = 1 := by omega
            go_wp2
            go_round
            case rel => exact ⟨z / 2, j + 1, by go_num, by go_num, by omega, hl, HZ2⟩
            case measure => simp [intOf]; omega
          · have hs := stp_odd h0
            have hzx : bits .xor .u32 ((z : Int) / 2) 3988292384 = ((z / 2 ^^^ 3988292384 : Nat) : Int) := xor_u32 hz2 (show 3988292384 < 4294967296 by omega)
            rw [← hs] at hzx
            generalize stp z = q at *
            have hm : (z : Int) % 2 = 1 := by omega
            go_wp2
            go_round
            case rel => exact ⟨q, j + 1, by first | rfl | go_num, by go_num, by omega, hl, HZ2⟩
            case measure => simp [intOf]; omega
        · obtain rfl : j = 8 := by omega
          have HE : Hid (t = z) := HZ.out
          have HE2 : Hid (z = foldR 4294967295 (p.take (k + 1))) := by show _ = _; rw [← HE.out]; exact HY2.out
          go_wp2
          go_round
          case rel => exact ⟨z, k + 1, rfl, by go_num, by omega, hz, HE2⟩
          case measure => simp [intOf]; omega
    · obtain rfl : k = p.length := by omega
      have HE : Hid (sumL p = y ^^^ 4294967295) := by show _ = _; rw [HY.out, List.take_length]; rfl
      have hx : bits .xor .u32 (y : Int) 4294967295 = ((y ^^^ 4294967295 : Nat) : Int) := xor_u32 hy (show 4294967295 < 4294967296 by decide)
      generalize y ^^^ 4294967295 = t at *
      go_wp2
      go_ret
      exact ⟨by rw [HE.out]; rfl, rfl⟩

end Go.Proofs.Ytcdnppiigejjgaa
