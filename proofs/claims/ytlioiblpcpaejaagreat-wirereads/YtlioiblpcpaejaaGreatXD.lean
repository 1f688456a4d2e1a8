/- What the register does with a byte (take), kinds (isKind), a number laid in four bytes (appendWord, the document's Four). -/
import Derived.Test.YtlioiblpcpaejaaGreatXB
import Derived.Test.YtlioiblpcpaejaaGreatXA
import Derived.Lib.SlBytesConst
import Derived.Deep.RegionHeld
namespace Go.Proofs.YtlioiblpcpaejaaGreat
open Go.RowKit
set_option linter.unusedVariables false

theorem wraps_u32 (n : Int) (h₀ : 0 ≤ n) (h₁ : n < 2 ^ 32) : IntKind.u32.wrap n = n := by rw [IntKind.wrap_u32]; omega
theorem xor_nat (k : IntKind) (j : Nat) (hj : j ≤ k.bits) (hk : ∀ n : Int, 0 ≤ n → n < 2 ^ j → k.wrap n = n) (a b : Nat) (ha : a < 2 ^ j) (hb : b < 2 ^ j) : bits .xor k a b = ((a ^^^ b : Nat) : Int) := by
  have hp : 2 ^ j ≤ 2 ^ k.bits := Nat.pow_le_pow_right (by decide) hj
  have ha' : a % 2 ^ k.bits = a := Nat.mod_eq_of_lt (Nat.lt_of_lt_of_le ha hp)
  have hb' : b % 2 ^ k.bits = b := Nat.mod_eq_of_lt (Nat.lt_of_lt_of_le hb hp)
  have cast : ∀ n : Nat, n < 2 ^ j → ((n : Nat) : Int) < 2 ^ j := fun n h => by exact_mod_cast h
  simp only [bits, BitVec.ofInt_natCast, BitVec.toNat_xor, BitVec.toNat_ofNat, ha', hb']
  exact hk _ (Int.natCast_nonneg _) (cast _ (Nat.xor_lt_two_pow ha hb))
theorem xor_u32 {a b : Nat} (ha : a < 4294967296) (hb : b < 4294967296) : bits .xor .u32 (a : Int) (b : Int) = ((a ^^^ b : Nat) : Int) := xor_nat .u32 32 (by decide) wraps_u32 a b ha hb
theorem xor_u8 {a b : Nat} (ha : a < 256) (hb : b < 256) : bits .xor .u8 (a : Int) (b : Int) = ((a ^^^ b : Nat) : Int) := xor_nat .u8 8 (by decide) wraps_u8 a b ha hb
theorem and1_u32 {a : Nat} (ha : a < 4294967296) : bits .and .u32 (a : Int) 1 = ((a % 2 : Nat) : Int) := by
  have := bits_mask .u32 32 (by decide) wraps_u32 1 (by decide) (a : Int) (by omega) (by omega)
  simp at this
  rw [this]; omega
theorem stp_odd {r : Nat} (h : r % 2 = 1) : stp r = (r / 2) ^^^ 3988292384 := by unfold stp; rw [if_pos h]
theorem stp_even {r : Nat} (h : r % 2 = 0) : stp r = r / 2 := by unfold stp; rw [if_neg (by omega)]
theorem stpN_back (n r : Nat) : stpN (n + 1) r = stpN n (stp r) := rfl

set_option maxRecDepth 100000 in
set_option maxHeartbeats 1000000 in
/-- seal.take. -/
theorem take_any (r c : Nat) (w : World) (hr : r < 4294967296) (hc : c < 256) :
    Calls Tryz.prog 59 #[.int .u32 (r : Int), .int .u8 (c : Int)] w fun e w' => e = .returned (.int .u32 (tkR r c : Int)) ∧ w' = w := by
  have hx := xor_u32 hr (show c < 4294967296 by omega)
  have hxl : r ^^^ c < 4294967296 := Nat.xor_lt_two_pow (n := 32) hr (by omega)
  have HT : Hid (tkR r c = stpN 8 (r ^^^ c)) := rfl
  generalize tkR r c = t at *
  generalize r ^^^ c = x at *
  have HX : Hid (bits .xor .u32 (r : Int) (c : Int) = (x : Int)) := hx
  go_enter Tryz.func59, Tryz.ntmps59
  go_wp2
  go_loop [0, 10] (fun u i => ∃ y k : Nat, u = .int .u32 (y : Int) ∧ i = .int .i64 (k : Int) ∧ k ≤ 8 ∧ y < 4294967296 ∧ Hid (t = stpN (8 - k) y)) (fun _ i => 8 - (intOf i).toNat)
  case atStart => exact ⟨x, 0, by rfl, rfl, by omega, hxl, HT⟩
  case round =>
    obtain ⟨y, k, rfl, rfl, hk, hy, HY⟩ := hrel
    by_cases h8 : k < 8
    · have HY2 : Hid (t = stpN (8 - (k + 1)) (stp y)) := by
        have := HY.out
        rw [show 8 - k = (8 - (k + 1)) + 1 by omega, stpN_back] at this
        exact this
      have ha := and1_u32 hy
      have hy2 : y / 2 < 4294967296 := by omega
      have hl := stp_lt hy
      rcases Nat.mod_two_eq_zero_or_one y with h0 | h0
      · have hs := stp_even h0
        rw [hs] at hl HY2
        rw [h0] at ha
        go_wp2
        go_round
        case rel => exact ⟨y / 2, k + 1, by go_num, by go_num, by omega, hl, HY2⟩
        case measure => simp [intOf]; omega
      · have hs := stp_odd h0
        have hz : bits .xor .u32 ((y : Int) / 2) 3988292384 = ((y / 2 ^^^ 3988292384 : Nat) : Int) := xor_u32 hy2 (show 3988292384 < 4294967296 by omega)
        rw [← hs] at hz
        generalize stp y = z at *
        rw [h0] at ha
        go_wp2
        go_round
        case rel => exact ⟨z, k + 1, by first | rfl | go_num, by go_num, by omega, hl, HY2⟩
        case measure => simp [intOf]; omega
    · obtain rfl : k = 8 := by omega
      have HE : Hid (t = y) := HY.out
      go_wp2
      go_ret
      exact ⟨by rw [HE.out]; rfl, rfl⟩

set_option maxRecDepth 100000 in
/-- seal.isKind. -/
theorem sealKind_any (k : Int) (w : World) :
    Calls Tryz.prog 58 #[.int .i64 k] w fun e w' => e = .returned (.bool (decide (1 ≤ k) && decide (k ≤ 15))) ∧ w' = w := by
  by_cases h1 : 1 ≤ k
  all_goals (by_cases h2 : k ≤ 15)
  all_goals (
    go_enter Tryz.func58, Tryz.ntmps58
    go_wp2
    go_ret
    exact ⟨ret_b (by simp [h1, h2]), rfl⟩)

theorem fourA (n : Nat) : fourL n = [UInt8.ofNat (n % 256)] ++ ([UInt8.ofNat (n / 256 % 256)] ++ ([UInt8.ofNat (n / 65536 % 256)] ++ [UInt8.ofNat (n / 16777216 % 256)])) := rfl
/-- The first bytes of a number. -/
def wordL : Nat → Nat → List UInt8
  | 0, _ => []
  | k + 1, n => UInt8.ofNat (n % 256) :: wordL k (n / 256)
theorem wordL_four (n : Nat) : wordL 4 n = fourL n := by simp only [wordL, fourL, Nat.div_div_eq_div_mul]
theorem wordL_step (k n : Nat) : wordL (k + 1) n = [UInt8.ofNat (n % 256)] ++ wordL k (n / 256) := rfl

set_option maxRecDepth 100000 in
set_option maxHeartbeats 1000000 in
/-- seal.appendWord. -/
theorem appendWord_any (B : Nat) (v : Value) (D : List UInt8) (n : Nat) (w : World) (hn : n < 4294967296) (h : OwnB B w v D) (hB : B ≤ w.heap.size) (hl : D.length + 4 ≤ 140737488355328) :
    Calls Tryz.prog 70 #[v, .int .u32 (n : Int)] w fun e w' => ∃ v', e = .returned v' ∧ OwnB B w' v' (D ++ fourL n) ∧ Below B w w' := by
  obtain ⟨i0, hi, hz0, hz1, hz2⟩ := info_parts infoByte
  have H0 : Hid (OwnB B w v (D ++ [])) := by show OwnB _ _ _ _; rw [List.append_nil]; exact h
  have HW : Hid (fourL n = wordL 4 n) := (wordL_four n).symm
  generalize fourL n = T at *
  clear h
  go_enter Tryz.func70, Tryz.ntmps70
  go_wp2
  go_loopw [0, 1, 5] (fun u x i wr => ∃ (m k : Nat) (E : List UInt8), x = .int .u32 (m : Int) ∧ i = .int .i64 (k : Int) ∧ k ≤ 4 ∧ m < 4294967296 ∧ Hid (E.length = k) ∧ Hid (E ++ wordL (4 - k) m = T) ∧ Hid (OwnB B wr u (D ++ E)) ∧ Hid (Below B w wr)) (fun _ _ i _ => 4 - (intOf i).toNat)
  case atStart => exact ⟨n, 0, [], rfl, rfl, by omega, hn, rfl, HW.out.symm, H0, Below.refl _ _⟩
  case round =>
    obtain ⟨m, k, E, rfl, rfl, hk, hm, HEL, HE, HO, HB⟩ := hrel
    have hsz := HB.out.size
    by_cases h4 : k < 4
    · have hlen : D.length + E.length + 1 ≤ 140737488355328 := by have := HEL.out; omega
      have HE3 : Hid ((E ++ [UInt8.ofNat (m % 256)]) ++ wordL (4 - (k + 1)) (m / 256) = T) := by
        have := HE.out
        rw [show 4 - k = (4 - (k + 1)) + 1 by omega, wordL_step, ← List.append_assoc] at this
        exact this
      go_wp2_with (at_builtin; refine wpList_append_own _ rfl _ _ 22 rfl B 5 i0 (.int .u8 0) 1 1 Tryz.underlying22 hi hz0 hz1 hz2 rfl (by decide) _ _ _ rfl (World.ownsRow.alloc HO.out _) ⟨wr.heap.size, 0, none⟩ 1 1 [_] rfl rfl (cell_one_new _ _ _) (fun x hx => by simp at hx; subst hx; rfl) (by unfold maxLen; simp; omega) (by simp; omega) (by simp; omega) ?_; intro v' w3 hown' hgrow3 hnil3)
      have HO3 : Hid (OwnB B w3 v' (D ++ (E ++ [UInt8.ofNat (m % 256)]))) := by
        show OwnB _ _ _ _
        rw [← List.append_assoc]
        refine OwnB.more hown' (by simp) ?_
        simp only [cellsB, List.map_cons, List.map_nil]
        rw [toNat_of (show m % 256 < 256 by omega)]
        rfl
      have HEL3 : Hid ((E ++ [UInt8.ofNat (m % 256)]).length = k + 1) := by show _ = _; rw [List.length_append, HEL.out]; rfl
      go_roundw
      case rel => exact ⟨m / 256, k + 1, _, by go_num, by go_num, by omega, by omega, HEL3, HE3, HO3, (HB.out.alloc (by omega) _).grown hgrow3 (by simp; omega) (fun j e => (World.ownsRow.lt HO.out j e).1)⟩
      case measure => simp [intOf]; omega
    · obtain rfl : k = 4 := by omega
      have HT : Hid (E = T) := by have := HE.out; show _ = _; simpa [wordL] using this
      go_wp2
      go_ret
      refine ⟨_, rfl, ?_, HB.out⟩
      rw [← HT.out]
      exact HO.out

end Go.Proofs.YtlioiblpcpaejaaGreat

namespace Go.Proofs.YtlioiblpcpaejaaGreat
open Go.RowKit
set_option linter.unusedVariables false

/-- From block b, offset o on lie slices of these bytes. -/
def RowsAt (w : World) (b o : Nat) (L : List (List UInt8)) : Prop := ∀ i (h : i < L.length), ∃ u, w.cell? ⟨b, o + i, none⟩ = some u ∧ IsB w u L[i]
theorem RowsAt.lt {w : World} {b o : Nat} {L : List (List UInt8)} (h : RowsAt w b o L) (hd : L ≠ []) : b < w.heap.size := by
  obtain ⟨u, h0, _⟩ := h 0 (by cases L with | nil => exact absurd rfl hd | cons x y => simp)
  rcases Nat.lt_or_ge b w.heap.size with h' | h'
  · exact h'
  · simp [World.cell?, h'] at h0
theorem RowsAt.below {w w' : World} {b o : Nat} {L : List (List UInt8)} (h : RowsAt w b o L) (hb : Below w.heap.size w w') : RowsAt w' b o L := by
  intro i hi
  have hlt := h.lt (by intro e; subst e; simp at hi)
  obtain ⟨u, h1, h2⟩ := h i hi
  exact ⟨u, (hb.cell (p := ⟨b, o + i, none⟩) hlt).trans h1, h2.below hb⟩
/-- The value is a slice of slices of these bytes. -/
def IsBB (w : World) (v : Value) (L : List (List UInt8)) : Prop :=
  ∃ (a : Option Addr) (cap : Nat), v = .slice a L.length cap ∧ L.length ≤ cap ∧ L.length ≤ 140737488355328 ∧ (L = [] ∨ ∃ b o, a = some ⟨b, o, none⟩ ∧ RowsAt w b o L)
theorem IsBB.below {w w' : World} {v : Value} {L : List (List UInt8)} (h : IsBB w v L) (hb : Below w.heap.size w w') : IsBB w' v L := by
  obtain ⟨a, cap, e, hc, hl, h⟩ := h
  exact ⟨a, cap, e, hc, hl, h.imp id fun ⟨b, o, e2, hr⟩ => ⟨b, o, e2, hr.below hb⟩⟩
theorem sumF_at {L : List (List UInt8)} {k : Nat} (hk : k < L.length) (r : Nat) : foldR r (L.take (k + 1)).flatten = foldR (foldR r (L.take k).flatten) L[k] := by
  rw [List.take_succ_eq_append_getElem hk, List.flatten_append, foldR_append]; simp
theorem foldR_at {p : List UInt8} {j : Nat} (hj : j < p.length) (r : Nat) : foldR r (p.take (j + 1)) = tkR (foldR r (p.take j)) p[j].toNat := by
  rw [List.take_succ_eq_append_getElem hj, foldR_snoc]

set_option maxRecDepth 100000 in
set_option maxHeartbeats 1000000 in
/-- seal.Sum. -/
theorem sum_any (v : Value) (L : List (List UInt8)) (w : World) (h : IsBB w v L) :
    Calls Tryz.prog 29 #[v] w fun e w' => e = .returned (.int .u32 (sumL L.flatten : Int)) ∧ w' = w := by
  obtain ⟨a1, c1, rfl, hc1, hl1, r1⟩ := h
  have HR : Hid (L = [] ∨ ∃ b o, a1 = some ⟨b, o, none⟩ ∧ RowsAt w b o L) := r1
  clear r1
  go_enter Tryz.func29, Tryz.ntmps29
  go_wp2
  go_loop [3, 10] (fun u i => ∃ y k : Nat, u = .int .u32 (y : Int) ∧ i = .int .i64 (k : Int) ∧ k ≤ L.length ∧ y < 4294967296 ∧ Hid (y = foldR 4294967295 (L.take k).flatten)) (fun _ i => L.length - (intOf i).toNat)
  case atStart => exact ⟨4294967295, 0, rfl, rfl, Nat.zero_le _, by omega, rfl⟩
  case round =>
    obtain ⟨y, k, rfl, rfl, hk, hy, HY⟩ := hrel
    by_cases hlt : k < L.length
    · obtain ⟨b1, o1, rfl, g1⟩ := HR.out.resolve_left (by intro e; subst e; simp at hlt)
      obtain ⟨u, x1, hu⟩ := g1 k hlt
      clear g1
      obtain ⟨a2, c2, rfl, hc2, hl2, r2⟩ := hu
      have HR2 : Hid (L[k] = [] ∨ ∃ b o, a2 = some ⟨b, o, none⟩ ∧ BytesAt w b o L[k]) := r2
      have HYK : Hid (foldR 4294967295 (L.take (k + 1)).flatten = foldR y L[k]) := by show _ = _; rw [sumF_at hlt, ← HY.out]
      clear r2
      generalize L[k] = p at *
      have k1 : (k : Int) < (L.length : Int) := by omega
      have k0 : (0 : Int) ≤ (k : Int) := by omega
      go_wp2
      go_loop [3, 16] (fun u i => ∃ z j : Nat, u = .int .u32 (z : Int) ∧ i = .int .i64 (j : Int) ∧ j ≤ p.length ∧ z < 4294967296 ∧ Hid (z = foldR y (p.take j))) (fun _ i => p.length - (intOf i).toNat)
      case atStart => exact ⟨y, 0, rfl, rfl, Nat.zero_le _, hy, rfl⟩
      case round =>
        obtain ⟨z, j, rfl, rfl, hj, hz, HZ⟩ := hrel
        by_cases hlt2 : j < p.length
        · obtain ⟨b2, o2, rfl, g2⟩ := HR2.out.resolve_left (by intro e; subst e; simp at hlt2)
          have x2 := g2 j hlt2
          have hc := UInt8.toNat_lt p[j]
          have HZ2 : Hid (tkR z p[j].toNat = foldR y (p.take (j + 1))) := by show _ = _; rw [foldR_at hlt2, ← HZ.out]
          have hz2 := tkR_lt hz hc
          clear g2
          generalize p[j].toNat = c at *
          have j1 : (j : Int) < (p.length : Int) := by omega
          have j0 : (0 : Int) ≤ (j : Int) := by omega
          go_wp2_with (go_at_call 59; refine (take_any z c _ hz hc).mono ?_; rintro e w' ⟨rfl, hw⟩; replace hw := hw.symm; subst hw)
          go_round
          case rel => exact ⟨tkR z c, j + 1, rfl, by go_num, by omega, hz2, HZ2⟩
          case measure => simp [intOf]; omega
        · obtain rfl : j = p.length := by omega
          have HZ3 : Hid (z = foldR 4294967295 (L.take (k + 1)).flatten) := by show _ = _; rw [HYK.out, HZ.out, List.take_length]
          go_wp2
          go_round
          case rel => exact ⟨z, k + 1, rfl, by go_num, by omega, hz, HZ3⟩
          case measure => simp [intOf]; omega
    · obtain rfl : k = L.length := by omega
      have HE : Hid (sumL L.flatten = y ^^^ 4294967295) := by show _ = _; rw [HY.out, List.take_length]; rfl
      have hx : bits .xor .u32 (y : Int) 4294967295 = ((y ^^^ 4294967295 : Nat) : Int) := xor_u32 hy (show 4294967295 < 4294967296 by decide)
      generalize y ^^^ 4294967295 = t at *
      go_wp2
      go_ret
      exact ⟨by rw [HE.out]; rfl, rfl⟩

set_option maxRecDepth 100000 in
set_option maxHeartbeats 1000000 in
/-- The document's Sum. -/
theorem refSum_any (v : Value) (p : List UInt8) (w : World) (h : IsB w v p) :
    Calls Tryz.prog 42 #[v] w fun e w' => e = .returned (.int .u32 (sumL p : Int)) ∧ w' = w := by
  obtain ⟨a1, c1, rfl, hc1, hl1, r1⟩ := h
  have HR : Hid (p = [] ∨ ∃ b o, a1 = some ⟨b, o, none⟩ ∧ BytesAt w b o p) := r1
  clear r1
  go_enter Tryz.func42, Tryz.ntmps42
  go_wp2
  go_loop [3, 4] (fun u i => ∃ y k : Nat, u = .int .u32 (y : Int) ∧ i = .int .i64 (k : Int) ∧ k ≤ p.length ∧ y < 4294967296 ∧ Hid (y = foldR 4294967295 (p.take k))) (fun _ i => p.length - (intOf i).toNat)
  case atStart => exact ⟨4294967295, 0, rfl, rfl, Nat.zero_le _, by omega, rfl⟩
  case round =>
    obtain ⟨y, k, rfl, rfl, hk, hy, HY⟩ := hrel
    by_cases hlt : k < p.length
    · obtain ⟨b1, o1, rfl, g1⟩ := HR.out.resolve_left (by intro e; subst e; simp at hlt)
      have x1 := g1 k hlt
      have hc := UInt8.toNat_lt p[k]
      have HY2 : Hid (tkR y p[k].toNat = foldR 4294967295 (p.take (k + 1))) := by show _ = _; rw [foldR_at hlt, ← HY.out]
      have HT : Hid (tkR y p[k].toNat = stpN 8 (y ^^^ p[k].toNat)) := rfl
      clear g1
      generalize p[k].toNat = c at *
      have hx := xor_u32 hy (show c < 4294967296 by omega)
      have hxl : y ^^^ c < 4294967296 := Nat.xor_lt_two_pow (n := 32) hy (by omega)
      generalize y ^^^ c = x at *
      generalize tkR y c = t at *
      have k1 : (k : Int) < (p.length : Int) := by omega
      have k0 : (0 : Int) ≤ (k : Int) := by omega
      go_wp2
      go_loop [3, 5] (fun u i => ∃ z j : Nat, u = .int .u32 (z : Int) ∧ i = .int .i64 (j : Int) ∧ j ≤ 8 ∧ z < 4294967296 ∧ Hid (t = stpN (8 - j) z)) (fun _ i => 8 - (intOf i).toNat)
      case atStart => exact ⟨x, 0, by rfl, rfl, by omega, hxl, HT⟩
      case round =>
        obtain ⟨z, j, rfl, rfl, hj, hz, HZ⟩ := hrel
        by_cases h8 : j < 8
        · have HZ2 : Hid (t = stpN (8 - (j + 1)) (stp z)) := by
            have := HZ.out
            rw [show 8 - j = (8 - (j + 1)) + 1 by omega, stpN_back] at this
            exact this
          have hz2 : z / 2 < 4294967296 := by omega
          have hl := stp_lt hz
          rcases Nat.mod_two_eq_zero_or_one z with h0 | h0
          · have hs := stp_even h0
            rw [hs] at hl HZ2
            have hm : ¬ (z : Int) % 2 = 1 := by omega
            go_wp2
            go_round
            case rel => exact ⟨z / 2, j + 1, by go_num, by go_num, by omega, hl, HZ2⟩
            case measure => simp [intOf]; omega
          · have hs := stp_odd h0
            have hzx : bits .xor .u32 ((z : Int) / 2) 3988292384 = ((z / 2 ^^^ 3988292384 : Nat) : Int) := xor_u32 hz2 (show 3988292384 < 4294967296 by omega)
            rw [← hs] at hzx
            generalize stp z = q at *
            have hm : (z : Int) % 2 = 1 := by omega
            go_wp2
            go_round
            case rel => exact ⟨q, j + 1, by first | rfl | go_num, by go_num, by omega, hl, HZ2⟩
            case measure => simp [intOf]; omega
        · obtain rfl : j = 8 := by omega
          have HE : Hid (t = z) := HZ.out
          have HE2 : Hid (z = foldR 4294967295 (p.take (k + 1))) := by show _ = _; rw [← HE.out]; exact HY2.out
          go_wp2
          go_round
          case rel => exact ⟨z, k + 1, rfl, by go_num, by omega, hz, HE2⟩
          case measure => simp [intOf]; omega
    · obtain rfl : k = p.length := by omega
      have HE : Hid (sumL p = y ^^^ 4294967295) := by show _ = _; rw [HY.out, List.take_length]; rfl
      have hx : bits .xor .u32 (y : Int) 4294967295 = ((y ^^^ 4294967295 : Nat) : Int) := xor_u32 hy (show 4294967295 < 4294967296 by decide)
      generalize y ^^^ 4294967295 = t at *
      go_wp2
      go_ret
      exact ⟨by rw [HE.out]; rfl, rfl⟩

end Go.Proofs.YtlioiblpcpaejaaGreat

namespace Go.Proofs.YtlioiblpcpaejaaGreat
open Go.RowKit
set_option linter.unusedVariables false

theorem leL_snoc (l : List UInt8) (c : UInt8) : leL (l ++ [c]) = leL l + c.toNat * 256 ^ l.length := by
  induction l with
  | nil => simp [leL]
  | cons x l ih =>
    simp only [List.cons_append, leL, ih, List.length_cons, Nat.pow_succ]
    rw [Nat.mul_add, Nat.add_assoc]
    congr 2
    rw [Nat.mul_comm 256, Nat.mul_assoc]
theorem leL_at {p : List UInt8} {j : Nat} (hj : j < p.length) : leL (p.take (j + 1)) = leL (p.take j) + p[j].toNat * 256 ^ j := by
  rw [List.take_succ_eq_append_getElem hj, leL_snoc, List.length_take, Nat.min_eq_left (by omega)]
theorem pow256 (j : Nat) (h : j ≤ 3) : (256 : Nat) ^ j = 2 ^ (8 * j) ∧ (256 : Nat) ^ j ≤ 16777216 ∧ (256 : Nat) ^ (j + 1) ≤ 4294967296 := by
  rcases show j = 0 ∨ j = 1 ∨ j = 2 ∨ j = 3 by omega with rfl | rfl | rfl | rfl <;> decide
theorem or_word (j acc c : Nat) (hj : j ≤ 3) (ha : acc < 256 ^ j) (hc : c < 256) : bits .or .u32 (acc : Int) ((c : Int) * 2 ^ (8 * j) % 4294967296) = ((acc + c * 256 ^ j : Nat) : Int) ∧ acc + c * 256 ^ j < 256 ^ (j + 1) := by
  obtain ⟨h1, h2, h3⟩ := pow256 j hj
  have h4 : c * 256 ^ j + 256 ^ j ≤ 256 ^ (j + 1) := by
    rw [Nat.pow_succ, ← Nat.succ_mul, Nat.mul_comm (256 ^ j) 256]
    exact Nat.mul_le_mul_right _ (by omega)
  refine ⟨?_, by omega⟩
  have e1 : ((c : Int) * 2 ^ (8 * j) % 4294967296) = ((c * 256 ^ j : Nat) : Int) := by
    rw [show ((c : Int) * 2 ^ (8 * j)) = ((c * 2 ^ (8 * j) : Nat) : Int) by push_cast; rfl, ← h1]
    omega
  rw [e1, (bits_nat .u32 32 (by decide) wraps_u32 acc (c * 256 ^ j) (by omega) (by omega)).2]
  congr 1
  rw [h1] at ha ⊢
  rw [Nat.or_comm, Nat.mul_comm, ← Nat.two_pow_add_eq_or_of_lt ha c, Nat.add_comm]

set_option maxRecDepth 100000 in
set_option maxHeartbeats 1000000 in
/-- seal.word. -/
theorem word_any (v : Value) (p : List UInt8) (w : World) (h : IsB w v p) (h4 : 4 ≤ p.length) :
    Calls Tryz.prog 28 #[v] w fun e w' => e = .returned (.int .u32 (leL (p.take 4) : Int)) ∧ w' = w := by
  obtain ⟨a1, c1, rfl, hc1, hl1, r1⟩ := h
  obtain ⟨b1, o1, rfl, g1⟩ := r1.resolve_left (by intro e; subst e; simp at h4)
  have HR : Hid (BytesAt w b1 o1 p) := g1
  clear r1 g1
  go_enter Tryz.func28, Tryz.ntmps28
  go_wp2
  go_loop [3, 5] (fun u i => ∃ y k : Nat, u = .int .u32 (y : Int) ∧ i = .int .i64 (k : Int) ∧ k ≤ 4 ∧ Hid (y < 256 ^ k) ∧ Hid (y = leL (p.take k))) (fun _ i => 4 - (intOf i).toNat)
  case atStart => exact ⟨0, 0, rfl, rfl, by omega, by show _ < _; simp, rfl⟩
  case round =>
    obtain ⟨y, k, rfl, rfl, hk, HL, HY⟩ := hrel
    by_cases hlt : k < 4
    · have hlt2 : k < p.length := by omega
      have x1 := HR.out k hlt2
      have hc := UInt8.toNat_lt p[k]
      have HY2 : Hid (y + p[k].toNat * 256 ^ k = leL (p.take (k + 1))) := by show _ = _; rw [leL_at hlt2, ← HY.out]
      obtain ⟨q1, q2⟩ := or_word k y p[k].toNat (by omega) HL.out hc
      have HQ : Hid (y + p[k].toNat * 256 ^ k < 256 ^ (k + 1)) := q2
      clear q2
      generalize p[k].toNat = c at *
      generalize y + c * 256 ^ k = z at *
      have HV : Hid (bits .or .u32 (y : Int) ((c : Int) * 2 ^ (8 * k) % 4294967296) = (z : Int)) := q1
      clear q1
      have k1 : (k : Int) < (p.length : Int) := by omega
      have k0 : (0 : Int) ≤ (k : Int) := by omega
      go_wp2
      go_round
      case rel => exact ⟨z, k + 1, by rw [← HV.out], by go_num, by omega, HQ, HY2⟩
      case measure => simp [intOf]; omega
    · obtain rfl : k = 4 := by omega
      go_wp2
      go_ret
      exact ⟨by rw [← HY.out]; rfl, rfl⟩

theorem leL_four {p : List UInt8} (h4 : 4 ≤ p.length) : leL (p.take 4) = p[0].toNat + p[1].toNat * 256 + p[2].toNat * 65536 + p[3].toNat * 16777216 := by
  rw [leL_at (show 3 < p.length by omega), leL_at (show 2 < p.length by omega), leL_at (show 1 < p.length by omega), leL_at (show 0 < p.length by omega)]
  simp [leL]

set_option maxRecDepth 100000 in
set_option maxHeartbeats 1000000 in
/-- The document's Number. -/
theorem refNumber_any (v : Value) (p : List UInt8) (w : World) (h : IsB w v p) (h4 : 4 ≤ p.length) :
    Calls Tryz.prog 40 #[v] w fun e w' => e = .returned (.int .i64 (leL (p.take 4) : Int)) ∧ ∃ m, w' = w.drewN m := by
  obtain ⟨a1, c1, rfl, hc1, hl1, r1⟩ := h
  obtain ⟨b1, o1, rfl, g1⟩ := r1.resolve_left (by intro e; subst e; simp at h4)
  have x0 := g1 0 (by omega)
  have x1 := g1 1 (by omega)
  have x2 := g1 2 (by omega)
  have x3 := g1 3 (by omega)
  have HE : Hid (leL (p.take 4) = p[0].toNat + p[1].toNat * 256 + p[2].toNat * 65536 + p[3].toNat * 16777216) := leL_four h4
  have q0 := UInt8.toNat_lt p[0]
  have q1 := UInt8.toNat_lt p[1]
  have q2 := UInt8.toNat_lt p[2]
  have q3 := UInt8.toNat_lt p[3]
  generalize p[0].toNat = y0 at *
  generalize p[1].toNat = y1 at *
  generalize p[2].toNat = y2 at *
  generalize p[3].toNat = y3 at *
  clear r1 g1
  rw [Nat.add_zero] at x0
  generalize p.length = n at *
  have l0 : (0 : Int) < (n : Int) := by omega
  have l1 : (1 : Int) < (n : Int) := by omega
  have l2 : (2 : Int) < (n : Int) := by omega
  have l3 : (3 : Int) < (n : Int) := by omega
  go_enter Tryz.func40, Tryz.ntmps40
  go_wp2
  go_quiet (fail)
  go_wp2
  go_ret
  refine ⟨ret_i ?_, _, rfl⟩
  rw [HE.out]
  omega

set_option maxRecDepth 100000 in
set_option maxHeartbeats 1000000 in
/-- The document's Four. -/
theorem refFour_any (n : Nat) (w : World) (hn : n < 4294967296) :
    Calls Tryz.prog 41 #[.int .u32 (n : Int)] w fun e w' => ∃ v', e = .returned v' ∧ OwnB w.heap.size w' v' (fourL n) ∧ Below w.heap.size w w' := by
  go_enter Tryz.func41, Tryz.ntmps41
  go_wp2
  go_ret
  refine ⟨_, rfl, ?_, (Below.refl _ _).alloc (Nat.le_refl _) _⟩
  refine OwnB.made w (fourL n) _ ?_ (by rw [fourL_length]; omega) (Nat.le_refl _)
  simp only [cellsB, fourL, List.map_cons, List.map_nil]
  rw [toNat_of (by omega), toNat_of (by omega), toNat_of (by omega), toNat_of (by omega)]
  rw [show n / 16777216 % 256 = n / 16777216 by omega]
  simp

theorem isKind_yes (k : Int) (w : World) (h : 1 ≤ k ∧ k ≤ 15) : Calls Tryz.prog 58 #[.int .i64 k] w fun e w' => e = .returned (.bool true) ∧ w' = w := by
  have := sealKind_any k w
  rw [show (decide (1 ≤ k) && decide (k ≤ 15)) = true by simp; omega] at this
  exact this
theorem isKind_no (k : Int) (w : World) (h : ¬ (1 ≤ k ∧ k ≤ 15)) : Calls Tryz.prog 58 #[.int .i64 k] w fun e w' => e = .returned (.bool false) ∧ w' = w := by
  have := sealKind_any k w
  rw [show (decide (1 ≤ k) && decide (k ≤ 15)) = false by by_cases h1 : 1 ≤ k <;> simp [h1] <;> omega] at this
  exact this

theorem frameB_short {p : List UInt8} (h : ¬ 9 ≤ p.length) : frameB p = false := by simp [frameB, h]
theorem frameB_long {p : List UInt8} (h : 9 ≤ p.length) : frameB p = ((decide (1 ≤ p[0].toNat) && decide (p[0].toNat ≤ 15)) && (decide (leL ((p.drop 1).take 4) ≤ 65536) && decide (leL ((p.drop 1).take 4) + 9 = p.length))) := by
  unfold frameB
  rw [List.getD_eq_getElem?_getD, List.getElem?_eq_getElem (show 0 < p.length by omega)]
  simp [h]

set_option maxRecDepth 100000 in
set_option maxHeartbeats 1000000 in
/-- seal.isFrame. -/
theorem isFrame_any (v : Value) (p : List UInt8) (w : World) (h : IsB w v p) :
    Calls Tryz.prog 27 #[v] w fun e w' => e = .returned (.bool (frameB p)) ∧ w' = w := by
  have H : Hid (IsB w v p) := h
  obtain ⟨a1, c1, rfl, hc1, hl1, r1⟩ := h
  by_cases h9 : 9 ≤ p.length
  · obtain ⟨b1, o1, rfl, g1⟩ := r1.resolve_left (by intro e; subst e; simp at h9)
    have x0 := g1 0 (by omega)
    rw [Nat.add_zero] at x0
    have HF : Hid (frameB p = ((decide (1 ≤ p[0].toNat) && decide (p[0].toNat ≤ 15)) && (decide (leL ((p.drop 1).take 4) ≤ 65536) && decide (leL ((p.drop 1).take 4) + 9 = p.length)))) := frameB_long h9
    have HS : Hid (IsB w (.slice (some ⟨b1, o1 + 1, none⟩) (p.length - 1) (c1 - 1)) (p.drop 1)) := by
      have := H.out.sub 1 (p.length - 1) (by omega)
      rw [List.take_of_length_le (by rw [List.length_drop]; omega)] at this
      exact this
    have h4 : 4 ≤ (p.drop 1).length := by rw [List.length_drop]; omega
    have HD : Hid (4 ≤ (p.drop 1).length) := h4
    have q0 := UInt8.toNat_lt p[0]
    have qn : leL ((p.drop 1).take 4) < 4294967296 := by
      have := leL_lt ((p.drop 1).take 4)
      rw [List.length_take, Nat.min_eq_left h4] at this
      exact this
    generalize hnn : leL ((p.drop 1).take 4) = n at *
    generalize p[0].toNat = k at *
    have HW : Hid (∀ v, IsB w v (p.drop 1) → Calls Tryz.prog 28 #[v] w fun e w' => e = .returned (.int .u32 (n : Int)) ∧ w' = w) := fun v hv => by
      have := word_any v (p.drop 1) w hv HD.out
      rw [hnn] at this
      exact this
    clear r1 g1 h4 hnn
    generalize frameB p = fb at *
    generalize p.length = pl at *
    by_cases hk : 1 ≤ (k : Int) ∧ (k : Int) ≤ 15
    · have HK : Hid (1 ≤ (k : Int) ∧ (k : Int) ≤ 15) := hk
      have e1 : decide (1 ≤ k) = true := by simp; omega
      have e2 : decide (k ≤ 15) = true := by simp; omega
      have HB : Hid (fb = (decide (n ≤ 65536) && decide (n + 9 = pl))) := by have := HF.out; rw [e1, e2] at this; exact this
      clear e1 e2 hk HF
      by_cases hn1 : n ≤ 65536
      all_goals by_cases hn2 : n + 9 = pl
      all_goals (
        have HB2 : Hid (fb = (decide (n ≤ 65536) && decide (n + 9 = pl))) := HB.out
        simp [hn1, hn2] at HB2
        have hq : ((n : Int) == (pl : Int) - 9) = decide (n + 9 = pl) := by by_cases h : n + 9 = pl <;> simp [h] <;> omega
        simp only [hn2, decide_true, decide_false] at hq
        clear HB
        go_enter Tryz.func27, Tryz.ntmps27
        go_wp2_with (first | (go_at_call 58; refine (isKind_yes _ _ HK.out).mono ?_; rintro e w' ⟨rfl, hw⟩; replace hw := hw.symm; subst hw) | (go_at_call 28; refine (HW.out _ HS.out).mono ?_; rintro e w' ⟨rfl, hw⟩; replace hw := hw.symm; subst hw))
        go_ret
        exact ⟨by rw [HB2.out]; rfl, rfl⟩)
    · have HK : Hid (¬ (1 ≤ (k : Int) ∧ (k : Int) ≤ 15)) := hk
      have HB2 : Hid (fb = false) := by
        have := HF.out
        rw [show (decide (1 ≤ k) && decide (k ≤ 15)) = false by by_cases h1 : 1 ≤ k <;> simp [h1] <;> omega] at this
        exact this
      clear hk HF
      go_enter Tryz.func27, Tryz.ntmps27
      go_wp2_with (go_at_call 58; refine (isKind_no _ _ HK.out).mono ?_; rintro e w' ⟨rfl, hw⟩; replace hw := hw.symm; subst hw)
      go_ret
      exact ⟨by rw [HB2.out]; rfl, rfl⟩
  · have HF : Hid (frameB p = false) := frameB_short h9
    clear r1
    go_enter Tryz.func27, Tryz.ntmps27
    go_wp2
    go_ret
    exact ⟨by rw [HF.out]; rfl, rfl⟩

end Go.Proofs.YtlioiblpcpaejaaGreat

namespace Go.Proofs.YtlioiblpcpaejaaGreat
open Go.RowKit
set_option linter.unusedVariables false

/-- What Seal tells of a kind and a load: the frame, the error. -/
def sealL (kind : Int) (load : List UInt8) : List UInt8 × Int :=
  if 1 ≤ kind ∧ kind ≤ 15 then (if load.length ≤ 65536 then (frameL kind.toNat load, 0) else ([], 3)) else ([], 1)
theorem headL_length (k : Nat) (load : List UInt8) : (headL k load).length = load.length + 5 := by simp [headL, fourL]
theorem frameL_length (k : Nat) (load : List UInt8) : (frameL k load).length = load.length + 9 := by simp [frameL, headL_length, fourL]
theorem IsBB.one {w : World} {v : Value} {p : List UInt8} (h : IsB w v p) (ty : TypeId) : IsBB (w.alloc (.cells #[v] ty)) (.slice (some ⟨w.heap.size, 0, none⟩) 1 1) [p] := by
  refine ⟨_, 1, rfl, Nat.le_refl _, by simp, .inr ⟨w.heap.size, 0, rfl, fun i hi => ?_⟩⟩
  obtain rfl : i = 0 := by simpa using hi
  refine ⟨v, ?_, h.below ((Below.refl _ _).alloc (Nat.le_refl _) _)⟩
  exact cell_one_new w v ty 0 v rfl

theorem OwnB.form3 {B : Nat} {w : World} {v : Value} {D : List UInt8} (h : OwnB B w v D) : ∃ a n cap, v = .slice a n cap := by
  obtain ⟨a, cap, e⟩ := h.form
  exact ⟨a, _, cap, e⟩

set_option maxRecDepth 100000 in
set_option maxHeartbeats 2000000 in
/-- seal.Seal. -/
theorem seal_any (kind : Int) (v : Value) (p : List UInt8) (w : World) (h : IsB w v p) :
    Calls Tryz.prog 55 #[.int .i64 kind, v] w fun e w' => ∃ v', e = .returned (.tuple #[v', .int .i64 (sealL kind p).2]) ∧ OwnB w.heap.size w' v' (sealL kind p).1 ∧ Below w.heap.size w w' := by
  obtain ⟨i0, hi, hz0, hz1, hz2⟩ := info_parts infoByte
  have H : Hid (IsB w v p) := h
  obtain ⟨a1, c1, rfl, hc1, hl1, r1⟩ := h
  clear r1
  by_cases hk : 1 ≤ kind ∧ kind ≤ 15
  · have HK : Hid (1 ≤ kind ∧ kind ≤ 15) := hk
    by_cases hl : p.length ≤ 65536
    · have HS : Hid (sealL kind p = (frameL kind.toNat p, 0)) := by show _ = _; unfold sealL; rw [if_pos hk, if_pos hl]
      obtain ⟨k, rfl⟩ := Int.eq_ofNat_of_zero_le (show 0 ≤ kind by omega)
      rw [Int.toNat_natCast] at HS
      generalize sealL (k : Int) p = S at *
      have hk1 : 1 ≤ k := by omega
      have hk2 : k ≤ 15 := by omega
      clear hk
      go_enter Tryz.func55, Tryz.ntmps55
      go_wp2_with (first
        | (go_at_call 58; refine (isKind_yes _ _ HK.out).mono ?_; rintro e w' ⟨rfl, hw⟩; replace hw := hw.symm; subst hw)
        | (at_make; refine wpList_make_own _ rfl _ _ 22 rfl w.heap.size 5 i0 (.int .u8 0) 1 Tryz.underlying22 hi hz0 hz1 .i64 .i64 _ (9 + p.length) rfl rfl (by omega) (by rw [hz2]; omega) (by unfold maxLen; omega) (Nat.le_refl _) ?_; intro w1 ho1 hg1; have HO1 : Hid (OwnB w.heap.size w1 (.slice (some ⟨w.heap.size, 0, none⟩) 0 (9 + p.length)) []) := ho1; have HB1 : Hid (Below w.heap.size w w1) := (Below.refl _ _).grown hg1 (Nat.le_refl _) (fun j e => by cases e); have hs1 := HB1.out.size; clear ho1 hg1)
        | (at_builtin; refine wpList_append_own _ rfl _ _ 22 rfl w.heap.size 5 i0 (.int .u8 0) 1 1 Tryz.underlying22 hi hz0 hz1 hz2 rfl (by decide) _ _ _ rfl (World.ownsRow.alloc HO1.out _) ⟨w1.heap.size, 0, none⟩ 1 1 [_] rfl rfl (cell_one_new _ _ _) (fun x hx => by simp at hx; subst hx; rfl) (by unfold maxLen; simp) (by simp) (by simp; omega) ?_; intro v2 w2 ho2 hg2 _; have HO2 : Hid (OwnB w.heap.size w2 v2 [UInt8.ofNat k]) := OwnB.more (D := []) (E := [UInt8.ofNat k]) ho2 rfl (by simp [cellsB]; omega); have HB2 : Hid (Below w.heap.size w w2) := (HB1.out.alloc (by omega) _).grown hg2 (by simp; omega) (fun j e => (World.ownsRow.lt HO1.out j e).1); have hs2 := HB2.out.size; clear ho2 hg2))
      refine (appendWord_any w.heap.size _ _ p.length _ (by omega) HO2.out hs2 (by simp)).mono ?_
      rintro e w3 ⟨v3, rfl, ho3, hb3⟩
      have HO3 : Hid (OwnB w.heap.size w3 v3 ([UInt8.ofNat k] ++ fourL p.length)) := ho3
      have HB3 : Hid (Below w.heap.size w w3) := HB2.out.trans hb3
      have hs3 := HB3.out.size
      clear ho3 hb3
      go_wp2_with (at_builtin; refine wpList_appB rfl _ _ rfl w.heap.size _ _ rfl HO3.out hs3 _ p rfl (H.out.below HB3.out) (by simp [fourL]; omega) ?_; intro v4 w4 ho4 hg4; obtain ⟨a4, n4, c4, rfl⟩ := ho4.form3; have HO4 : Hid (OwnB w.heap.size w4 (.slice a4 n4 c4) (headL k p)) := ho4; have HB4 : Hid (Below w.heap.size w w4) := HB3.out.grown hg4 hs3 HO3.out.block; have hs4 := HB4.out.size; clear ho4 hg4)
      generalize hv4 : Value.slice a4 n4 c4 = v4 at *
      have HI4 : Hid (IsBB (w4.alloc (.cells #[v4] 22)) (.slice (some ⟨w4.heap.size, 0, none⟩) 1 1) [headL k p]) := IsBB.one (HO4.out.isB (by rw [headL_length]; omega)) _
      refine (sum_any _ [headL k p] _ HI4.out).mono ?_
      rintro e w' ⟨rfl, rfl⟩
      rw [List.flatten_cons, List.flatten_nil, List.append_nil]
      have HB5 : Hid (Below w4.heap.size w4 (w4.alloc (.cells #[v4] 22))) := (Below.refl _ _).alloc (Nat.le_refl _) _
      have HB6 : Hid (Below w.heap.size w (w4.alloc (.cells #[v4] 22))) := HB4.out.alloc (by omega) _
      have HO6 : Hid (OwnB w.heap.size (w4.alloc (.cells #[v4] 22)) v4 (headL k p)) := HO4.out.below HB5.out
      have HFR : Hid (frameL k p = headL k p ++ fourL (sumL (headL k p))) := rfl
      have hsum := sumL_lt (headL k p)
      generalize sumL (headL k p) = sm at *
      go_wp2_with fail
      refine (appendWord_any w.heap.size _ _ sm _ hsum HO6.out HB6.out.size (by rw [headL_length]; omega)).mono ?_
      rintro e w7 ⟨v7, rfl, ho7, hb7⟩
      have HO7 : Hid (OwnB w.heap.size w7 v7 (frameL k p)) := by show OwnB _ _ _ _; rw [HFR.out]; exact ho7
      have HB7 : Hid (Below w.heap.size w w7) := HB6.out.trans hb7
      clear ho7 hb7
      go_wp2
      go_ret2
      exact ⟨v7, by rw [HS.out]; rfl, by rw [HS.out]; exact HO7.out, HB7.out⟩
    · have HS : Hid (sealL kind p = ([], 3)) := by show _ = _; unfold sealL; rw [if_pos hk, if_neg hl]
      clear hk
      go_enter Tryz.func55, Tryz.ntmps55
      go_wp2_with (go_at_call 58; refine (isKind_yes _ _ HK.out).mono ?_; rintro e w' ⟨rfl, hw⟩; replace hw := hw.symm; subst hw)
      go_ret2
      exact ⟨_, by rw [HS.out]; rfl, by rw [HS.out]; exact OwnB.nil0 _ _, Below.refl _ _⟩
  · have HK : Hid (¬ (1 ≤ kind ∧ kind ≤ 15)) := hk
    have HS : Hid (sealL kind p = ([], 1)) := by show _ = _; unfold sealL; rw [if_neg hk]
    clear hk
    go_enter Tryz.func55, Tryz.ntmps55
    go_wp2_with (go_at_call 58; refine (isKind_no _ _ HK.out).mono ?_; rintro e w' ⟨rfl, hw⟩; replace hw := hw.symm; subst hw)
    go_ret2
    exact ⟨_, by rw [HS.out]; rfl, by rw [HS.out]; exact OwnB.nil0 _ _, Below.refl _ _⟩

set_option maxRecDepth 100000 in
set_option maxHeartbeats 2000000 in
/-- The document's Seal. -/
theorem refSeal_any (kind : Int) (v : Value) (p : List UInt8) (w : World) (h : IsB w v p) :
    Calls Tryz.prog 51 #[.int .i64 kind, v] w fun e w' => ∃ v', e = .returned (.tuple #[v', .int .i64 (sealL kind p).2]) ∧ OwnB w.heap.size w' v' (sealL kind p).1 ∧ Below w.heap.size w w' := by
  have H : Hid (IsB w v p) := h
  obtain ⟨a1, c1, rfl, hc1, hl1, r1⟩ := h
  clear r1
  by_cases hk : 1 ≤ kind ∧ kind ≤ 15
  · have hk1 : ¬ kind < 1 := by omega
    have hk2 : ¬ 15 < kind := by omega
    by_cases hl : p.length ≤ 65536
    · have HS : Hid (sealL kind p = (frameL kind.toNat p, 0)) := by show _ = _; unfold sealL; rw [if_pos hk, if_pos hl]
      obtain ⟨k, rfl⟩ := Int.eq_ofNat_of_zero_le (show 0 ≤ kind by omega)
      rw [Int.toNat_natCast] at HS
      generalize sealL (k : Int) p = S at *
      have hk3 : k ≤ 15 := by omega
      clear hk
      have HO1 : Hid (OwnB w.heap.size (w.alloc (.cells #[.int .u8 (k : Int)] 5)) (.slice (some ⟨w.heap.size, 0, none⟩) 1 1) [UInt8.ofNat k]) := OwnB.made w [UInt8.ofNat k] #[.int .u8 (k : Int)] (by simp [cellsB]; omega) (by simp) (Nat.le_refl _)
      have HB1 : Hid (Below w.heap.size w (w.alloc (.cells #[.int .u8 (k : Int)] 5))) := (Below.refl _ _).alloc (Nat.le_refl _) _
      go_enter Tryz.func51, Tryz.ntmps51
      go_wp2_with fail
      refine (refFour_any p.length _ (by omega)).mono ?_
      rintro e w2 ⟨v2, rfl, ho2, hb2⟩
      have HB2 : Hid (Below w.heap.size w w2) := HB1.out.trans (hb2.mono HB1.out.size)
      have HO2 : Hid (OwnB w.heap.size w2 (.slice (some ⟨w.heap.size, 0, none⟩) 1 1) [UInt8.ofNat k]) := HO1.out.below hb2
      have HI2 : Hid (IsB w2 v2 (fourL p.length)) := ho2.isB (by rw [fourL_length]; omega)
      have hs2 := HB2.out.size
      clear ho2 hb2
      go_wp2_with (first
        | (at_builtin; refine wpList_appB rfl _ _ rfl w.heap.size _ _ rfl HO2.out hs2 _ (fourL p.length) rfl HI2.out (by simp [fourL]) ?_; intro v3 w3 ho3 hg3; have HO3 : Hid (OwnB w.heap.size w3 v3 ([UInt8.ofNat k] ++ fourL p.length)) := ho3; have HB3 : Hid (Below w.heap.size w w3) := HB2.out.grown hg3 hs2 HO2.out.block; have hs3 := HB3.out.size; clear ho3 hg3)
        | (at_builtin; refine wpList_appB rfl _ _ rfl w.heap.size _ _ rfl HO3.out hs3 _ p rfl (H.out.below HB3.out) (by simp [fourL]; omega) ?_; intro v4 w4 ho4 hg4; have HO4 : Hid (OwnB w.heap.size w4 v4 (headL k p)) := ho4; have HB4 : Hid (Below w.heap.size w w4) := HB3.out.grown hg4 hs3 HO3.out.block; have hs4 := HB4.out.size; clear ho4 hg4))
      have HLH : Hid ((headL k p).length = p.length + 5) := headL_length k p
      refine (refSum_any _ (headL k p) _ (HO4.out.isB (by rw [HLH.out]; omega))).mono ?_
      rintro e w' ⟨rfl, rfl⟩
      have HFR : Hid (frameL k p = headL k p ++ fourL (sumL (headL k p))) := rfl
      have hsum := sumL_lt (headL k p)
      generalize sumL (headL k p) = sm at *
      go_wp2_with fail
      refine (refFour_any sm _ hsum).mono ?_
      rintro e w5 ⟨v5, rfl, ho5, hb5⟩
      have HB5 : Hid (Below w.heap.size w w5) := HB4.out.trans (hb5.mono HB4.out.size)
      have HO5 : Hid (OwnB w.heap.size w5 v4 (headL k p)) := HO4.out.below hb5
      have HI5 : Hid (IsB w5 v5 (fourL sm)) := ho5.isB (by rw [fourL_length]; omega)
      have hs5 := HB5.out.size
      clear ho5 hb5
      go_wp2_with (at_builtin; refine wpList_appB rfl _ _ rfl w.heap.size _ _ rfl HO5.out hs5 _ (fourL sm) rfl HI5.out (by rw [HLH.out, fourL_length]; omega) ?_; intro v6 w6 ho6 hg6; have HO6 : Hid (OwnB w.heap.size w6 v6 (frameL k p)) := (by show OwnB _ _ _ _; rw [HFR.out]; exact ho6); have HB6 : Hid (Below w.heap.size w w6) := HB5.out.grown hg6 hs5 HO5.out.block; clear ho6 hg6)
      go_ret2
      exact ⟨v6, by rw [HS.out]; rfl, by rw [HS.out]; exact HO6.out, HB6.out⟩
    · have HS : Hid (sealL kind p = ([], 3)) := by show _ = _; unfold sealL; rw [if_pos hk, if_neg hl]
      clear hk
      go_enter Tryz.func51, Tryz.ntmps51
      go_wp2
      go_ret2
      exact ⟨_, by rw [HS.out]; rfl, by rw [HS.out]; exact OwnB.nil0 _ _, Below.refl _ _⟩
  · have HS : Hid (sealL kind p = ([], 1)) := by show _ = _; unfold sealL; rw [if_neg hk]
    by_cases hk1 : kind < 1
    all_goals (
      have hk2 : kind < 1 ∨ 15 < kind := by omega
      go_enter Tryz.func51, Tryz.ntmps51
      go_wp2
      go_ret2
      exact ⟨_, by rw [HS.out]; rfl, by rw [HS.out]; exact OwnB.nil0 _ _, Below.refl _ _⟩)

end Go.Proofs.YtlioiblpcpaejaaGreat

namespace Go.Proofs.YtlioiblpcpaejaaGreat
open Go.RowKit
set_option linter.unusedVariables false

theorem IsBB.two {w : World} {v u : Value} {p q : List UInt8} (h : IsB w v p) (h2 : IsB w u q) (ty : TypeId) : IsBB (w.alloc (.cells #[v, u] ty)) (.slice (some ⟨w.heap.size, 0, none⟩) 2 2) [p, q] := by
  have hb : Below w.heap.size w (w.alloc (.cells #[v, u] ty)) := (Below.refl _ _).alloc (Nat.le_refl _) _
  have hn := heap_alloc_new w (.cells #[v, u] ty)
  refine ⟨_, 2, rfl, Nat.le_refl _, by simp, .inr ⟨w.heap.size, 0, rfl, fun i hi => ?_⟩⟩
  rcases show i = 0 ∨ i = 1 by simp at hi; omega with rfl | rfl
  · refine ⟨v, ?_, h.below hb⟩
    unfold World.cell?
    rw [hn]
    rfl
  · refine ⟨u, ?_, h2.below hb⟩
    unfold World.cell?
    rw [hn]
    rfl
theorem sum_nine : sumL ([[49, 50, 51, 52], [53, 54, 55, 56, 57]] : List (List UInt8)).flatten = 3421780262 := by kernel_rfl

/-- A literal of bytes, marked or not. -/
theorem IsB.lit (w : World) (D : List UInt8) (cs : Array Value) (hc : cs.toList = cellsB D) (hl : D.length ≤ 281474976710656) (fr : Nat × Nat) : IsB (w.alloc (.cells cs 5 fr)) (.slice (some ⟨w.heap.size, 0, none⟩) D.length D.length) D := by
  refine ⟨_, D.length, rfl, Nat.le_refl _, hl, .inr ⟨w.heap.size, 0, rfl, fun i hi => ?_⟩⟩
  rw [Nat.zero_add, World.cell?_alloc_mark, ← Array.getElem?_toList, hc]
  simp [cellsB, hi]
theorem IsB.lit' {w : World} (D : List UInt8) (cs : Array Value) (hc : cs.toList = cellsB D) (hl : D.length ≤ 281474976710656) (fr : Nat × Nat) {g n : Nat} (hg : g = w.heap.size) (hn : n = D.length) : IsB (w.alloc (.cells cs 5 fr)) (.slice (some ⟨g, 0, none⟩) n n) D := by
  subst hg hn; exact IsB.lit w D cs hc hl fr
theorem conv_lit (w : World) (C : Array Value) (n c g : Nat) (hg : g = w.heap.size) : (convert 22 22 (.slice (some ⟨g, 0, none⟩) n c)).run Tryz.prog (w.alloc (.cells C 5)) = .ok (.slice (some ⟨g, 0, none⟩) n c) (w.alloc (.cells C 5 (C.size, C.size + 1))) := by
  subst hg; exact Lib.run_convert_bytes_const w 22 5 C n c Tryz.underlying22 Tryz.underlying5

end Go.Proofs.YtlioiblpcpaejaaGreat

namespace Go.Proofs.YtlioiblpcpaejaaGreat
open Go.RowKit
set_option linter.unusedVariables false

theorem openL_no {p : List UInt8} (h : frameB p = false) : openL p = (0, [], 2) := by unfold openL; rw [h]; rfl
theorem openL_sum {p : List UInt8} {e : Nat} (h : frameB p = true) (he : p.length = e + 4) (h2 : leL ((p.drop e).take 4) ≠ sumL (p.take e)) : openL p = (0, [], 9) := by
  unfold openL
  rw [h, he, Nat.add_sub_cancel, if_pos rfl, if_neg]
  rwa [List.take_of_length_le (by rw [List.length_drop]; omega)] at h2
theorem openL_yes {p : List UInt8} {e : Nat} (h : frameB p = true) (he : p.length = e + 4) (h2 : leL ((p.drop e).take 4) = sumL (p.take e)) (h0 : 0 < p.length) : openL p = (p[0].toNat, (p.take e).drop 5, 0) := by
  unfold openL
  rw [h, he, Nat.add_sub_cancel, if_pos rfl, if_pos, List.getD_eq_getElem?_getD, List.getElem?_eq_getElem h0]
  · rfl
  · rwa [List.take_of_length_le (by rw [List.length_drop]; omega)] at h2
theorem frameB_nine {p : List UInt8} (h : frameB p = true) : 9 ≤ p.length := by
  rcases Nat.lt_or_ge p.length 9 with h' | h'
  · rw [frameB_short (by omega)] at h; cases h
  · exact h'

theorem frameB_most {p : List UInt8} (h : frameB p = true) : p.length ≤ 65545 := by
  have h9 := frameB_nine h
  rw [frameB_long h9] at h
  simp only [Bool.and_eq_true, decide_eq_true_eq] at h
  omega

set_option maxRecDepth 100000 in
set_option maxHeartbeats 2000000 in
/-- seal.Open. -/
theorem open_any (v : Value) (p : List UInt8) (w : World) (h : IsB w v p) :
    Calls Tryz.prog 8 #[v] w fun e w' => ∃ v', e = .returned (.tuple #[.int .i64 ((openL p).1 : Int), v', .int .i64 (openL p).2.2]) ∧ OwnB w.heap.size w' v' (openL p).2.1 ∧ Below w.heap.size w w' := by
  have H : Hid (IsB w v p) := h
  obtain ⟨a1, c1, rfl, hc1, hl1, r1⟩ := h
  cases hf : frameB p with
  | false =>
    have HS : Hid (openL p = (0, [], 2)) := openL_no hf
    have HF : Hid (∀ W, IsB W (.slice a1 p.length c1) p → Calls Tryz.prog 27 #[.slice a1 p.length c1] W fun e w' => e = .returned (.bool false) ∧ w' = W) := fun W hW => by have := isFrame_any _ p W hW; rw [hf] at this; exact this
    clear hf r1
    go_enter Tryz.func8, Tryz.ntmps8
    go_wp2_with (go_at_call 27; refine (HF.out _ H.out).mono ?_; rintro e w' ⟨rfl, hw⟩; replace hw := hw.symm; subst hw)
    go_ret3
    exact ⟨_, by rw [HS.out]; rfl, by rw [HS.out]; exact OwnB.nil0 _ _, Below.refl _ _⟩
  | true =>
    have h9 := frameB_nine hf
    obtain ⟨b1, o1, rfl, g1⟩ := r1.resolve_left (by intro e; subst e; simp at h9)
    obtain ⟨e, he⟩ : ∃ e, p.length = e + 4 := ⟨p.length - 4, by omega⟩
    have he5 : 5 ≤ e := by omega
    have HF : Hid (∀ W, IsB W (.slice (some ⟨b1, o1, none⟩) p.length c1) p → Calls Tryz.prog 27 #[.slice (some ⟨b1, o1, none⟩) p.length c1] W fun e w' => e = .returned (.bool true) ∧ w' = W) := fun W hW => by have := isFrame_any _ p W hW; rw [hf] at this; exact this
    have HHE : Hid (p.length = e + 4) := he
    rw [he] at HF H hc1 hl1 ⊢
    clear r1 g1 h9 he
    go_enter Tryz.func8, Tryz.ntmps8
    go_wp2_with (go_at_call 27; refine (HF.out _ H.out).mono ?_; rintro e w' ⟨rfl, hw⟩; replace hw := hw.symm; subst hw)
    have HW : Hid (∀ W, IsB W (.slice (some ⟨b1, o1 + e, none⟩) 4 (c1 - e)) ((p.drop e).take 4) → Calls Tryz.prog 28 #[.slice (some ⟨b1, o1 + e, none⟩) 4 (c1 - e)] W fun e' w' => e' = .returned (.int .u32 (leL ((p.drop e).take 4) : Int)) ∧ w' = W) := fun W hW => by
      have := word_any _ _ W hW (by rw [List.length_take, List.length_drop, HHE.out]; omega)
      rw [List.take_of_length_le (by rw [List.length_take]; omega)] at this
      exact this
    have HSub : Hid (∀ W, IsB W (.slice (some ⟨b1, o1, none⟩) (e + 4) c1) p → IsB W (.slice (some ⟨b1, o1 + e, none⟩) 4 (c1 - e)) ((p.drop e).take 4)) := fun W hW => by
      have h1 := hW
      rw [← HHE.out] at h1
      have h2 := h1.sub e 4 (by rw [HHE.out]; omega)
      rw [Option.map_some, Addr.add_lit] at h2
      exact h2
    have HHd : Hid (∀ W, IsB W (.slice (some ⟨b1, o1, none⟩) (e + 4) c1) p → IsB W (.slice (some ⟨b1, o1, none⟩) e c1) (p.take e)) := fun W hW => by
      have h1 := hW
      rw [← HHE.out] at h1
      exact h1.head e (by rw [HHE.out]; omega)
    have h0p : 0 < p.length := by rw [HHE.out]; omega
    have HY : Hid (leL ((p.drop e).take 4) = sumL (p.take e) → openL p = (p[0].toNat, (p.drop 5).take (e - 5), 0)) := fun hq => by rw [← List.drop_take]; exact openL_yes hf HHE.out hq h0p
    have HN : Hid (leL ((p.drop e).take 4) ≠ sumL (p.take e) → openL p = (0, [], 9)) := fun hq => openL_sum hf HHE.out hq
    have HC : Hid (∀ W, IsB W (.slice (some ⟨b1, o1, none⟩) (e + 4) c1) p → W.cell? ⟨b1, o1, none⟩ = some (.int .u8 (p[0].toNat : Int))) := fun W hW => by
      obtain ⟨a, c, e1, _, _, r⟩ := hW
      obtain ⟨b, o, e2, g⟩ := r.resolve_left (by intro e; rw [e] at h0p; simp at h0p)
      rw [e2] at e1
      injection e1 with h1 _ _
      injection h1 with h1
      injection h1 with hb ho _
      subst hb ho
      have := g 0 h0p
      rwa [Nat.add_zero] at this
    have HS5 : Hid (∀ W, IsB W (.slice (some ⟨b1, o1, none⟩) (e + 4) c1) p → IsB W (.slice (some ⟨b1, o1 + 5, none⟩) (e - 5) (c1 - 5)) ((p.drop 5).take (e - 5))) := fun W hW => by
      have h1 := hW
      rw [← HHE.out] at h1
      have h2 := h1.sub 5 (e - 5) (by rw [HHE.out]; omega)
      rw [Option.map_some, Addr.add_lit] at h2
      exact h2
    have HL5 : Hid (([] : List UInt8).length + ((p.drop 5).take (e - 5)).length ≤ 140737488355328) := by have := frameB_most hf; rw [HHE.out] at this; show _ ≤ _; rw [List.length_take, List.length_drop, HHE.out]; simp; omega
    have hk0 := UInt8.toNat_lt p[0]
    generalize p[0].toNat = k at *
    have hwr : IntKind.i64.wrap (k : Int) = (k : Int) := by rw [IntKind.wrap_i64]; omega
    have hce : c1 ≠ e := by omega
    have hle1 : (e : Int) ≤ (e : Int) + 4 := by omega
    have hle2 : (e : Int) ≤ (c1 : Int) := by omega
    have hle6 : (0 : Int) < (e : Int) + 4 := by omega
    have hle5 : (5 : Int) ≤ (e : Int) := by omega
    have hce5 : c1 ≠ 5 := by omega
    have hle3 : (0 : Int) ≤ (e : Int) := by omega
    clear hf h0p
    refine wp_region_held_drew (S := fun W' => IsB W' (.slice (some ⟨b1, o1, none⟩) (e + 4) c1) p ∧ Below w.heap.size w W') (by kernel_rfl) ⟨H.out.below ((Below.refl _ _).drew), (Below.refl _ _).drew⟩ (fun hHeld => ?_)
    refine wpAnyH_take (i := 0) (oi := ⟨some 12, _, _, _, _, _⟩) (v := ?vax0) rfl (by kernel_rfl) (by kernel_rfl) (by kernel_rfl) (fun _ _ _ h => h) (Or.inl ⟨by rfl, ?hyax0⟩) hHeld ?restax0
    case hyax0 => (intro w hSw; (try dsimp only at hSw); go_simp; try with_reducible rfl)
    simp only [Act.put, List.setIfInBounds_toArray, List.set_cons_zero, List.set_cons_succ]
    refine wpAnyH_take (i := 1) (oi := ⟨some 13, _, _, _, _, _⟩) (v := ?vax1) rfl (by kernel_rfl) (by kernel_rfl) (by kernel_rfl) (fun _ _ _ h => h) (Or.inl ⟨by rfl, ?hyax1⟩) hHeld ?restax1
    case hyax1 => (intro w hSw; (try dsimp only at hSw); go_simp; try with_reducible rfl)
    simp only [Act.put, List.setIfInBounds_toArray, List.set_cons_zero, List.set_cons_succ]
    refine wpAnyH_take (i := 2) (oi := ⟨some 14, _, _, _, _, _⟩) (v := ?vax2) rfl (by kernel_rfl) (by kernel_rfl) (by kernel_rfl) (fun _ _ _ h => h) (Or.inl ⟨by rfl, ?hyax2⟩) hHeld ?restax2
    case hyax2 => (intro w hSw; (try dsimp only at hSw); go_simp; try with_reducible rfl)
    simp only [Act.put, List.setIfInBounds_toArray, List.set_cons_zero, List.set_cons_succ]
    refine wpAnyH_take (i := 4) (oi := ⟨some 16, _, _, _, _, _⟩) (v := ?vax4) rfl (by kernel_rfl) (by kernel_rfl) (by kernel_rfl) (fun _ _ _ h => h) (Or.inl ⟨by rfl, ?hyax4⟩) hHeld ?restax4
    case hyax4 => (intro w hSw; (try dsimp only at hSw); go_simp; try with_reducible rfl)
    simp only [Act.put, List.setIfInBounds_toArray, List.set_cons_zero, List.set_cons_succ]
    refine wpAnyH_take (i := 5) (oi := ⟨some 17, _, _, _, _, _⟩) (v := ?vax5) rfl (by kernel_rfl) (by kernel_rfl) (by kernel_rfl) (fun _ _ _ h => h) (Or.inl ⟨by rfl, ?hyax5⟩) hHeld ?restax5
    case hyax5 => (intro w hSw; (try dsimp only at hSw); go_simp; try with_reducible rfl)
    simp only [Act.put, List.setIfInBounds_toArray, List.set_cons_zero, List.set_cons_succ]
    refine wpAnyH_take (i := 6) (oi := ⟨some 18, _, _, _, _, _⟩) (v := ?vax6) rfl (by kernel_rfl) (by kernel_rfl) (by kernel_rfl) (fun _ _ _ h => h) (Or.inl ⟨by rfl, ?hyax6⟩) hHeld ?restax6
    case hyax6 => (intro w hSw; (try dsimp only at hSw); go_simp; try with_reducible rfl)
    simp only [Act.put, List.setIfInBounds_toArray, List.set_cons_zero, List.set_cons_succ]
    refine wpAnyH_ready (rs := [3, 7]) (by kernel_rfl) (by simp) ?_
    refine AllReadyH.cons (o := ⟨some 15, _, _, _, _, _⟩) rfl (fun K hK => ?_) (AllReadyH.cons (o := ⟨some 19, _, _, _, _, _⟩) rfl (fun K hK => ?_) AllReadyH.nil)
    · go_simp
      refine (HW.out _ (HSub.out _ hHeld.1)).mono ?_
      rintro e' w' ⟨rfl, hw⟩; replace hw := hw.symm; subst hw
      (try go_wp2_with fail)
      refine hK.out _ _ (hHeld) (fun hHeld2 => ?_)
      clear hK K hHeld
      have hHeld := hHeld2
      clear hHeld2
      (try simp only [Act.put, List.setIfInBounds_toArray, List.set_cons_zero, List.set_cons_succ])
      refine wpAnyH_ready (rs := [7]) (by kernel_rfl) (by simp) ?_
      refine AllReadyH.cons (o := ⟨some 19, _, _, _, _, _⟩) rfl (fun K hK => ?_) AllReadyH.nil
      go_simp
      have hPrev := hHeld
      refine hK.out _ _ (⟨hPrev.1.below ((Below.refl _ _).alloc (Nat.le_refl _) _), hPrev.2.alloc hPrev.2.size _⟩) (fun hHeld2 => ?_)
      clear hK K hHeld
      have hHeld := hHeld2
      clear hHeld2
      (try simp only [Act.put, List.setIfInBounds_toArray, List.set_cons_zero, List.set_cons_succ])
      refine wpAnyH_ready (rs := [8]) (by kernel_rfl) (by simp) ?_
      refine AllReadyH.cons (o := ⟨some 20, _, _, _, _, _⟩) rfl (fun K hK => ?_) AllReadyH.nil
      go_simp
      refine (sum_any _ [p.take e] _ (IsBB.one (HHd.out _ hPrev.1) _)).mono ?_
      rintro e' w' ⟨rfl, hw⟩; replace hw := hw.symm; subst hw; rw [List.flatten_cons, List.flatten_nil, List.append_nil]
      (try go_wp2_with fail)
      refine hK.out _ _ (hHeld) (fun hHeld2 => ?_)
      clear hK K hHeld
      have hHeld := hHeld2
      clear hHeld2
      (try simp only [Act.put, List.setIfInBounds_toArray, List.set_cons_zero, List.set_cons_succ])
      refine wpAnyH_take (i := 9) (oi := ⟨some 21, _, _, _, _, _⟩) (v := ?va_3_7_8x9) rfl (by kernel_rfl) (by kernel_rfl) (by kernel_rfl) (fun _ _ _ h => h) (Or.inl ⟨by rfl, ?hya_3_7_8x9⟩) hHeld ?resta_3_7_8x9
      case hya_3_7_8x9 => (intro w hSw; (try dsimp only at hSw); go_simp; try with_reducible rfl)
      simp only [Act.put, List.setIfInBounds_toArray, List.set_cons_zero, List.set_cons_succ]
      refine wpAnyH_done (by kernel_rfl) ?_ _
      have HBn : Hid (Below w.heap.size w ((w.alloc (.cells #[.slice (some ⟨b1, o1, none⟩) e c1] 22)).drew)) := hHeld.2
      have HIn : Hid (IsB ((w.alloc (.cells #[.slice (some ⟨b1, o1, none⟩) e c1] 22)).drew) (.slice (some ⟨b1, o1, none⟩) (e + 4) c1) p) := hHeld.1
      clear hHeld hPrev
      by_cases hq : leL ((p.drop e).take 4) = sumL (p.take e)
      · have qq : ((leL ((p.drop e).take 4) : Int) != (sumL (p.take e) : Int)) = false := by rw [hq]; simp
        have HS : Hid (openL p = (k, (p.drop 5).take (e - 5), 0)) := HY.out hq
        clear hq
        go_wp2
        refine wp_region_held_drew (S := fun W' => W'.cell? ⟨b1, o1, none⟩ = some (.int .u8 (k : Int)) ∧ IsB W' (.slice (some ⟨b1, o1, none⟩) (e + 4) c1) p ∧ Below w.heap.size w W') (by kernel_rfl) ⟨HC.out _ (HIn.out.below (Below.refl _ _).drew), HIn.out.below (Below.refl _ _).drew, HBn.out.drew⟩ (fun hHeld => ?_)
        refine wpAnyH_take (i := 0) (oi := ⟨some 22, _, _, _, _, _⟩) (v := ?vb3_7_8x0) rfl (by kernel_rfl) (by kernel_rfl) (by kernel_rfl) (fun _ _ _ h => h) (Or.inl ⟨by rfl, ?hyb3_7_8x0⟩) hHeld ?restb3_7_8x0
        case hyb3_7_8x0 => (intro w hSw; (try dsimp only at hSw); go_simp; try with_reducible rfl)
        simp only [Act.put, List.setIfInBounds_toArray, List.set_cons_zero, List.set_cons_succ]
        refine wpAnyH_take (i := 1) (oi := ⟨some 23, _, _, _, _, _⟩) (v := ?vb3_7_8x1) rfl (by kernel_rfl) (by kernel_rfl) (by kernel_rfl) (fun _ _ _ h => h) (Or.inl ⟨by rfl, ?hyb3_7_8x1⟩) hHeld ?restb3_7_8x1
        case hyb3_7_8x1 => (intro w hSw; (try dsimp only at hSw); go_simp; try with_reducible rfl)
        simp only [Act.put, List.setIfInBounds_toArray, List.set_cons_zero, List.set_cons_succ]
        refine wpAnyH_take (i := 2) (oi := ⟨some 24, _, _, _, _, _⟩) (v := ?vb3_7_8x2) rfl (by kernel_rfl) (by kernel_rfl) (by kernel_rfl) (fun _ _ _ h => h) (Or.inl ⟨by rfl, ?hyb3_7_8x2⟩) hHeld ?restb3_7_8x2
        case hyb3_7_8x2 => (intro w hSw; (try dsimp only at hSw); go_simp; try with_reducible rfl)
        simp only [Act.put, List.setIfInBounds_toArray, List.set_cons_zero, List.set_cons_succ]
        refine wpAnyH_take (i := 3) (oi := ⟨some 25, _, _, _, _, _⟩) (v := ?vb3_7_8x3) rfl (by kernel_rfl) (by kernel_rfl) (by kernel_rfl) (fun _ _ _ h => h) (Or.inl ⟨by rfl, ?hyb3_7_8x3⟩) hHeld ?restb3_7_8x3
        case hyb3_7_8x3 => (intro w hSw; (try dsimp only at hSw); go_simp; try with_reducible rfl)
        simp only [Act.put, List.setIfInBounds_toArray, List.set_cons_zero, List.set_cons_succ]
        refine wpAnyH_take (i := 4) (oi := ⟨some 26, _, _, _, _, _⟩) (v := ?vb3_7_8x4) rfl (by kernel_rfl) (by kernel_rfl) (by kernel_rfl) (fun _ _ _ h => h) (Or.inl ⟨by rfl, ?hyb3_7_8x4⟩) hHeld ?restb3_7_8x4
        case hyb3_7_8x4 => (intro w hSw; (try dsimp only at hSw); go_simp; try with_reducible rfl)
        simp only [Act.put, List.setIfInBounds_toArray, List.set_cons_zero, List.set_cons_succ]
        refine wpAnyH_take (i := 5) (oi := ⟨some 27, _, _, _, _, _⟩) (v := ?vb3_7_8x5) rfl (by kernel_rfl) (by kernel_rfl) (by kernel_rfl) (fun _ _ _ h => h) (Or.inl ⟨by rfl, ?hyb3_7_8x5⟩) hHeld ?restb3_7_8x5
        case hyb3_7_8x5 => (intro w hSw; (try dsimp only at hSw); go_simp; try with_reducible rfl)
        simp only [Act.put, List.setIfInBounds_toArray, List.set_cons_zero, List.set_cons_succ]
        refine wpAnyH_take (i := 6) (oi := ⟨some 28, _, _, _, _, _⟩) (v := ?vb3_7_8x6) rfl (by kernel_rfl) (by kernel_rfl) (by kernel_rfl) (fun _ _ _ h => h) (Or.inl ⟨by rfl, ?hyb3_7_8x6⟩) hHeld ?restb3_7_8x6
        case hyb3_7_8x6 => (intro w hSw; (try dsimp only at hSw); go_simp; try with_reducible rfl)
        simp only [Act.put, List.setIfInBounds_toArray, List.set_cons_zero, List.set_cons_succ]
        refine wpAnyH_ready (rs := [7]) (by kernel_rfl) (by simp) ?_
        refine AllReadyH.cons (o := ⟨some 29, _, _, _, _, _⟩) rfl (fun K hK => ?_) AllReadyH.nil
        refine step_appS (by rfl) _ _ (by rfl) w.heap.size (.slice none 0 0) [] (by rfl) (OwnB.nil0 _ _) hHeld.2.2.size ⟨b1, o1 + 5, none⟩ (e - 5) (c1 - 5) ((p.drop 5).take (e - 5)) (by rfl) (HS5.out _ hHeld.2.1) (HL5.out) ?_
        intro v7 w7 ho7 hg7
        refine hK.out _ _ (⟨HC.out _ (hHeld.2.1.below ((Below.refl _ _).grown hg7 (Nat.le_refl _) (fun j e => by cases e))), hHeld.2.1.below ((Below.refl _ _).grown hg7 (Nat.le_refl _) (fun j e => by cases e)), hHeld.2.2.grown hg7 hHeld.2.2.size (fun j e => by cases e)⟩) (fun hHeld2 => ?_)
        clear hK K hHeld
        have hHeld := hHeld2
        clear hHeld2
        (try simp only [Act.put, List.setIfInBounds_toArray, List.set_cons_zero, List.set_cons_succ])
        refine wpAnyH_take (i := 8) (oi := ⟨some 2, _, _, _, _, _⟩) (v := ?vb3_7_8_7x8) rfl (by kernel_rfl) (by kernel_rfl) (by kernel_rfl) (fun _ _ _ h => h) (Or.inl ⟨by rfl, ?hyb3_7_8_7x8⟩) hHeld ?restb3_7_8_7x8
        case hyb3_7_8_7x8 => (intro w hSw; (try dsimp only at hSw); go_simp; try with_reducible rfl)
        simp only [Act.put, List.setIfInBounds_toArray, List.set_cons_zero, List.set_cons_succ]
        refine wpAnyH_take (i := 9) (oi := ⟨some 3, _, _, _, _, _⟩) (v := ?vb3_7_8_7x9) rfl (by kernel_rfl) (by kernel_rfl) (by kernel_rfl) (fun _ _ _ h => h) (Or.inl ⟨by rfl, ?hyb3_7_8_7x9⟩) hHeld ?restb3_7_8_7x9
        case hyb3_7_8_7x9 => (intro w hSw; (try dsimp only at hSw); go_simp; try with_reducible rfl)
        simp only [Act.put, List.setIfInBounds_toArray, List.set_cons_zero, List.set_cons_succ]
        refine wpAnyH_take (i := 10) (oi := ⟨some 4, _, _, _, _, _⟩) (v := ?vb3_7_8_7x10) rfl (by kernel_rfl) (by kernel_rfl) (by kernel_rfl) (fun _ _ _ h => h) (Or.inl ⟨by rfl, ?hyb3_7_8_7x10⟩) hHeld ?restb3_7_8_7x10
        case hyb3_7_8_7x10 => (intro w hSw; (try dsimp only at hSw); go_simp; try with_reducible rfl)
        simp only [Act.put, List.setIfInBounds_toArray, List.set_cons_zero, List.set_cons_succ]
        refine wpAnyH_done (by kernel_rfl) ?_ _
        have HBn : Hid (Below w.heap.size w w7) := hHeld.2.2
        have HOn : Hid (OwnB w.heap.size w7 v7 ((p.drop 5).take (e - 5))) := ho7
        clear hHeld ho7 hg7
        go_wp2
        go_ret3
        exact ⟨v7, by rw [HS.out]; rfl, by rw [HS.out]; exact HOn.out, HBn.out⟩
      · have qq : ((leL ((p.drop e).take 4) : Int) != (sumL (p.take e) : Int)) = true := by simp; omega
        have HS : Hid (openL p = (0, [], 9)) := HN.out hq
        clear hq
        go_wp2
        go_ret3
        exact ⟨_, by rw [HS.out]; rfl, by rw [HS.out]; exact OwnB.nil0 _ _, HBn.out⟩
    · go_simp
      have hPrev := hHeld
      refine hK.out _ _ (⟨hPrev.1.below ((Below.refl _ _).alloc (Nat.le_refl _) _), hPrev.2.alloc hPrev.2.size _⟩) (fun hHeld2 => ?_)
      clear hK K hHeld
      have hHeld := hHeld2
      clear hHeld2
      (try simp only [Act.put, List.setIfInBounds_toArray, List.set_cons_zero, List.set_cons_succ])
      refine wpAnyH_ready (rs := [3]) (by kernel_rfl) (by simp) ?_
      refine AllReadyH.cons (o := ⟨some 15, _, _, _, _, _⟩) rfl (fun K hK => ?_) AllReadyH.nil
      go_simp
      refine (HW.out _ (HSub.out _ hHeld.1)).mono ?_
      rintro e' w' ⟨rfl, hw⟩; replace hw := hw.symm; subst hw
      (try go_wp2_with fail)
      refine hK.out _ _ (hHeld) (fun hHeld2 => ?_)
      clear hK K hHeld
      have hHeld := hHeld2
      clear hHeld2
      (try simp only [Act.put, List.setIfInBounds_toArray, List.set_cons_zero, List.set_cons_succ])
      refine wpAnyH_ready (rs := [8]) (by kernel_rfl) (by simp) ?_
      refine AllReadyH.cons (o := ⟨some 20, _, _, _, _, _⟩) rfl (fun K hK => ?_) AllReadyH.nil
      go_simp
      refine (sum_any _ [p.take e] _ (IsBB.one (HHd.out _ hPrev.1) _)).mono ?_
      rintro e' w' ⟨rfl, hw⟩; replace hw := hw.symm; subst hw; rw [List.flatten_cons, List.flatten_nil, List.append_nil]
      (try go_wp2_with fail)
      refine hK.out _ _ (hHeld) (fun hHeld2 => ?_)
      clear hK K hHeld
      have hHeld := hHeld2
      clear hHeld2
      (try simp only [Act.put, List.setIfInBounds_toArray, List.set_cons_zero, List.set_cons_succ])
      refine wpAnyH_take (i := 9) (oi := ⟨some 21, _, _, _, _, _⟩) (v := ?va_7_3_8x9) rfl (by kernel_rfl) (by kernel_rfl) (by kernel_rfl) (fun _ _ _ h => h) (Or.inl ⟨by rfl, ?hya_7_3_8x9⟩) hHeld ?resta_7_3_8x9
      case hya_7_3_8x9 => (intro w hSw; (try dsimp only at hSw); go_simp; try with_reducible rfl)
      simp only [Act.put, List.setIfInBounds_toArray, List.set_cons_zero, List.set_cons_succ]
      refine wpAnyH_done (by kernel_rfl) ?_ _
      have HBn : Hid (Below w.heap.size w ((w.alloc (.cells #[.slice (some ⟨b1, o1, none⟩) e c1] 22)).drew)) := hHeld.2
      have HIn : Hid (IsB ((w.alloc (.cells #[.slice (some ⟨b1, o1, none⟩) e c1] 22)).drew) (.slice (some ⟨b1, o1, none⟩) (e + 4) c1) p) := hHeld.1
      clear hHeld hPrev
      by_cases hq : leL ((p.drop e).take 4) = sumL (p.take e)
      · have qq : ((leL ((p.drop e).take 4) : Int) != (sumL (p.take e) : Int)) = false := by rw [hq]; simp
        have HS : Hid (openL p = (k, (p.drop 5).take (e - 5), 0)) := HY.out hq
        clear hq
        go_wp2
        refine wp_region_held_drew (S := fun W' => W'.cell? ⟨b1, o1, none⟩ = some (.int .u8 (k : Int)) ∧ IsB W' (.slice (some ⟨b1, o1, none⟩) (e + 4) c1) p ∧ Below w.heap.size w W') (by kernel_rfl) ⟨HC.out _ (HIn.out.below (Below.refl _ _).drew), HIn.out.below (Below.refl _ _).drew, HBn.out.drew⟩ (fun hHeld => ?_)
        refine wpAnyH_take (i := 0) (oi := ⟨some 22, _, _, _, _, _⟩) (v := ?vb7_3_8x0) rfl (by kernel_rfl) (by kernel_rfl) (by kernel_rfl) (fun _ _ _ h => h) (Or.inl ⟨by rfl, ?hyb7_3_8x0⟩) hHeld ?restb7_3_8x0
        case hyb7_3_8x0 => (intro w hSw; (try dsimp only at hSw); go_simp; try with_reducible rfl)
        simp only [Act.put, List.setIfInBounds_toArray, List.set_cons_zero, List.set_cons_succ]
        refine wpAnyH_take (i := 1) (oi := ⟨some 23, _, _, _, _, _⟩) (v := ?vb7_3_8x1) rfl (by kernel_rfl) (by kernel_rfl) (by kernel_rfl) (fun _ _ _ h => h) (Or.inl ⟨by rfl, ?hyb7_3_8x1⟩) hHeld ?restb7_3_8x1
        case hyb7_3_8x1 => (intro w hSw; (try dsimp only at hSw); go_simp; try with_reducible rfl)
        simp only [Act.put, List.setIfInBounds_toArray, List.set_cons_zero, List.set_cons_succ]
        refine wpAnyH_take (i := 2) (oi := ⟨some 24, _, _, _, _, _⟩) (v := ?vb7_3_8x2) rfl (by kernel_rfl) (by kernel_rfl) (by kernel_rfl) (fun _ _ _ h => h) (Or.inl ⟨by rfl, ?hyb7_3_8x2⟩) hHeld ?restb7_3_8x2
        case hyb7_3_8x2 => (intro w hSw; (try dsimp only at hSw); go_simp; try with_reducible rfl)
        simp only [Act.put, List.setIfInBounds_toArray, List.set_cons_zero, List.set_cons_succ]
        refine wpAnyH_take (i := 3) (oi := ⟨some 25, _, _, _, _, _⟩) (v := ?vb7_3_8x3) rfl (by kernel_rfl) (by kernel_rfl) (by kernel_rfl) (fun _ _ _ h => h) (Or.inl ⟨by rfl, ?hyb7_3_8x3⟩) hHeld ?restb7_3_8x3
        case hyb7_3_8x3 => (intro w hSw; (try dsimp only at hSw); go_simp; try with_reducible rfl)
        simp only [Act.put, List.setIfInBounds_toArray, List.set_cons_zero, List.set_cons_succ]
        refine wpAnyH_take (i := 4) (oi := ⟨some 26, _, _, _, _, _⟩) (v := ?vb7_3_8x4) rfl (by kernel_rfl) (by kernel_rfl) (by kernel_rfl) (fun _ _ _ h => h) (Or.inl ⟨by rfl, ?hyb7_3_8x4⟩) hHeld ?restb7_3_8x4
        case hyb7_3_8x4 => (intro w hSw; (try dsimp only at hSw); go_simp; try with_reducible rfl)
        simp only [Act.put, List.setIfInBounds_toArray, List.set_cons_zero, List.set_cons_succ]
        refine wpAnyH_take (i := 5) (oi := ⟨some 27, _, _, _, _, _⟩) (v := ?vb7_3_8x5) rfl (by kernel_rfl) (by kernel_rfl) (by kernel_rfl) (fun _ _ _ h => h) (Or.inl ⟨by rfl, ?hyb7_3_8x5⟩) hHeld ?restb7_3_8x5
        case hyb7_3_8x5 => (intro w hSw; (try dsimp only at hSw); go_simp; try with_reducible rfl)
        simp only [Act.put, List.setIfInBounds_toArray, List.set_cons_zero, List.set_cons_succ]
        refine wpAnyH_take (i := 6) (oi := ⟨some 28, _, _, _, _, _⟩) (v := ?vb7_3_8x6) rfl (by kernel_rfl) (by kernel_rfl) (by kernel_rfl) (fun _ _ _ h => h) (Or.inl ⟨by rfl, ?hyb7_3_8x6⟩) hHeld ?restb7_3_8x6
        case hyb7_3_8x6 => (intro w hSw; (try dsimp only at hSw); go_simp; try with_reducible rfl)
        simp only [Act.put, List.setIfInBounds_toArray, List.set_cons_zero, List.set_cons_succ]
        refine wpAnyH_ready (rs := [7]) (by kernel_rfl) (by simp) ?_
        refine AllReadyH.cons (o := ⟨some 29, _, _, _, _, _⟩) rfl (fun K hK => ?_) AllReadyH.nil
        refine step_appS (by rfl) _ _ (by rfl) w.heap.size (.slice none 0 0) [] (by rfl) (OwnB.nil0 _ _) hHeld.2.2.size ⟨b1, o1 + 5, none⟩ (e - 5) (c1 - 5) ((p.drop 5).take (e - 5)) (by rfl) (HS5.out _ hHeld.2.1) (HL5.out) ?_
        intro v7 w7 ho7 hg7
        refine hK.out _ _ (⟨HC.out _ (hHeld.2.1.below ((Below.refl _ _).grown hg7 (Nat.le_refl _) (fun j e => by cases e))), hHeld.2.1.below ((Below.refl _ _).grown hg7 (Nat.le_refl _) (fun j e => by cases e)), hHeld.2.2.grown hg7 hHeld.2.2.size (fun j e => by cases e)⟩) (fun hHeld2 => ?_)
        clear hK K hHeld
        have hHeld := hHeld2
        clear hHeld2
        (try simp only [Act.put, List.setIfInBounds_toArray, List.set_cons_zero, List.set_cons_succ])
        refine wpAnyH_take (i := 8) (oi := ⟨some 2, _, _, _, _, _⟩) (v := ?vb7_3_8_7x8) rfl (by kernel_rfl) (by kernel_rfl) (by kernel_rfl) (fun _ _ _ h => h) (Or.inl ⟨by rfl, ?hyb7_3_8_7x8⟩) hHeld ?restb7_3_8_7x8
        case hyb7_3_8_7x8 => (intro w hSw; (try dsimp only at hSw); go_simp; try with_reducible rfl)
        simp only [Act.put, List.setIfInBounds_toArray, List.set_cons_zero, List.set_cons_succ]
        refine wpAnyH_take (i := 9) (oi := ⟨some 3, _, _, _, _, _⟩) (v := ?vb7_3_8_7x9) rfl (by kernel_rfl) (by kernel_rfl) (by kernel_rfl) (fun _ _ _ h => h) (Or.inl ⟨by rfl, ?hyb7_3_8_7x9⟩) hHeld ?restb7_3_8_7x9
        case hyb7_3_8_7x9 => (intro w hSw; (try dsimp only at hSw); go_simp; try with_reducible rfl)
        simp only [Act.put, List.setIfInBounds_toArray, List.set_cons_zero, List.set_cons_succ]
        refine wpAnyH_take (i := 10) (oi := ⟨some 4, _, _, _, _, _⟩) (v := ?vb7_3_8_7x10) rfl (by kernel_rfl) (by kernel_rfl) (by kernel_rfl) (fun _ _ _ h => h) (Or.inl ⟨by rfl, ?hyb7_3_8_7x10⟩) hHeld ?restb7_3_8_7x10
        case hyb7_3_8_7x10 => (intro w hSw; (try dsimp only at hSw); go_simp; try with_reducible rfl)
        simp only [Act.put, List.setIfInBounds_toArray, List.set_cons_zero, List.set_cons_succ]
        refine wpAnyH_done (by kernel_rfl) ?_ _
        have HBn : Hid (Below w.heap.size w w7) := hHeld.2.2
        have HOn : Hid (OwnB w.heap.size w7 v7 ((p.drop 5).take (e - 5))) := ho7
        clear hHeld ho7 hg7
        go_wp2
        go_ret3
        exact ⟨v7, by rw [HS.out]; rfl, by rw [HS.out]; exact HOn.out, HBn.out⟩
      · have qq : ((leL ((p.drop e).take 4) : Int) != (sumL (p.take e) : Int)) = true := by simp; omega
        have HS : Hid (openL p = (0, [], 9)) := HN.out hq
        clear hq
        go_wp2
        go_ret3
        exact ⟨_, by rw [HS.out]; rfl, by rw [HS.out]; exact OwnB.nil0 _ _, HBn.out⟩

end Go.Proofs.YtlioiblpcpaejaaGreat

namespace Go.Proofs.YtlioiblpcpaejaaGreat
set_option linter.unusedVariables false

theorem frameL_take (k : Nat) (load : List UInt8) : (frameL k load).take (load.length + 5) = headL k load := by
  unfold frameL
  rw [List.take_append_of_le_length (by rw [headL_length]; omega), List.take_of_length_le (by rw [headL_length]; omega)]
theorem frameL_drop (k : Nat) (load : List UInt8) : (frameL k load).drop (load.length + 5) = fourL (sumL (headL k load)) := by
  unfold frameL
  rw [List.drop_append_of_le_length (by rw [headL_length]; omega), List.drop_of_length_le (by rw [headL_length]; omega)]
  rfl
theorem headL_drop (k : Nat) (load : List UInt8) : (headL k load).drop 5 = load := by simp [headL, fourL]
theorem frameL_zero (k : Nat) (load : List UInt8) (h : 0 < (frameL k load).length) : (frameL k load)[0] = UInt8.ofNat k := rfl
theorem frameL_size (k : Nat) (load : List UInt8) : ((frameL k load).drop 1).take 4 = fourL load.length := by
  simp [frameL, headL, fourL]
theorem frameB_frame {k : Nat} {load : List UInt8} (h1 : 1 ≤ k) (h2 : k ≤ 15) (h3 : load.length ≤ 65536) : frameB (frameL k load) = true := by
  have hl := frameL_length k load
  rw [frameB_long (by omega), frameL_zero, frameL_size, leL_fourL (by omega), toNat_of (by omega), hl]
  simp [h1, h2, h3]
theorem open_seal {k : Nat} {load : List UInt8} (h1 : 1 ≤ k) (h2 : k ≤ 15) (h3 : load.length ≤ 65536) : openL (frameL k load) = (k, load, 0) := by
  have hl := frameL_length k load
  have := openL_yes (p := frameL k load) (e := load.length + 5) (frameB_frame h1 h2 h3) (by omega) (by
    rw [frameL_take, frameL_drop, List.take_of_length_le (by simp [fourL]), leL_fourL (sumL_lt _)]) (by omega)
  rw [this, frameL_zero, frameL_take, headL_drop, toNat_of (by omega)]
theorem openL_err (p : List UInt8) : ((openL p).2.2 = 0) ∨ (openL p = (0, [], 2)) ∨ (openL p = (0, [], 9)) := by
  unfold openL
  split
  · split
    · exact .inl rfl
    · exact .inr (.inr rfl)
  · exact .inr (.inl rfl)
theorem seal_open {p : List UInt8} (h : (openL p).2.2 = 0) : 1 ≤ (openL p).1 ∧ (openL p).1 ≤ 15 ∧ (openL p).2.1.length ≤ 65536 ∧ frameL (openL p).1 (openL p).2.1 = p ∧ openL p = ((openL p).1, (openL p).2.1, 0) ∧ frameB p = true ∧ leL (p.drop (p.length - 4)) = sumL (p.take (p.length - 4)) := by
  have hf : frameB p = true := by
    cases hf : frameB p with
    | true => rfl
    | false => rw [openL_no hf] at h; cases h
  have h9 := frameB_nine hf
  obtain ⟨e, he⟩ : ∃ e, p.length = e + 4 := ⟨p.length - 4, by omega⟩
  by_cases hq : leL ((p.drop e).take 4) = sumL (p.take e)
  · have ho := openL_yes hf he hq (by omega)
    have hb := hf
    rw [frameB_long h9] at hb
    simp only [Bool.and_eq_true, decide_eq_true_eq] at hb
    obtain ⟨⟨q1, q2⟩, q3, q4⟩ := hb
    have hlen : ((p.take e).drop 5).length = leL ((p.drop 1).take 4) := by
      rw [List.length_drop, List.length_take]; omega
    have hq' := hq
    rw [List.take_of_length_le (by rw [List.length_drop]; omega)] at hq'
    rw [ho]
    refine ⟨q1, q2, by rw [hlen]; exact q3, ?_, rfl, hf, by rw [he, Nat.add_sub_cancel]; exact hq'⟩
    have hh : headL p[0].toNat ((p.take e).drop 5) = p.take e := by
      unfold headL
      rw [hlen, fourL_leL (by rw [List.length_take, List.length_drop]; omega)]
      have e1 : UInt8.ofNat p[0].toNat = p[0] := by simp
      rw [e1]
      have e2 : p.take e = p[0] :: ((p.drop 1).take 4 ++ (p.take e).drop 5) := by
        cases p with
        | nil => simp at h9
        | cons x t =>
          obtain ⟨e', rfl⟩ : ∃ e', e = e' + 1 := ⟨e - 1, by simp at he h9; omega⟩
          simp only [List.take_succ_cons, List.drop_succ_cons, List.drop_zero, List.getElem_cons_zero]
          congr 1
          conv => lhs; rw [← List.take_append_drop 4 (t.take e')]
          rw [List.take_take, Nat.min_eq_left (by simp at he h9; omega)]
      conv => rhs; rw [e2]
      rfl
    show frameL p[0].toNat ((p.take e).drop 5) = p
    unfold frameL
    rw [hh, ← hq', fourL_leL (by rw [List.length_drop]; omega), List.take_append_drop]
  · rw [openL_sum hf he hq] at h; cases h

/-- What the register is once a whole frame has gone through it. -/
theorem fold_frame {p : List UInt8} {e : Nat} (he : p.length = e + 4) (h : leL (p.drop e) = sumL (p.take e)) : stpN (8 * p.length) (4294967295 ^^^ leL p) = stpN 32 4294967295 := by
  rw [← foldR_leL]
  conv => lhs; rw [← List.take_append_drop e p]
  rw [foldR_append, foldR_leL _ (p.drop e), h, List.length_drop, he, Nat.add_sub_cancel_left]
  unfold sumL
  rw [← Nat.xor_assoc, Nat.xor_self, Nat.zero_xor]
theorem xor_cancel {a b c : Nat} (h : a ^^^ b = a ^^^ c) : b = c := by
  have := congrArg (fun x => a ^^^ x) h
  simpa only [← Nat.xor_assoc, Nat.xor_self, Nat.zero_xor] using this
/-- Bits of a stretch of 32, turned: the register tells. -/
theorem burst {p q : List UInt8} {m at_ : Nat} (hl : q.length = p.length) (hq : leL q = leL p ^^^ (2 ^ at_ * m)) (hm : m < 4294967296) (h0 : m ≠ 0) (hat : at_ ≤ 8 * p.length)
    (h1 : stpN (8 * p.length) (4294967295 ^^^ leL p) = stpN 32 4294967295) (h2 : stpN (8 * q.length) (4294967295 ^^^ leL q) = stpN 32 4294967295) : False := by
  rw [hl, hq, ← Nat.xor_assoc, stpN_xor, h1] at h2
  have h3 : stpN (8 * p.length) (2 ^ at_ * m) = 0 := xor_cancel (a := stpN 32 4294967295) (by rw [h2, Nat.xor_zero])
  obtain ⟨n, hn⟩ : ∃ n, 8 * p.length = at_ + n := ⟨8 * p.length - at_, by omega⟩
  rw [hn, stpN_add, stpN_shl] at h3
  exact h0 (stpN_zero n hm h3)
/-- The bits that a mask turns, as far as there are bits. -/
def turnL (mask lim : Nat) : Nat → Nat
  | 0 => 0
  | k + 1 => if mask / 2 ^ k % 2 = 1 ∧ k < lim then turnL mask lim k + 2 ^ k else turnL mask lim k
theorem turnL_lt (mask lim k : Nat) : turnL mask lim k < 2 ^ k := by
  induction k with
  | zero => simp [turnL]
  | succ k ih =>
    unfold turnL
    rw [Nat.pow_succ]
    split <;> omega
theorem add_pow_xor {a k : Nat} (h : a < 2 ^ k) : a + 2 ^ k = a ^^^ 2 ^ k := by
  apply Nat.eq_of_testBit_eq
  intro j
  have h1 := Nat.testBit_two_pow_mul_add 1 (b := a) (i := k) h j
  rw [Nat.mul_one] at h1
  rw [Nat.testBit_xor, Nat.testBit_two_pow, Nat.add_comm, h1]
  by_cases hj : j < k
  · rw [if_pos hj]
    simp [show ¬ k = j by omega]
  · rw [if_neg hj]
    have : a.testBit j = false := Nat.testBit_lt_two_pow (Nat.lt_of_lt_of_le h (Nat.pow_le_pow_right (by decide) (by omega)))
    rw [this]
    by_cases he : k = j
    · simp [he]
    · have : Nat.testBit 1 (j - k) = false := by
        rw [show j - k = (j - k - 1) + 1 by omega, Nat.testBit_succ]; simp
      simp [this, he]
theorem shl_xor (n a b : Nat) : 2 ^ n * (a ^^^ b) = 2 ^ n * a ^^^ 2 ^ n * b := by
  apply Nat.eq_of_testBit_eq
  intro j
  rw [Nat.testBit_xor, Nat.testBit_two_pow_mul, Nat.testBit_two_pow_mul, Nat.testBit_two_pow_mul, Nat.testBit_xor]
  cases decide (j ≥ n) <;> simp
theorem turnL_yes {mask lim k : Nat} (h : mask / 2 ^ k % 2 = 1) (h2 : k < lim) (at_ : Nat) : turnL mask lim (k + 1) ≠ 0 ∧ 2 ^ at_ * turnL mask lim (k + 1) = 2 ^ at_ * turnL mask lim k ^^^ 2 ^ (at_ + k) := by
  have e : turnL mask lim (k + 1) = turnL mask lim k + 2 ^ k := by
    show (if _ then _ else _) = _
    rw [if_pos ⟨h, h2⟩]
  refine ⟨by rw [e]; have := Nat.two_pow_pos k; omega, ?_⟩
  rw [e, add_pow_xor (turnL_lt mask lim k), shl_xor, ← Nat.pow_add]
theorem turnL_no {mask lim k : Nat} (h : ¬ (mask / 2 ^ k % 2 = 1 ∧ k < lim)) : turnL mask lim (k + 1) = turnL mask lim k := by
  show (if _ then _ else _) = _
  rw [if_neg h]
/-- A frame of which bits were turned is refused. -/
theorem burst_open {k : Nat} {load q : List UInt8} {m at_ : Nat} (h1 : 1 ≤ k) (h2 : k ≤ 15) (h3 : load.length ≤ 65536) (hl : q.length = (frameL k load).length) (hq : leL q = leL (frameL k load) ^^^ (2 ^ at_ * m)) (hm : m < 4294967296) (h0 : m ≠ 0) (hat : at_ ≤ 8 * (frameL k load).length) :
    openL q = (0, [], 2) ∨ openL q = (0, [], 9) := by
  rcases openL_err q with h | h | h
  · exfalso
    have hs := (seal_open h).2.2.2.2.2
    have ho := open_seal h1 h2 h3
    have hs0 := (seal_open (p := frameL k load) (by rw [ho])).2.2.2.2.2
    have n1 := frameB_nine hs.1
    have n2 := frameB_nine hs0.1
    exact burst hl hq hm h0 hat (fold_frame (by omega) hs0.2) (fold_frame (by omega) hs.2)
  · exact .inl h
  · exact .inr h
/-- A frame that is cut short; one with bytes behind it. -/
theorem cut_open {k : Nat} {load : List UInt8} {c : Nat} (h3 : load.length ≤ 65536) (hc : c < (frameL k load).length) : openL ((frameL k load).take c) = (0, [], 2) := by
  apply openL_no
  have hl := frameL_length k load
  by_cases h9 : 9 ≤ ((frameL k load).take c).length
  · rw [frameB_long h9]
    rw [List.length_take] at h9
    have e : (((frameL k load).take c).drop 1).take 4 = fourL load.length := by
      rw [List.drop_take, List.take_take, Nat.min_eq_left (by omega), frameL_size]
    rw [e, leL_fourL (by omega)]
    have : ¬ (load.length + 9 = ((frameL k load).take c).length) := by rw [List.length_take]; omega
    simp only [decide_eq_false this, Bool.and_false]
  · exact frameB_short h9
theorem more_open {k : Nat} {load more : List UInt8} (h3 : load.length ≤ 65536) (hm : more ≠ []) : openL (frameL k load ++ more) = (0, [], 2) := by
  apply openL_no
  have hl := frameL_length k load
  have hp : 0 < more.length := List.length_pos_iff.2 hm
  rw [frameB_long (by rw [List.length_append]; omega)]
  have e : ((frameL k load ++ more).drop 1).take 4 = fourL load.length := by
    rw [List.drop_append_of_le_length (by omega), List.take_append_of_le_length (by rw [List.length_drop]; omega), frameL_size]
  rw [e, leL_fourL (by omega)]
  have : ¬ (load.length + 9 = (frameL k load ++ more).length) := by rw [List.length_append]; omega
  simp only [decide_eq_false this, Bool.and_false]

end Go.Proofs.YtlioiblpcpaejaaGreat
