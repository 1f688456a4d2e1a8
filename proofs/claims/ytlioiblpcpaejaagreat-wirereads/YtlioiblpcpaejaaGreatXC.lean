/- What laying a number does: appendNumber, Size. -/
import Derived.Test.YtlioiblpcpaejaaGreatXB
import Derived.Laws.IdiomStrings
namespace Go.Proofs.YtlioiblpcpaejaaGreat
open Go.RowKit
set_option linter.unusedVariables false

set_option maxRecDepth 100000 in
theorem or128 (x : Nat) (h : x < 256) : bits .or .u8 (x : Int) 128 = ((128 + x % 128 : Nat) : Int) := by
  have e := (bits_nat .u8 8 (by decide) wraps_u8 x 128 h (by decide)).2
  have e2 : ∀ y : Fin 256, y.val ||| 128 = 128 + y.val % 128 := by decide
  rw [show ((128 : Int)) = ((128 : Nat) : Int) from rfl, e, e2 ⟨x, h⟩]

set_option maxRecDepth 100000 in
set_option maxHeartbeats 1000000 in
theorem appendNumber_any (B : Nat) (v : Value) (D : List UInt8) (n : Int) (w : World) (hn : n < 9223372036854775808) (h : OwnB B w v D) (hB : B ≤ w.heap.size) (hl : D.length + (putL n.toNat).length ≤ 140737488355328) :
    Calls Tryz.prog 71 #[v, .int .i64 n] w fun e w' => ∃ v', e = .returned v' ∧ OwnB B w' v' (D ++ putL n.toNat) ∧ Below B w w' := by
  obtain ⟨i0, hi, hz0, hz1, hz2⟩ := info_parts infoByte
  have H0 : Hid (OwnB B w v (D ++ [])) := by show OwnB _ _ _ _; rw [List.append_nil]; exact h
  clear h
  rcases Int.lt_or_le n 0 with hneg | hpos
  all_goals (
    go_enter Tryz.func71, Tryz.ntmps71
    go_wp2
    go_loopw [0, 1] (fun u x wr => ∃ (m : Nat) (E : List UInt8), x = .int .i64 (m : Int) ∧ m < 9223372036854775808 ∧ Hid (E ++ putL m = putL n.toNat) ∧ Hid (OwnB B wr u (D ++ E)) ∧ Hid (Below B w wr)) (fun _ x _ => (intOf x).toNat)
    case atStart => exact ⟨n.toNat, [], by first | (congr 1; omega) | (congr 1), by omega, rfl, H0, Below.refl _ _⟩
    case round =>
      obtain ⟨m, E, rfl, hm, HE, HO, HB⟩ := hrel
      have hsz := HB.out.size
      by_cases hge : m < 128
      · have HP : Hid (putL m = [UInt8.ofNat m]) := putL_lt hge
        have hlen : D.length + E.length + 1 ≤ 140737488355328 := by
          have := congrArg List.length HE.out
          rw [HP.out] at this
          simp at this; omega
        go_wp2_with (at_builtin; refine wpList_append_own _ rfl _ _ 22 rfl B 5 i0 (.int .u8 0) 1 1 Tryz.underlying22 hi hz0 hz1 hz2 rfl (by decide) _ _ _ rfl (World.ownsRow.alloc HO.out _) ⟨wr.heap.size, 0, none⟩ 1 1 [_] rfl rfl (cell_one_new _ _ _) (fun x hx => by simp at hx; subst hx; rfl) (by unfold maxLen; simp; omega) (by simp; omega) (by simp; omega) ?_; intro v' w3 hown' hgrow3 hnil3)
        go_ret
        refine ⟨_, rfl, ?_, (HB.out.alloc (by omega) _).grown hgrow3 (by simp; omega) (fun j e => (World.ownsRow.lt HO.out j e).1)⟩
        rw [← HE.out, HP.out, ← List.append_assoc]
        exact OwnB.more hown' (by simp) (by simp [cellsB, toNat_of (show m < 256 by omega)])
      · have HP : Hid (putL m = UInt8.ofNat (128 + m % 128) :: putL (m / 128)) := putL_ge hge
        have hlen : D.length + E.length + 1 ≤ 140737488355328 := by
          have := congrArg List.length HE.out
          rw [HP.out] at this
          simp at this; omega
        have hor := or128 (m % 256) (by omega)
        go_wp2_with (at_builtin; refine wpList_append_own _ rfl _ _ 22 rfl B 5 i0 (.int .u8 0) 1 1 Tryz.underlying22 hi hz0 hz1 hz2 rfl (by decide) _ _ _ rfl (World.ownsRow.alloc HO.out _) ⟨wr.heap.size, 0, none⟩ 1 1 [_] rfl rfl (cell_one_new _ _ _) (fun x hx => by simp at hx; subst hx; rfl) (by unfold maxLen; simp; omega) (by simp; omega) (by simp; omega) ?_; intro v' w3 hown' hgrow3 hnil3)
        have HO3 : Hid (OwnB B w3 v' (D ++ (E ++ [UInt8.ofNat (128 + m % 128)]))) := by
          show OwnB _ _ _ _
          rw [← List.append_assoc]
          refine OwnB.more hown' (by simp) ?_
          rw [show ((m : Int) % 256) = ((m % 256 : Nat) : Int) by omega, hor]
          simp only [cellsB, List.map_cons, List.map_nil]
          rw [toNat_of (show 128 + m % 128 < 256 by omega), show m % 256 % 128 = m % 128 by omega]
        have HE3 : Hid ((E ++ [UInt8.ofNat (128 + m % 128)]) ++ putL (m / 128) = putL n.toNat) := by show _ = _; rw [← HE.out, HP.out]; simp
        go_roundw
        case rel => exact ⟨m / 128, _, by congr 1, by omega, HE3, HO3, (HB.out.alloc (by omega) _).grown hgrow3 (by simp; omega) (fun j e => (World.ownsRow.lt HO.out j e).1)⟩
        case measure => simp [intOf]; omega)

end Go.Proofs.YtlioiblpcpaejaaGreat

namespace Go.Proofs.YtlioiblpcpaejaaGreat
open Go.RowKit
set_option linter.unusedVariables false

theorem pow_cases (i : Nat) (hi : i ≤ 8) : 128 ^ i = 2 ^ (7 * i) ∧ (128 : Nat) ^ i ≤ 72057594037927936 ∧ 0 < (128 : Nat) ^ i := by
  refine ⟨by rw [show (128 : Nat) = 2 ^ 7 from rfl, ← Nat.pow_mul], ?_, Nat.pow_pos (by decide)⟩
  calc (128 : Nat) ^ i ≤ 128 ^ 8 := Nat.pow_le_pow_right (by decide) hi
    _ = 72057594037927936 := by decide
theorem mul_le_pow {x q : Nat} (hx : x < 128) (hq : q ≤ 72057594037927936) : x * q ≤ 9151314442816847872 := by
  calc x * q ≤ 127 * 72057594037927936 := Nat.mul_le_mul (by omega) hq
    _ = 9151314442816847872 := by decide
theorem or_step (i acc x : Nat) (hi : i ≤ 8) (ha : acc < 128 ^ i) (hx : x < 128) : bits .or .i64 (acc : Int) ((x * 128 ^ i : Nat) : Int) = ((acc + x * 128 ^ i : Nat) : Int) := by
  obtain ⟨h1, h2, h3⟩ := pow_cases i hi
  have h4 := mul_le_pow hx h2
  have w63 : ∀ n : Int, 0 ≤ n → n < 2 ^ 63 → IntKind.i64.wrap n = n := fun n a b => by rw [IntKind.wrap_i64]; omega
  rw [(bits_nat .i64 63 (by decide) w63 acc (x * 128 ^ i) (by omega) (by omega)).2]
  congr 1
  rw [h1] at ha ⊢
  rw [Nat.or_comm, Nat.mul_comm, ← Nat.two_pow_add_eq_or_of_lt ha x, Nat.add_comm]

theorem or_val (i acc c : Nat) (hi : i ≤ 8) (ha : acc < 128 ^ i) : bits .or .i64 (acc : Int) (wrap64 ((c : Int) % 128 * 2 ^ (7 * i))) = ((acc + c % 128 * 128 ^ i : Nat) : Int) := by
  obtain ⟨h1, h2, h3⟩ := pow_cases i hi
  have hx : c % 128 < 128 := Nat.mod_lt _ (by decide)
  have h4 := mul_le_pow hx h2
  have e1 : ((c : Int) % 128 * 2 ^ (7 * i)) = ((c % 128 * 128 ^ i : Nat) : Int) := by rw [h1]; push_cast; rfl
  rw [e1, show wrap64 ((c % 128 * 128 ^ i : Nat) : Int) = ((c % 128 * 128 ^ i : Nat) : Int) by unfold wrap64; omega]
  exact or_step i acc (c % 128) hi ha hx
theorem wrap_add {acc r : Nat} (h1 : acc < 72057594037927936) (h2 : r ≤ 9151314442816847872) : wrap64 ((acc : Int) + wrap64 (r : Int)) = ((acc + r : Nat) : Int) := by unfold wrap64; omega
theorem wrap_small {acc : Nat} (h1 : acc < 72057594037927936) : wrap64 (acc : Int) = (acc : Int) := by unfold wrap64; omega
theorem wrap_q {q : Nat} (h1 : q ≤ 562949953421312) : wrap64 ((q : Int) * 128) = ((q * 128 : Nat) : Int) := by unfold wrap64; omega
theorem acc_lt {i acc x : Nat} (ha : acc < 128 ^ i) (hx : x < 128) : acc + x * 128 ^ i < 128 ^ (i + 1) := by
  rw [Nat.pow_succ]
  have : x * 128 ^ i ≤ 127 * 128 ^ i := Nat.mul_le_mul_right _ (by omega)
  omega

/-- What a reading of a number tells: the number and how many bytes it has; or that there is none. -/
def NumTold (p : List UInt8) (e : Ending) : Prop := ∃ (n k : Nat) (b : Bool), e = .returned (.tuple #[.int .i64 (n : Int), .int .i64 (k : Int), .bool b]) ∧ ((b = true ∧ numL p = some (n, k)) ∨ (b = false ∧ numL p = none))
theorem NumTold.yes {p : List UInt8} {n k : Nat} {e : Ending} (h : e = .returned (.tuple #[.int .i64 (n : Int), .int .i64 (k : Int), .bool true])) (hn : numL p = some (n, k)) : NumTold p e := ⟨n, k, true, h, .inl ⟨rfl, hn⟩⟩
theorem NumTold.no {p : List UInt8} {n k : Nat} {e : Ending} (h : e = .returned (.tuple #[.int .i64 (n : Int), .int .i64 (k : Int), .bool false])) (hn : numL p = none) : NumTold p e := ⟨n, k, false, h, .inr ⟨rfl, hn⟩⟩

set_option maxRecDepth 100000 in
set_option maxHeartbeats 1000000 in
/-- octet.number. -/
theorem number_any (v : Value) (p : List UInt8) (w : World) (h1 : IsB w v p) :
    Calls Tryz.prog 60 #[v] w fun e w' => NumTold p e ∧ w' = w := by
  obtain ⟨a1, c1, rfl, hc1, hl1, r1⟩ := h1
  have HR : Hid (p = [] ∨ ∃ b o, a1 = some ⟨b, o, none⟩ ∧ BytesAt w b o p) := r1
  clear r1
  go_enter Tryz.func60, Tryz.ntmps60
  go_wp2
  go_step3
  go_wp2
  go_step3
  go_wp2
  go_loop [2, 9] (fun n i => ∃ acc k : Nat, n = .int .i64 (acc : Int) ∧ i = .int .i64 (k : Int) ∧ k ≤ p.length ∧ k ≤ 8 ∧ Hid (acc < 128 ^ k) ∧ Hid (numL p = numA (9 - k) k acc (p.drop k))) (fun _ i => p.length - (intOf i).toNat)
  case atStart => exact ⟨0, 0, rfl, rfl, Nat.zero_le _, by omega, by show _ < _; simp, rfl⟩
  case round =>
    obtain ⟨acc, k, rfl, rfl, hk, hk8, HA, HN⟩ := hrel
    by_cases hlt : k < p.length
    · obtain ⟨b1, o1, rfl, g1⟩ := HR.out.resolve_left (by intro e; subst e; simp at hlt)
      have x1 := g1 k hlt
      clear g1
      have k1 : (k : Int) < (p.length : Int) := by omega
      have k0 : (0 : Int) ≤ (k : Int) := by omega
      have hc := UInt8.toNat_lt p[k]
      have HA0 : Hid (¬ (p[k].toNat < 128) → numL p = numA (9 - k - 1) (k + 1) (acc + p[k].toNat % 128 * 128 ^ k) (p.drop (k + 1))) := fun h => by
        have := HN.out
        rw [show 9 - k = (9 - k - 1) + 1 by omega, numA_more hlt h] at this
        exact this
      have HA1 : Hid (p[k].toNat < 128 → ¬ (p[k].toNat = 0 ∧ k ≠ 0) → numL p = some (acc + p[k].toNat % 128 * 128 ^ k, k + 1)) := fun h h2 => by
        have := HN.out
        rw [show 9 - k = (9 - k - 1) + 1 by omega, numA_last hlt h h2] at this
        exact this
      have HA2 : Hid (p[k].toNat = 0 → k ≠ 0 → numL p = none) := fun h h2 => by
        have := HN.out
        rw [show 9 - k = (9 - k - 1) + 1 by omega, numA_nought hlt h h2] at this
        exact this
      have HV : Hid (bits .or .i64 (acc : Int) (wrap64 ((p[k].toNat : Int) % 128 * 2 ^ (7 * k))) = ((acc + p[k].toNat % 128 * 128 ^ k : Nat) : Int)) := or_val k acc _ hk8 HA.out
      clear HN
      generalize p[k].toNat = c at *
      by_cases hge : c < 128
      · by_cases hz : c = 0
        · subst hz
          by_cases hk0 : k = 0
          · have HE : Hid (numL p = some (acc, k + 1)) := by have := HA1.out (by omega) (by omega); show _ = _; simpa using this
            have HV0 : Hid (bits .or .i64 (acc : Int) 0 = (acc : Int)) := by
              have h := HV.out
              rw [show wrap64 (((0 : Nat) : Int) % 128 * 2 ^ (7 * k)) = 0 by simp; unfold wrap64; omega] at h
              show _ = _; simpa using h
            have hk2 : ¬ (0 : Int) < (k : Int) := by omega
            clear HA0 HA1 HA2 HV HA hk0
            go_wp2
            go_ret3
            refine ⟨NumTold.yes ?_ HE.out, rfl⟩
            rw [HV0.out]
            simp
          · have HE : Hid (numL p = none) := HA2.out rfl hk0
            clear HA0 HA1 HA2 HV HA
            go_wp2
            go_ret3
            exact ⟨NumTold.no (n := 0) (k := 0) rfl HE.out, rfl⟩
        · have HE : Hid (numL p = some (acc + c % 128 * 128 ^ k, k + 1)) := HA1.out hge (by omega)
          clear HA0 HA1 HA2 HA
          go_wp2
          go_ret3
          refine ⟨NumTold.yes ?_ HE.out, rfl⟩
          rw [HV.out]
          simp
      · by_cases h8 : k = 8
        · subst h8
          have HE : Hid (numL p = none) := by have := HA0.out hge; show _ = _; simpa [numA_zero] using this
          clear HA0 HA1 HA2 HV HA
          go_wp2
          go_ret3
          exact ⟨NumTold.no (n := 0) (k := 0) rfl HE.out, rfl⟩
        · have HE : Hid (numL p = numA (9 - (k + 1)) (k + 1) (acc + c % 128 * 128 ^ k) (p.drop (k + 1))) := by
            have := HA0.out hge
            rw [show 9 - k - 1 = 9 - (k + 1) by omega] at this
            exact this
          have HL : Hid (acc + c % 128 * 128 ^ k < 128 ^ (k + 1)) := acc_lt HA.out (Nat.mod_lt _ (by decide))
          have q9 : ((k : Int) + 1 == 9) = false := by simp; omega
          clear HA0 HA1 HA2 HA
          go_wp2
          go_round
          case rel => exact ⟨_, k + 1, by rw [HV.out], by go_num, by omega, by omega, HL, HE⟩
          case measure => simp [intOf]; omega
    · have HE : Hid (numL p = none) := by show _ = _; rw [HN.out]; exact numA_end (by omega)
      go_wp2
      go_ret3
      exact ⟨NumTold.no (n := 0) (k := 0) rfl HE.out, rfl⟩

/-- What count tells of bytes: the number, how many bytes it has, the error. -/
def cntL (p : List UInt8) (most : Int) : Nat × Nat × Int :=
  match numL p with
  | none => (0, 0, 2)
  | some (n, k) => if most < (n : Int) then (0, 0, 3) else (n, k, 0)
theorem cntL_none {p : List UInt8} (most : Int) (h : numL p = none) : cntL p most = (0, 0, 2) := by unfold cntL; rw [h]
theorem cntL_long {p : List UInt8} {most : Int} {n k : Nat} (h : numL p = some (n, k)) (h2 : most < (n : Int)) : cntL p most = (0, 0, 3) := by unfold cntL; rw [h]; simp only; rw [if_pos h2]
theorem cntL_ok {p : List UInt8} {most : Int} {n k : Nat} (h : numL p = some (n, k)) (h2 : ¬ most < (n : Int)) : cntL p most = (n, k, 0) := by unfold cntL; rw [h]; simp only; rw [if_neg h2]

set_option maxRecDepth 100000 in
set_option maxHeartbeats 1000000 in
/-- octet.count. -/
theorem count_any (v : Value) (p : List UInt8) (most : Int) (w : World) (h1 : IsB w v p) :
    Calls Tryz.prog 31 #[v, .int .i64 most] w fun e w' => e = .returned (.tuple #[.int .i64 ((cntL p most).1 : Int), .int .i64 ((cntL p most).2.1 : Int), .int .i64 (cntL p most).2.2]) ∧ w' = w := by
  obtain ⟨a1, c1, rfl, hc1, hl1, r1⟩ := id h1
  have H1 : Hid (IsB w (.slice a1 p.length c1) p) := h1
  clear h1 r1
  go_enter Tryz.func31, Tryz.ntmps31
  go_wp2_with fail
  refine (number_any _ p _ H1.out).mono ?_
  rintro e w1 ⟨⟨n, k, b, rfl, hb⟩, rfl⟩
  rcases hb with ⟨rfl, hn⟩ | ⟨rfl, hn⟩
  · by_cases hm : most < (n : Int)
    · have HE : Hid (cntL p most = (0, 0, 3)) := cntL_long hn hm
      clear hn
      go_wp2
      go_ret3
      exact ⟨by rw [HE.out]; rfl, rfl⟩
    · have HE : Hid (cntL p most = (n, k, 0)) := cntL_ok hn hm
      clear hn
      go_wp2
      go_ret3
      exact ⟨by rw [HE.out]; rfl, rfl⟩
  · have HE : Hid (cntL p most = (0, 0, 2)) := cntL_none most hn
    clear hn
    go_wp2
    go_ret3
    exact ⟨by rw [HE.out]; rfl, rfl⟩

set_option maxRecDepth 100000 in
set_option maxHeartbeats 1000000 in
/-- The document's Num. -/
theorem refNum_any (v : Value) (p : List UInt8) (w : World) (h1 : IsB w v p) :
    Calls Tryz.prog 43 #[v] w fun e w' => NumTold p e ∧ w' = w := by
  obtain ⟨a1, c1, rfl, hc1, hl1, r1⟩ := h1
  have HR : Hid (p = [] ∨ ∃ b o, a1 = some ⟨b, o, none⟩ ∧ BytesAt w b o p) := r1
  clear r1
  go_enter Tryz.func43, Tryz.ntmps43
  go_wp2
  go_loop [5, 6, 7] (fun n by_ i => ∃ acc q k : Nat, n = .int .i64 (acc : Int) ∧ by_ = .int .i64 (q : Int) ∧ i = .int .i64 (k : Int) ∧ k ≤ p.length ∧ k ≤ 9 ∧ Hid (k ≤ 8 → acc < 128 ^ k ∧ q = 128 ^ k) ∧ Hid (numL p = numA (9 - k) k acc (p.drop k))) (fun _ _ i => p.length - (intOf i).toNat)
  case atStart => exact ⟨0, 1, 0, rfl, rfl, rfl, Nat.zero_le _, by omega, by intro _; simp, rfl⟩
  case round =>
    obtain ⟨acc, q, k, rfl, rfl, rfl, hk, hk9, HA, HN⟩ := hrel
    by_cases h9 : k = 9
    · have HE : Hid (numL p = none) := by show _ = _; rw [HN.out, h9]; rfl
      have k9 : ¬ (k : Int) < 9 := by omega
      clear HA HN
      by_cases hlt : (k : Int) < (p.length : Int)
      all_goals (
        go_wp2
        go_ret3
        exact ⟨NumTold.no (n := 0) (k := 0) rfl HE.out, rfl⟩)
    · by_cases hlt : k < p.length
      · obtain ⟨b1, o1, rfl, g1⟩ := HR.out.resolve_left (by intro e; subst e; simp at hlt)
        have x1 := g1 k hlt
        clear g1
        have k1 : (k : Int) < (p.length : Int) := by omega
        have k0 : (0 : Int) ≤ (k : Int) := by omega
        have hk8 : k ≤ 8 := by omega
        obtain ⟨ha, rfl⟩ := HA.out hk8
        obtain ⟨hp1, hp2, hp3⟩ := pow_cases k hk8
        have hc := UInt8.toNat_lt p[k]
        have HA0 : Hid (¬ (p[k].toNat < 128) → numL p = numA (9 - (k + 1)) (k + 1) (acc + p[k].toNat % 128 * 128 ^ k) (p.drop (k + 1))) := fun h => by
          have := HN.out
          rw [show 9 - k = (9 - k - 1) + 1 by omega, numA_more hlt h] at this
          exact this
        have HA1 : Hid (p[k].toNat < 128 → ¬ (p[k].toNat = 0 ∧ k ≠ 0) → numL p = some (acc + p[k].toNat % 128 * 128 ^ k, k + 1)) := fun h h2 => by
          have := HN.out
          rw [show 9 - k = (9 - k - 1) + 1 by omega, numA_last hlt h h2] at this
          exact this
        have HA2 : Hid (p[k].toNat = 0 → k ≠ 0 → numL p = none) := fun h h2 => by
          have := HN.out
          rw [show 9 - k = (9 - k - 1) + 1 by omega, numA_nought hlt h h2] at this
          exact this
        have HL : Hid (acc + p[k].toNat % 128 * 128 ^ k < 128 ^ (k + 1)) := acc_lt ha (Nat.mod_lt _ (by decide))
        have HQ : Hid (k < 8 → (128 : Nat) ^ (k + 1) = 128 ^ k * 128) := fun _ => Nat.pow_succ ..
        have hm : ((p[k].toNat : Int) % 128 * ((128 ^ k : Nat) : Int)) = ((p[k].toNat % 128 * 128 ^ k : Nat) : Int) := by push_cast; rfl
        have hm2 := mul_le_pow (Nat.mod_lt p[k].toNat (by decide : 0 < 128)) hp2
        have hq7 : k < 8 → (128 : Nat) ^ k ≤ 562949953421312 := fun h => by
          calc (128 : Nat) ^ k ≤ 128 ^ 7 := Nat.pow_le_pow_right (by decide) (by omega)
            _ = 562949953421312 := by decide
        clear HN HA hp1
        generalize p[k].toNat = c at *
        generalize hq : (128 : Nat) ^ k = q at *
        generalize hr : c % 128 * q = r at *
        have ha56 : acc < 72057594037927936 := Nat.lt_of_lt_of_le ha hp2
        have HW : Hid (wrap64 ((acc : Int) + wrap64 ((c : Int) % 128 * (q : Int))) = ((acc + r : Nat) : Int)) := by
          show _ = _
          rw [hm]
          exact wrap_add ha56 hm2
        have HW0 : Hid (wrap64 (acc : Int) = (acc : Int)) := wrap_small ha56
        have HW1 : Hid (k < 8 → wrap64 ((q : Int) * 128) = ((q * 128 : Nat) : Int)) := fun h => wrap_q (hq7 h)
        have HR2 : Hid (c % 128 * q = r) := hr
        have HL2 : Hid (k < 8 → acc + r < 128 ^ (k + 1) ∧ q * 128 = 128 ^ (k + 1)) := fun h => ⟨HL.out, (HQ.out h).symm⟩
        clear hr hm hq hm2 hp2 hp3 hq7 HL HQ ha ha56
        by_cases hge : c < 128
        · by_cases hz : c = 0
          · subst hz
            have HR0 : Hid (r = 0) := by have := HR2.out; show _ = _; simpa using this.symm
            by_cases hk0 : k = 0
            · have HE : Hid (numL p = some (acc, k + 1)) := by have := HA1.out (by omega) (by omega); rw [HR0.out] at this; exact this
              have hk2 : ((k : Int) == 0) = true := by simp [hk0]
              clear HA0 HA1 HA2 hk0 HW HR2 HR0
              go_wp2
              go_ret3
              refine ⟨NumTold.yes ?_ HE.out, rfl⟩
              rw [HW0.out]
              simp
            · have HE : Hid (numL p = none) := HA2.out rfl hk0
              have hk2 : ((k : Int) == 0) = false := by simp [hk0]
              clear HA0 HA1 HA2 hk0 HW HR2 HR0
              go_wp2
              go_ret3
              refine ⟨NumTold.no (n := acc) (k := k + 1) ?_ HE.out, rfl⟩
              rw [HW0.out]
              simp
          · have HE : Hid (numL p = some (acc + r, k + 1)) := HA1.out hge (by omega)
            have hz2 : ((c : Int) != 0) = true := by simp [hz]
            clear HA0 HA1 HA2
            go_wp2
            go_ret3
            refine ⟨NumTold.yes ?_ HE.out, rfl⟩
            rw [HW.out]
            simp
        · have HE : Hid (numL p = numA (9 - (k + 1)) (k + 1) (acc + r) (p.drop (k + 1))) := HA0.out hge
          by_cases h8 : k < 8
          · have HZ : Hid (k + 1 ≤ 8 → acc + r < 128 ^ (k + 1) ∧ q * 128 = 128 ^ (k + 1)) := fun _ => HL2.out h8
            have HW2 : Hid (wrap64 ((q : Int) * 128) = ((q * 128 : Nat) : Int)) := HW1.out h8
            clear HA0 HA1 HA2
            go_wp2
            go_round
            case rel => exact ⟨acc + r, q * 128, k + 1, by rw [HW.out], by rw [HW2.out], by go_num, by omega, by omega, HZ, HE⟩
            case measure => simp [intOf]; omega
          · have HZ : Hid (k + 1 ≤ 8 → acc + r < 128 ^ (k + 1) ∧ q = 128 ^ (k + 1)) := fun h => absurd h (by omega)
            clear HA0 HA1 HA2
            go_wp2
            go_round
            case rel => exact ⟨acc + r, q, k + 1, by rw [HW.out], rfl, by go_num, by omega, by omega, HZ, HE⟩
            case measure => simp [intOf]; omega
      · have HE : Hid (numL p = none) := by show _ = _; rw [HN.out]; exact numA_end (by omega)
        clear HA HN
        go_wp2
        go_ret3
        exact ⟨NumTold.no (n := 0) (k := 0) rfl HE.out, rfl⟩

end Go.Proofs.YtlioiblpcpaejaaGreat

namespace Go.Proofs.YtlioiblpcpaejaaGreat
open Go.RowKit
set_option linter.unusedVariables false

/-- The bytes of numbers, one behind the other. -/
def putsL (d : List Int) : List UInt8 := d.flatMap fun n => putL n.toNat
theorem putsL_snoc {d : List Int} {k : Nat} (h : k < d.length) : putsL (d.take (k + 1)) = putsL (d.take k) ++ putL d[k].toNat := by
  rw [List.take_succ_eq_append_getElem h]; simp only [putsL, List.flatMap_append, List.flatMap_cons, List.flatMap_nil, List.append_nil]
theorem putsL_take (d : List Int) (k : Nat) : (putsL (d.take k)).length ≤ (putsL d).length := by
  conv => rhs; rw [← List.take_append_drop k d]
  simp only [putsL, List.flatMap_append, List.length_append]
  omega

set_option maxRecDepth 100000 in
set_option maxHeartbeats 1000000 in
/-- octet.Put. -/
theorem put_any (vb vl : Value) (p : List UInt8) (d : List Int) (w : World) (h1 : IsB w vb p) (h2 : IsI w vl d) (hd : ∀ x ∈ d, x < 9223372036854775808) (hl : p.length + (putsL d).length ≤ 140737488355328) :
    Calls Tryz.prog 57 #[vb, vl] w fun e w' => ∃ v', e = .returned v' ∧ OwnB w.heap.size w' v' (p ++ putsL d) ∧ Below w.heap.size w w' := by
  obtain ⟨a2, c2, rfl, hc2, hl2, r2⟩ := h2
  have H1 : Hid (IsB w vb p) := h1
  have HR : Hid (d = [] ∨ ∃ b o, a2 = some ⟨b, o, none⟩ ∧ IntsAt w b o d) := r2
  have HD : Hid (∀ x ∈ d, x < 9223372036854775808) := hd
  clear h1 r2 hd
  go_enter Tryz.func57, Tryz.ntmps57
  go_wp2_with (at_builtin; refine wpList_copyB rfl _ _ rfl _ p rfl rfl H1.out (by omega) ?_; intro v1 w1 ho1 hb1)
  have HO1 : Hid (OwnB w.heap.size w1 v1 (p ++ putsL (d.take 0))) := by show OwnB _ _ _ _; simpa [putsL] using ho1
  have HB1 : Hid (Below w.heap.size w w1) := hb1
  clear ho1 hb1
  go_loopw [5, 12] (fun u i wr => ∃ k : Nat, k ≤ d.length ∧ i = .int .i64 (k : Int) ∧ Hid (OwnB w.heap.size wr u (p ++ putsL (d.take k))) ∧ Hid (Below w.heap.size w wr)) (fun _ i _ => d.length - (intOf i).toNat)
  case atStart => exact ⟨0, Nat.zero_le _, rfl, HO1, HB1⟩
  case round =>
    obtain ⟨k, hk, rfl, HO, HB⟩ := hrel
    have hsz := HB.out.size
    by_cases hlt : k < d.length
    · obtain ⟨b1, o1, rfl, g1⟩ := HR.out.resolve_left (by intro e; subst e; simp at hlt)
      have x1 := (g1.below HB.out) k hlt
      clear g1
      have hx := HD.out d[k] (List.getElem_mem hlt)
      have k1 : (k : Int) < (d.length : Int) := by omega
      have k0 : (0 : Int) ≤ (k : Int) := by omega
      have HTS : Hid (p ++ putsL (d.take (k + 1)) = (p ++ putsL (d.take k)) ++ putL d[k].toNat) := by show _ = _; rw [putsL_snoc hlt]; simp
      have hlen : (p ++ putsL (d.take k)).length + (putL d[k].toNat).length ≤ 140737488355328 := by
        have h1 := congrArg List.length HTS.out
        have h2 := putsL_take d (k + 1)
        simp only [List.length_append] at h1 ⊢
        omega
      generalize d[k] = x at *
      have HLen : Hid ((p ++ putsL (d.take k)).length + (putL x.toNat).length ≤ 140737488355328) := hlen
      have HX : Hid (x < 9223372036854775808) := hx
      clear hlen hx
      go_wp2_with fail
      refine (appendNumber_any _ _ _ x _ HX.out HO.out hsz HLen.out).mono ?_
      rintro e w2 ⟨v2, rfl, ho2, hb2⟩
      have HO2 : Hid (OwnB w.heap.size w2 v2 (p ++ putsL (d.take (k + 1)))) := by show OwnB _ _ _ _; rw [HTS.out]; exact ho2
      have HB2 : Hid (Below w.heap.size w w2) := HB.out.trans hb2
      clear ho2 hb2
      go_wp2
      go_roundw
      case rel => exact ⟨k + 1, by omega, by go_num, HO2, HB2⟩
      case measure => simp [intOf]; omega
    · obtain rfl : k = d.length := by omega
      have HTK : Hid (d.take d.length = d) := List.take_length
      rw [HTK.out] at HO
      go_wp2
      go_ret
      exact ⟨_, rfl, HO.out, HB.out⟩

set_option maxRecDepth 100000 in
set_option maxHeartbeats 1000000 in
/-- octet.New. -/
theorem new_any (v : Value) (p : List UInt8) (w : World) (h1 : IsB w v p) (hl : p.length ≤ 140737488355328) :
    Calls Tryz.prog 9 #[v] w fun e w' => ∃ g, e = .returned (.pointer (some ⟨g, 0, none⟩)) ∧ RdIs (fun j => w.heap.size ≤ j ∧ j < w'.heap.size) w' g p 0 0 ∧ Below w.heap.size w w' := by
  have H1 : Hid (IsB w v p) := h1
  clear h1
  go_enter Tryz.func9, Tryz.ntmps9
  go_wp2_with (at_builtin; refine wpList_copyB rfl _ _ rfl _ p rfl rfl H1.out (by omega) ?_; intro v1 w1 ho1 hb1; obtain ⟨a1, c1, rfl, hc1, hl1, r1⟩ := ho1.isB (by omega); have HO : Hid (OwnB w.heap.size w1 (.slice a1 p.length c1) p) := ho1; have HB : Hid (Below w.heap.size w w1) := hb1; clear ho1 hb1 r1)
  obtain ⟨a2, c2, e2, _, r2⟩ := HO.out.rows
  cases e2
  go_ret
  refine ⟨_, rfl, ⟨a1, c1, heap_alloc_new _ _, ⟨HB.out.size, by simp⟩, hc1, hl, Nat.zero_le _, ?_⟩, HB.out.alloc HB.out.size _⟩
  refine r2.imp id fun ⟨b, o, e, hB, hlt, hA⟩ => ⟨b, o, e, ⟨hB, by simp; omega⟩, by omega, ?_⟩
  exact hA.below ((Below.refl _ _).alloc (Nat.le_refl _) _)

end Go.Proofs.YtlioiblpcpaejaaGreat

namespace Go.Proofs.YtlioiblpcpaejaaGreat
open Go.RowKit
set_option linter.unusedVariables false

theorem heap_set_same {w : World} {g i : Nat} {c : Array Value} {t : TypeId} (h : w.heap[g]? = some (.cells c t)) (m : Nat) (u : Value) : ((w.drewN m).setCell ⟨g, i, none⟩ u).heap[g]? = some (.cells (c.setIfInBounds i u) t) := by
  simp [World.setCell, Array.getElem?_modify, h]
theorem grownBy.set (w : World) (m g i : Nat) {u : Value} : w.grownBy ((w.drewN m).setCell ⟨g, i, none⟩ u) (some g) :=
  ⟨rfl, rfl, rfl, by simp [World.setCell], fun j _ hne => (Below.heap_setCell (w.drewN m) ⟨g, i, none⟩ u j (fun e => hne (by rw [e]))).trans rfl⟩
theorem RdIs.setAt {L : Nat → Prop} {w : World} {g : Nat} {p : List UInt8} {k : Nat} {y : Int} (h : RdIs L w g p k y) (m k2 : Nat) (h2 : k2 ≤ p.length) : RdIs L ((w.drewN m).setCell ⟨g, 1, none⟩ (.int .i64 (k2 : Int))) g p k2 y := by
  obtain ⟨a, cap, h1, h3, h4, h5, h6, h7⟩ := h
  refine ⟨a, cap, heap_set_same h1 m _, h3, h4, h5, h2, h7.imp id fun ⟨b, o, e, hb, hne, hB⟩ => ⟨b, o, e, hb, hne, hB.block ?_⟩⟩
  exact (Below.heap_setCell (w.drewN m) ⟨g, 1, none⟩ _ b hne).trans rfl
theorem RdIs.setWhy {L : Nat → Prop} {w : World} {g : Nat} {p : List UInt8} {k : Nat} {y : Int} (h : RdIs L w g p k y) (m : Nat) (y2 : Int) : RdIs L ((w.drewN m).setCell ⟨g, 2, none⟩ (.int .i64 y2)) g p k y2 := by
  obtain ⟨a, cap, h1, h3, h4, h5, h6, h7⟩ := h
  refine ⟨a, cap, heap_set_same h1 m _, h3, h4, h5, h6, h7.imp id fun ⟨b, o, e, hb, hne, hB⟩ => ⟨b, o, e, hb, hne, hB.block ?_⟩⟩
  exact (Below.heap_setCell (w.drewN m) ⟨g, 2, none⟩ _ b hne).trans rfl
theorem RdIs.free {L : Nat → Prop} {w : World} {g : Nat} {p : List UInt8} {k : Nat} {y : Int} (h : RdIs L w g p k y) (i : Nat) : w.frozen? ⟨g, i, none⟩ = false := by
  obtain ⟨a, cap, h1, _⟩ := h
  unfold World.frozen?
  rw [h1]
  simp
theorem RdIs.cells {L : Nat → Prop} {w : World} {g : Nat} {p : List UInt8} {k : Nat} {y : Int} (h : RdIs L w g p k y) :
    ∃ a cap, w.cell? ⟨g, 0, none⟩ = some (.slice a p.length cap) ∧ w.cell? ⟨g, 1, none⟩ = some (.int .i64 (k : Int)) ∧ w.cell? ⟨g, 2, none⟩ = some (.int .i64 y) ∧ p.length ≤ cap ∧ (p = [] ∨ ∃ b o, a = some ⟨b, o, none⟩ ∧ BytesAt w b o p) := by
  obtain ⟨a, cap, h1, h2, h3, h4, h5, h6⟩ := h
  refine ⟨a, cap, ?_, ?_, ?_, h3, h6.imp id fun ⟨b, o, e, _, _, hb⟩ => ⟨b, o, e, hb⟩⟩ <;> simp [World.cell?, h1]

set_option maxRecDepth 100000 in
set_option maxHeartbeats 1000000 in
theorem readsNothing_any (L : Nat → Prop) (g : Nat) (p : List UInt8) (k : Nat) (y : Int) (w : World) (h : RdIs L w g p k y) :
    Calls Tryz.prog 30 #[.pointer (some ⟨g, 0, none⟩)] w fun e w' => e = .returned (.bool (y != 0)) ∧ w' = w := by
  obtain ⟨a, cap, c0, c1, c2, hc, r⟩ := h.cells
  clear r h
  go_enter Tryz.func30, Tryz.ntmps30
  go_wp2
  go_ret
  exact ⟨rfl, rfl⟩

set_option maxRecDepth 100000 in
set_option maxHeartbeats 1000000 in
theorem left_any (L : Nat → Prop) (g : Nat) (p : List UInt8) (k : Nat) (y : Int) (w : World) (h : RdIs L w g p k y) :
    Calls Tryz.prog 34 #[.pointer (some ⟨g, 0, none⟩)] w fun e w' => e = .returned (.int .i64 ((p.length : Int) - (k : Int))) ∧ ∃ m, w' = w.drewN m := by
  obtain ⟨hk, hl⟩ := h.at_le
  obtain ⟨a, cap, c0, c1, c2, hc, r⟩ := h.cells
  clear r h
  go_enter Tryz.func34, Tryz.ntmps34
  go_wp2
  go_quiet (fail)
  go_wp2
  go_ret
  exact ⟨rfl, _, rfl⟩

/-- The error that Why tells, and its place. -/
def badL (k : Nat) (y : Int) : Int := if y = 0 then 0 else (k : Int)

set_option maxRecDepth 100000 in
set_option maxHeartbeats 1000000 in
theorem why_any (L : Nat → Prop) (g : Nat) (p : List UInt8) (k : Nat) (y : Int) (w : World) (h : RdIs L w g p k y) :
    Calls Tryz.prog 33 #[.pointer (some ⟨g, 0, none⟩)] w fun e w' => e = .returned (.tuple #[.int .i64 y, .int .i64 (badL k y)]) ∧ ∃ m, w' = w.drewN m := by
  obtain ⟨hk, hl⟩ := h.at_le
  obtain ⟨a, cap, c0, c1, c2, hc, r⟩ := h.cells
  clear r h
  by_cases hy : y = 0
  · subst hy
    have HE : Hid (badL k 0 = 0) := rfl
    go_enter Tryz.func33, Tryz.ntmps33
    go_wp2
    go_ret2
    exact ⟨by rw [HE.out]; rfl, 0, rfl⟩
  · have HE : Hid (badL k y = k) := by show _ = _; unfold badL; rw [if_neg hy]
    have q : (y == 0) = false := by simp [hy]
    go_enter Tryz.func33, Tryz.ntmps33
    go_wp2
    go_quiet (fail)
    go_wp2
    go_ret2
    exact ⟨by rw [HE.out]; rfl, _, rfl⟩

/-- What Done tells. -/
def doneL (p : List UInt8) (k : Nat) (y : Int) : Int := if y = 0 then (if k < p.length then 7 else 0) else y

set_option maxRecDepth 100000 in
set_option maxHeartbeats 1000000 in
theorem done_any (L : Nat → Prop) (g : Nat) (p : List UInt8) (k : Nat) (y : Int) (w : World) (h : RdIs L w g p k y) :
    Calls Tryz.prog 15 #[.pointer (some ⟨g, 0, none⟩)] w fun e w' => e = .returned (.int .i64 (doneL p k y)) ∧ ∃ m, w' = w.drewN m := by
  obtain ⟨hk, hl⟩ := h.at_le
  have H : Hid (RdIs L w g p k y) := h
  clear h
  go_enter Tryz.func15, Tryz.ntmps15
  go_wp2_with fail
  refine (why_any L g p k y _ H.out).mono ?_
  rintro e w1 ⟨rfl, m1, rfl⟩
  by_cases hy : y = 0
  · subst hy
    have H2 : Hid (RdIs L (w.drewN m1) g p k 0) := H.out.kept fun j _ _ => rfl
    go_wp2_with fail
    refine (left_any L g p k 0 _ H2.out).mono ?_
    rintro e w2 ⟨rfl, m2, rfl⟩
    by_cases hlt : k < p.length
    · have HE : Hid (doneL p k 0 = 7) := by show _ = _; unfold doneL; simp [hlt]
      go_wp2
      go_ret
      exact ⟨ret_i HE.out.symm, _, rfl⟩
    · have HE : Hid (doneL p k 0 = 0) := by show _ = _; unfold doneL; simp [hlt]
      go_wp2
      go_ret
      exact ⟨ret_i HE.out.symm, _, rfl⟩
  · have HE : Hid (doneL p k y = y) := by show _ = _; unfold doneL; rw [if_neg hy]
    have q : (y != 0) = true := by simp [hy]
    clear hy
    go_wp2
    go_ret
    exact ⟨ret_i HE.out.symm, _, rfl⟩

/-- What a Count makes of a reader that stands at k with the error y: the answer, the place, the error. -/
def rdC (p : List UInt8) (k : Nat) (y most : Int) : Int × Nat × Int :=
  if y = 0 then
    match cntL (p.drop k) most with
    | (n, s, e) => if e = 0 then ((n : Int), k + s, 0) else (0, k, e)
  else (0, k, y)
theorem cntL_len {p : List UInt8} {most : Int} : (cntL p most).2.1 ≤ p.length ∧ (cntL p most).1 < 9223372036854775808 ∧ (cntL p most).2.1 ≤ 9 := by
  unfold cntL
  cases h : numL p with
  | none => simp
  | some x =>
    obtain ⟨n, k⟩ := x
    have := numL_le h
    simp only
    split <;> simp <;> omega

/-- Where a slice expression's answer begins. -/
def cutA (a : Option Addr) (cap k : Nat) : Option Addr :=
  match a with
  | none => none
  | some ad => if cap = k then some ad else some (ad.add k)
/-- The bytes from the place on, as a slice expression makes them. -/
theorem RdIs.rest {L : Nat → Prop} {w : World} {g : Nat} {p : List UInt8} {k : Nat} {y : Int} (h : RdIs L w g p k y) (a : Option Addr) (cap : Nat) (hc : w.cell? ⟨g, 0, none⟩ = some (.slice a p.length cap)) :
    (a = none → p = [] ∧ k = 0) ∧ ∀ m, IsB (w.drewN m) (.slice (cutA a cap k) (p.length - k) (cap - k)) (p.drop k) := by
  obtain ⟨hk, hl⟩ := h.at_le
  obtain ⟨a', cap', c0, c1, c2, hcap, r⟩ := h.cells
  rw [c0] at hc
  injection hc with hc
  injection hc with e1 _ e2
  subst e1 e2
  refine ⟨fun e => ?_, fun m => ⟨_, cap' - k, by rw [List.length_drop], by rw [List.length_drop]; omega, by rw [List.length_drop]; omega, ?_⟩⟩
  · rcases r with rfl | ⟨b, o, rfl, _⟩
    · exact ⟨rfl, by simpa using hk⟩
    · cases e
  · rcases r with rfl | ⟨b, o, rfl, hb⟩
    · exact .inl (by simp)
    · by_cases hk2 : cap' = k
      · exact .inl (List.drop_of_length_le (by omega))
      · exact .inr ⟨b, o + k, by simp only [cutA]; rw [if_neg hk2, Addr.add_lit], (hb.drop k).block rfl⟩
theorem IsB.drewN {w : World} {v : Value} {d : List UInt8} (h : IsB w v d) (m : Nat) : IsB (w.drewN m) v d := h.below ⟨rfl, rfl, rfl, Nat.le_refl _, fun _ _ => rfl⟩

set_option maxRecDepth 100000 in
set_option maxHeartbeats 2000000 in
theorem count_rd (L : Nat → Prop) (g : Nat) (p : List UInt8) (k : Nat) (y most : Int) (w : World) (h : RdIs L w g p k y) :
    Calls Tryz.prog 12 #[.pointer (some ⟨g, 0, none⟩), .int .i64 most] w fun e w' => e = .returned (.int .i64 (rdC p k y most).1) ∧ RdIs L w' g p (rdC p k y most).2.1 (rdC p k y most).2.2 ∧ w.grownBy w' (some g) := by
  obtain ⟨hk, hl⟩ := h.at_le
  obtain ⟨a, cap, c0, c1, c2, hc, r⟩ := h.cells
  have H : Hid (RdIs L w g p k y) := h
  by_cases hy : y = 0
  · subst hy
    obtain ⟨n, s, e, hq⟩ : ∃ n s e, cntL (p.drop k) most = (n, s, e) := ⟨_, _, _, rfl⟩
    have hq2 := cntL_len (p := p.drop k) (most := most)
    rw [hq, List.length_drop] at hq2
    simp only at hq2
    obtain ⟨hs1, hn1, hs2⟩ := hq2
    have HRD : Hid (rdC p k 0 most = if e = 0 then ((n : Int), k + s, 0) else (0, k, e)) := by show _ = _; unfold rdC; rw [if_pos rfl, hq]
    have HC : Hid (∀ v m, IsB (w.drewN m) v (p.drop k) → Calls Tryz.prog 31 #[v, .int .i64 most] (w.drewN m) fun e' w' => e' = .returned (.tuple #[.int .i64 (n : Int), .int .i64 (s : Int), .int .i64 e]) ∧ w' = w.drewN m) := fun v m hb => by
      have := count_any v (p.drop k) most (w.drewN m) hb
      rw [hq] at this
      exact this
    have HR0 := h.rest a cap c0
    have HR : Hid ((a = none → p = [] ∧ k = 0) ∧ ∀ m, IsB (w.drewN m) (.slice (cutA a cap k) (p.length - k) (cap - k)) (p.drop k)) := HR0
    have k1 : (k : Int) ≤ (cap : Int) := by omega
    have f1 := h.free 1
    have f2 := h.free 2
    clear r h HR0 hq hn1
    cases a with
    | none =>
      obtain ⟨rfl, rfl⟩ := HR.out.1 rfl
      obtain rfl : s = 0 := by simpa using hs1
      go_enter Tryz.func12, Tryz.ntmps12
      go_wp2_with (go_at_call 30; refine (readsNothing_any L g _ _ 0 _ H.out).mono ?_; rintro e w' ⟨rfl, hw⟩; replace hw := hw.symm; subst hw)
      go_quiet ((go_at_call 31; exact Calls.quiet_of_same (HC.out _ _ (IsB.non _))))
      by_cases he : e = 0
      · subst he
        have HE : Hid (rdC [] 0 0 most = ((n : Int), 0 + 0, 0)) := HRD.out
        go_wp2
        go_ret
        refine ⟨ret_i (by rw [HE.out]), ?_, ?_⟩
        · rw [HE.out]
          exact H.out.setAt nq 0 (by first | omega | simp)
        · exact grownBy.set _ _ _ _
      · have HE : Hid (rdC [] 0 0 most = (0, 0, e)) := by have h := HRD.out; rw [if_neg he] at h; exact h
        have q : (e != 0) = true := by simp [he]
        clear he
        go_wp2
        go_ret
        refine ⟨ret_i (by rw [HE.out]), ?_, ?_⟩
        · rw [HE.out]
          exact H.out.setWhy nq e
        · exact grownBy.set _ _ _ _
    | some ad =>
      go_enter Tryz.func12, Tryz.ntmps12
      go_wp2_with (go_at_call 30; refine (readsNothing_any L g _ _ 0 _ H.out).mono ?_; rintro e w' ⟨rfl, hw⟩; replace hw := hw.symm; subst hw)
      go_quiet ((go_at_call 31; exact Calls.quiet_of_same (HC.out _ _ (HR.out.2 _))))
      generalize (if cap = k then some ad else some (ad.add k)) = zz
      by_cases he : e = 0
      · subst he
        have HE : Hid (rdC p k 0 most = ((n : Int), k + s, 0)) := HRD.out
        go_wp2
        go_ret
        refine ⟨ret_i (by rw [HE.out]), ?_, ?_⟩
        · rw [HE.out]
          exact H.out.setAt nq (k + s) (by first | omega | simp)
        · exact grownBy.set _ _ _ _
      · have HE : Hid (rdC p k 0 most = (0, k, e)) := by have h := HRD.out; rw [if_neg he] at h; exact h
        have q : (e != 0) = true := by simp [he]
        clear he
        go_wp2
        go_ret
        refine ⟨ret_i (by rw [HE.out]), ?_, ?_⟩
        · rw [HE.out]
          exact H.out.setWhy nq e
        · exact grownBy.set _ _ _ _
  · have HE : Hid (rdC p k y most = (0, k, y)) := by show _ = _; unfold rdC; rw [if_neg hy]
    have q : (y != 0) = true := by simp [hy]
    clear hy r h
    go_enter Tryz.func12, Tryz.ntmps12
    go_wp2_with (go_at_call 30; refine (readsNothing_any L g _ _ y _ H.out).mono ?_; rintro e w' ⟨rfl, hw⟩; replace hw := hw.symm; subst hw)
    go_ret
    refine ⟨ret_i (by rw [HE.out]), ?_, grownBy.same _ _⟩
    rw [HE.out]
    exact H.out

set_option maxRecDepth 100000 in
set_option maxHeartbeats 2000000 in
theorem num_rd (L : Nat → Prop) (g : Nat) (p : List UInt8) (k : Nat) (y : Int) (w : World) (h : RdIs L w g p k y) :
    Calls Tryz.prog 10 #[.pointer (some ⟨g, 0, none⟩)] w fun e w' => e = .returned (.int .i64 (rdC p k y 9223372036854775807).1) ∧ RdIs L w' g p (rdC p k y 9223372036854775807).2.1 (rdC p k y 9223372036854775807).2.2 ∧ w.grownBy w' (some g) := by
  have H : Hid (RdIs L w g p k y) := h
  clear h
  go_enter Tryz.func10, Tryz.ntmps10
  go_wp2_with fail
  refine (count_rd L g p k y _ _ H.out).mono ?_
  rintro e w1 ⟨rfl, hr, hg⟩
  go_wp2
  go_ret
  exact ⟨rfl, hr, hg⟩

end Go.Proofs.YtlioiblpcpaejaaGreat

namespace Go.Proofs.YtlioiblpcpaejaaGreat
open Go.RowKit
set_option linter.unusedVariables false

theorem RdIs.cut {L : Nat → Prop} {w : World} {g : Nat} {p : List UInt8} {k : Nat} {y : Int} (h : RdIs L w g p k y) (a : Option Addr) (cap : Nat) (hc : w.cell? ⟨g, 0, none⟩ = some (.slice a p.length cap)) (m i : Nat) (u : Value) :
    IsB ((w.drewN m).setCell ⟨g, i, none⟩ u) (.slice (cutA a cap k) (p.drop k).length (cap - k)) (p.drop k) := by
  obtain ⟨hk, hl⟩ := h.at_le
  obtain ⟨a', cap', h1, h2, h3, h4, h5, h6⟩ := h
  have c0 : w.cell? ⟨g, 0, none⟩ = some (.slice a' p.length cap') := by simp [World.cell?, h1]
  rw [c0] at hc
  injection hc with hc
  injection hc with e1 _ e2
  subst e1 e2
  refine ⟨_, cap' - k, rfl, by rw [List.length_drop]; omega, by rw [List.length_drop]; omega, ?_⟩
  rcases h6 with rfl | ⟨b, o, rfl, _, hne, hb⟩
  · exact .inl (by simp)
  · by_cases hk2 : cap' = k
    · exact .inl (List.drop_of_length_le (by omega))
    · exact .inr ⟨b, o + k, by simp only [cutA]; rw [if_neg hk2, Addr.add_lit], (hb.drop k).block ((Below.heap_setCell (w.drewN m) ⟨g, i, none⟩ u b hne).trans rfl)⟩

/-- What a Text makes of a reader that stands at k with the error y: the answer, the place, the error. -/
def rdT (p : List UInt8) (k : Nat) (y most : Int) : List UInt8 × Nat × Int :=
  if y = 0 then
    match cntL (p.drop k) most with
    | (n, s, e) => if e = 0 then (if p.length - k - s < n then ([], k, 2) else ((p.drop (k + s)).take n, k + s + n, 0)) else ([], k, e)
  else ([], k, y)

set_option maxRecDepth 100000 in
set_option maxHeartbeats 2000000 in
theorem text_rd (L : Nat → Prop) (g : Nat) (p : List UInt8) (k : Nat) (y most : Int) (w : World) (h : RdIs L w g p k y) :
    Calls Tryz.prog 63 #[.pointer (some ⟨g, 0, none⟩), .int .i64 most] w fun e w' => e = .returned (.string (txt (rdT p k y most).1)) ∧ RdIs L w' g p (rdT p k y most).2.1 (rdT p k y most).2.2 ∧ w.grownBy w' (some g) := by
  obtain ⟨hk, hl⟩ := h.at_le
  obtain ⟨a, cap, c0, c1, c2, hc, r⟩ := h.cells
  have H : Hid (RdIs L w g p k y) := h
  by_cases hy : y = 0
  · subst hy
    obtain ⟨n, s, e, hq⟩ : ∃ n s e, cntL (p.drop k) most = (n, s, e) := ⟨_, _, _, rfl⟩
    have hq2 := cntL_len (p := p.drop k) (most := most)
    rw [hq, List.length_drop] at hq2
    simp only at hq2
    obtain ⟨hs1, hn1, hs2⟩ := hq2
    have HRD : Hid (rdT p k 0 most = if e = 0 then (if p.length - k - s < n then ([], k, 2) else ((p.drop (k + s)).take n, k + s + n, 0)) else ([], k, e)) := by show _ = _; unfold rdT; rw [if_pos rfl, hq]
    have HC : Hid (∀ v m, IsB (w.drewN m) v (p.drop k) → Calls Tryz.prog 31 #[v, .int .i64 most] (w.drewN m) fun e' w' => e' = .returned (.tuple #[.int .i64 (n : Int), .int .i64 (s : Int), .int .i64 e]) ∧ w' = w.drewN m) := fun v m hb => by
      have := count_any v (p.drop k) most (w.drewN m) hb
      rw [hq] at this
      exact this
    have HR0 := h.rest a cap c0
    have HR : Hid ((a = none → p = [] ∧ k = 0) ∧ ∀ m, IsB (w.drewN m) (.slice (cutA a cap k) (p.length - k) (cap - k)) (p.drop k)) := HR0
    have k1 : (k : Int) ≤ (cap : Int) := by omega
    have f1 := h.free 1
    have f2 := h.free 2
    have HX : Hid (∀ m u, IsB ((w.drewN m).setCell ⟨g, 1, none⟩ u) (.slice (cutA a cap k) (p.drop k).length (cap - k)) (p.drop k)) := fun m u => h.cut a cap c0 m 1 u
    clear r h HR0 hq
    cases a with
    | none =>
      obtain ⟨rfl, rfl⟩ := HR.out.1 rfl
      obtain rfl : s = 0 := by simpa using hs1
      go_enter Tryz.func63, Tryz.ntmps63
      go_wp2_with (go_at_call 30; refine (readsNothing_any L g _ _ 0 _ H.out).mono ?_; rintro e w' ⟨rfl, hw⟩; replace hw := hw.symm; subst hw)
      go_quiet (fail)
      go_wp2_with fail
      refine (HC.out _ _ (IsB.non _)).mono ?_
      rintro e' w' ⟨rfl, rfl⟩
      by_cases he : e = 0
      · subst he
        by_cases hn : 0 < n
        · have HE : Hid (rdT [] 0 0 most = ([], 0, 2)) := by have h := HRD.out; rw [if_pos rfl, if_pos (by simpa using hn)] at h; exact h
          go_wp2
          go_ret
          refine ⟨by rw [HE.out]; rfl, ?_, ?_⟩
          · rw [HE.out]
            exact H.out.setWhy _ 2
          · exact grownBy.set _ _ _ _
        · obtain rfl : n = 0 := by omega
          have HE : Hid (rdT [] 0 0 most = ([], 0, 0)) := HRD.out
          have hcv : ∀ c m u, (convert 22 9 (.slice none 0 c)).run Tryz.prog ((w.drewN m).setCell ⟨g, 1, none⟩ u) = .ok (.string (txt [])) ((w.drewN m).setCell ⟨g, 1, none⟩ u) := fun c m u => conv_txt (IsB.non _)
          go_wp2
          go_ret
          refine ⟨by rw [HE.out]; rfl, ?_, ?_⟩
          · rw [HE.out]
            exact H.out.setAt _ 0 (Nat.zero_le _)
          · exact grownBy.set _ _ _ _
      · have HE : Hid (rdT [] 0 0 most = ([], 0, e)) := by have h := HRD.out; rw [if_neg he] at h; exact h
        have q : (e != 0) = true := by simp [he]
        have q2 : (e == 0) = false := by simp [he]
        clear he
        go_wp2
        go_ret
        refine ⟨by rw [HE.out]; rfl, ?_, ?_⟩
        · rw [HE.out]
          exact H.out.setWhy _ e
        · exact grownBy.set _ _ _ _
    | some ad =>
      go_enter Tryz.func63, Tryz.ntmps63
      go_wp2_with (go_at_call 30; refine (readsNothing_any L g _ _ 0 _ H.out).mono ?_; rintro e w' ⟨rfl, hw⟩; replace hw := hw.symm; subst hw)
      go_quiet (fail)
      have HR2 : Hid (∀ m, IsB (w.drewN m) (.slice (if cap = k then some ad else some (ad.add k)) (p.length - k) (cap - k)) (p.drop k)) := HR.out.2
      have HX2 : Hid (∀ m u, IsB ((w.drewN m).setCell ⟨g, 1, none⟩ u) (.slice (if cap = k then some ad else some (ad.add k)) (p.drop k).length (cap - k)) (p.drop k)) := HX.out
      clear HX HR
      generalize (if cap = k then some ad else some (ad.add k)) = zz at *
      go_wp2_with fail
      refine (HC.out _ _ (HR2.out _)).mono ?_
      rintro e' w' ⟨rfl, rfl⟩
      by_cases he : e = 0
      · subst he
        by_cases hn : p.length - k - s < n
        · have HE : Hid (rdT p k 0 most = ([], k, 2)) := by have h := HRD.out; rw [if_pos rfl, if_pos hn] at h; exact h
          have q1 : ((p.length - k : Nat) : Int) - (s : Int) < (n : Int) := by omega
          go_wp2
          go_ret
          refine ⟨by rw [HE.out]; rfl, ?_, ?_⟩
          · rw [HE.out]
            exact H.out.setWhy _ 2
          · exact grownBy.set _ _ _ _
        · have HE : Hid (rdT p k 0 most = ((p.drop (k + s)).take n, k + s + n, 0)) := by have h := HRD.out; rw [if_pos rfl, if_neg hn] at h; exact h
          have q1 : ¬ ((p.length - k : Nat) : Int) - (s : Int) < (n : Int) := by omega
          have hkn : k + s + n ≤ p.length := by omega
          have hcv : ∀ m u, (convert 22 9 (.slice (Option.map (fun x => x.add s) zz) n (cap - k - s))).run Tryz.prog ((w.drewN m).setCell ⟨g, 1, none⟩ u) = .ok (.string (txt ((p.drop (k + s)).take n))) ((w.drewN m).setCell ⟨g, 1, none⟩ u) := fun m u => by
            have := (HX2.out m u).sub s n (by rw [List.length_drop]; omega)
            rw [List.drop_drop] at this
            exact conv_txt this
          by_cases hcs : cap - k = s
          · obtain rfl : n = 0 := by omega
            have hcv0 : ∀ m u, (convert 22 9 (.slice zz 0 0)).run Tryz.prog ((w.drewN m).setCell ⟨g, 1, none⟩ u) = .ok (.string (txt ((p.drop (k + s)).take 0))) ((w.drewN m).setCell ⟨g, 1, none⟩ u) := fun m u => by
              rw [List.take_zero]
              exact conv_txt (IsB.none0 _ _)
            go_wp2
            go_ret
            refine ⟨by rw [HE.out]; rfl, ?_, ?_⟩
            · rw [HE.out]
              exact H.out.setAt _ (k + s) (by omega)
            · exact grownBy.set _ _ _ _
          · go_wp2
            go_ret
            refine ⟨by rw [HE.out]; rfl, ?_, ?_⟩
            · rw [HE.out]
              rw [show (k : Int) + ((s : Int) + (n : Int)) = ((k + s + n : Nat) : Int) by omega]
              exact H.out.setAt _ (k + s + n) hkn
            · exact grownBy.set _ _ _ _
      · have HE : Hid (rdT p k 0 most = ([], k, e)) := by have h := HRD.out; rw [if_neg he] at h; exact h
        have q : (e != 0) = true := by simp [he]
        have q2 : (e == 0) = false := by simp [he]
        clear he
        go_wp2
        go_ret
        refine ⟨by rw [HE.out]; rfl, ?_, ?_⟩
        · rw [HE.out]
          exact H.out.setWhy _ e
        · exact grownBy.set _ _ _ _
  · have HE : Hid (rdT p k y most = ([], k, y)) := by show _ = _; unfold rdT; rw [if_neg hy]
    have q : (y != 0) = true := by simp [hy]
    clear hy r h
    go_enter Tryz.func63, Tryz.ntmps63
    go_wp2_with (go_at_call 30; refine (readsNothing_any L g _ _ y _ H.out).mono ?_; rintro e w' ⟨rfl, hw⟩; replace hw := hw.symm; subst hw)
    go_ret
    refine ⟨by rw [HE.out]; rfl, ?_, grownBy.same _ _⟩
    rw [HE.out]
    exact H.out

end Go.Proofs.YtlioiblpcpaejaaGreat

namespace Go.Proofs.YtlioiblpcpaejaaGreat
open Go.RowKit
set_option linter.unusedVariables false

/-- From block b, offset o on lie these texts. -/
def TextsAt (w : World) (b o : Nat) (ss : List ByteArray) : Prop := ∀ i (h : i < ss.length), w.cell? ⟨b, o + i, none⟩ = some (.string ss[i])
theorem TextsAt.below {w w' : World} {b o : Nat} {d : List ByteArray} (h : TextsAt w b o d) (hb : Below w.heap.size w w') : TextsAt w' b o d := by
  intro i hi
  have h0 := h i hi
  have hlt : b < w.heap.size := World.block_lt_of_cell? w _ h0
  exact (hb.cell (p := ⟨b, o + i, none⟩) hlt).trans h0
/-- The value is a slice of these texts. -/
def IsT (w : World) (v : Value) (ss : List ByteArray) : Prop :=
  ∃ (a : Option Addr) (cap : Nat), v = .slice a ss.length cap ∧ ss.length ≤ cap ∧ ss.length ≤ 17592186044416 ∧ (ss = [] ∨ ∃ b o, a = some ⟨b, o, none⟩ ∧ TextsAt w b o ss)
theorem IsT.below {w w' : World} {v : Value} {d : List ByteArray} (h : IsT w v d) (hb : Below w.heap.size w w') : IsT w' v d := by
  obtain ⟨a, cap, e, hc, hl, h⟩ := h
  exact ⟨a, cap, e, hc, hl, h.imp id fun ⟨b, o, e2, hr⟩ => ⟨b, o, e2, hr.below hb⟩⟩
/-- A text's bytes; those of texts, one behind the other. -/
def textB (s : ByteArray) : List UInt8 := putL s.size ++ s.data.toList
def textsB (ss : List ByteArray) : List UInt8 := ss.flatMap textB
theorem textB_length (s : ByteArray) : (textB s).length = (putL s.size).length + s.size := by
  unfold textB
  rw [List.length_append, Array.length_toList]
  rfl
theorem textsB_snoc {d : List ByteArray} {k : Nat} (h : k < d.length) : textsB (d.take (k + 1)) = textsB (d.take k) ++ textB d[k] := by
  rw [List.take_succ_eq_append_getElem h]; simp only [textsB, List.flatMap_append, List.flatMap_cons, List.flatMap_nil, List.append_nil]
theorem textsB_take (d : List ByteArray) (k : Nat) : (textsB (d.take k)).length ≤ (textsB d).length := by
  conv => rhs; rw [← List.take_append_drop k d]
  simp only [textsB, List.flatMap_append, List.length_append]
  omega

set_option maxRecDepth 100000 in
set_option maxHeartbeats 1000000 in
/-- octet.PutText. -/
theorem putText_any (vb vl : Value) (p : List UInt8) (d : List ByteArray) (w : World) (h1 : IsB w vb p) (h2 : IsT w vl d) (hl : p.length + (textsB d).length ≤ 140737488355328) :
    Calls Tryz.prog 56 #[vb, vl] w fun e w' => ∃ v', e = .returned v' ∧ OwnB w.heap.size w' v' (p ++ textsB d) ∧ Below w.heap.size w w' := by
  obtain ⟨i0, hi, hz0, hz1, hz2⟩ := info_parts infoByte
  obtain ⟨a2, c2, rfl, hc2, hl2, r2⟩ := h2
  have H1 : Hid (IsB w vb p) := h1
  have HR : Hid (d = [] ∨ ∃ b o, a2 = some ⟨b, o, none⟩ ∧ TextsAt w b o d) := r2
  clear h1 r2
  go_enter Tryz.func56, Tryz.ntmps56
  go_wp2_with (at_builtin; refine wpList_copyB rfl _ _ rfl _ p rfl rfl H1.out (by omega) ?_; intro v1 w1 ho1 hb1)
  have HO1 : Hid (OwnB w.heap.size w1 v1 (p ++ textsB (d.take 0))) := by show OwnB _ _ _ _; simpa [textsB] using ho1
  have HB1 : Hid (Below w.heap.size w w1) := hb1
  clear ho1 hb1
  go_loopw [5, 12] (fun u i wr => ∃ k : Nat, k ≤ d.length ∧ i = .int .i64 (k : Int) ∧ Hid (OwnB w.heap.size wr u (p ++ textsB (d.take k))) ∧ Hid (Below w.heap.size w wr)) (fun _ i _ => d.length - (intOf i).toNat)
  case atStart => exact ⟨0, Nat.zero_le _, rfl, HO1, HB1⟩
  case round =>
    obtain ⟨k, hk, rfl, HO, HB⟩ := hrel
    have hsz := HB.out.size
    by_cases hlt : k < d.length
    · obtain ⟨b1, o1, rfl, g1⟩ := HR.out.resolve_left (by intro e; subst e; simp at hlt)
      have x1 := (g1.below HB.out) k hlt
      clear g1
      have k1 : (k : Int) < (d.length : Int) := by omega
      have k0 : (0 : Int) ≤ (k : Int) := by omega
      have HTS : Hid (p ++ textsB (d.take (k + 1)) = ((p ++ textsB (d.take k)) ++ putL d[k].size) ++ d[k].data.toList) := by show _ = _; rw [textsB_snoc hlt, textB]; simp
      have hlen : (p ++ textsB (d.take k)).length + (putL d[k].size).length + d[k].size ≤ 140737488355328 := by
        have h1 := congrArg List.length (textsB_snoc hlt)
        have h2 := textsB_take d (k + 1)
        rw [List.length_append, textB_length] at h1
        rw [List.length_append]
        omega
      generalize d[k] = x at *
      have HLen : Hid ((p ++ textsB (d.take k)).length + (putL ((x.size : Nat) : Int).toNat).length ≤ 140737488355328) := by show _ ≤ _; rw [Int.toNat_natCast]; omega
      have hx : x.size ≤ 140737488355328 := by omega
      go_wp2_with fail
      refine (appendNumber_any _ _ _ (x.size : Int) _ (by omega) HO.out hsz HLen.out).mono ?_
      rintro e w2 ⟨v2, rfl, ho2, hb2⟩
      rw [Int.toNat_natCast] at ho2
      have HO2 : Hid (OwnB w.heap.size w2 v2 ((p ++ textsB (d.take k)) ++ putL x.size)) := ho2
      have HB2 : Hid (Below w.heap.size w w2) := HB.out.trans hb2
      have hsz2 := HB2.out.size
      clear ho2 hb2
      go_wp2_with (at_builtin; refine Lib.wpList_append_own_string _ rfl _ _ 22 9 rfl w.heap.size 5 i0 Tryz.underlying22 Tryz.underlying9 hi hz0 hz1 hz2 _ _ _ rfl HO2.out x rfl (by unfold maxLen; rw [List.length_append]; omega) (by rw [List.length_append]; omega) hsz2 ?_; intro v3 w3 hown3 hgrow3 hnil3)
      have HO3 : Hid (OwnB w.heap.size w3 v3 (p ++ textsB (d.take (k + 1)))) := by
        show OwnB _ _ _ _
        rw [HTS.out]
        refine OwnB.more hown3 ?_ (by rw [strCells_eq])
        rw [Array.length_toList]; rfl
      have HB3 : Hid (Below w.heap.size w w3) := HB2.out.grown hgrow3 hsz2 (fun j e => (World.ownsRow.lt HO2.out j e).1)
      go_roundw
      case rel => exact ⟨k + 1, by omega, by go_num, HO3, HB3⟩
      case measure => simp [intOf]; omega
    · obtain rfl : k = d.length := by omega
      have HTK : Hid (d.take d.length = d) := List.take_length
      rw [HTK.out] at HO
      go_wp2
      go_ret
      exact ⟨_, rfl, HO.out, HB.out⟩

end Go.Proofs.YtlioiblpcpaejaaGreat
