/- What reading a number does: number, count, and the document's Num. -/
import Derived.Test.YtfjejobakknipaaRowB
namespace Go.Proofs.Ytfjejobakknipaa
open Go.RowKit
set_option linter.unusedVariables false

theorem pow_cases (i : Nat) (hi : i ≤ 8) : 128 ^ i = 2 ^ (7 * i) ∧ (128 : Nat) ^ i ≤ 72057594037927936 ∧ 0 < (128 : Nat) ^ i := by
  refine ⟨by rw [show (128 : Nat) = 2 ^ 7 from rfl, ← Nat.pow_mul], ?_, Nat.pow_pos (by decide)⟩
  calc (128 : Nat) ^ i ≤ 128 ^ 8 := Nat.pow_le_pow_right (by decide) hi
    _ = 72057594037927936 := by decide
theorem mul_le_pow {x q : Nat} (hx : x < 128) (hq : q ≤ 72057594037927936) : x * q ≤ 9151314442816847872 := by
  calc x * q ≤ 127 * 72057594037927936 := Nat.mul_le_mul (by omega) hq
    _ = 9151314442816847872 := by decide
theorem or_step (i acc x : Nat) (hi : i ≤ 8) (ha : acc < 128 ^ i) (hx : x < 128) : bits .or .i64 (acc : Int) ((x * 128 ^ i : Nat) : Int) = ((acc + x * 128 ^ i : Nat) : Int) := by
  obtain ⟨h1, h2, h3⟩ := pow_cases i hi
  have h4 := mul_le_pow hx h2
  have w63 : ∀ n : Int, 0 ≤ n → n < 2 ^ 63 → IntKind.i64.wrap n = n := fun n a b => by rw [IntKind.wrap_i64]; omega
  rw [(bits_nat .i64 63 (by decide) w63 acc (x * 128 ^ i) (by omega) (by omega)).2]
  congr 1
  rw [h1] at ha ⊢
  rw [Nat.or_comm, Nat.mul_comm, ← Nat.two_pow_add_eq_or_of_lt ha x, Nat.add_comm]

theorem or_val (i acc c : Nat) (hi : i ≤ 8) (ha : acc < 128 ^ i) : bits .or .i64 (acc : Int) (wrap64 ((c : Int) % 128 * 2 ^ (7 * i))) = ((acc + c % 128 * 128 ^ i : Nat) : Int) := by
  obtain ⟨h1, h2, h3⟩ := pow_cases i hi
  have hx : c % 128 < 128 := Nat.mod_lt _ (by decide)
  have h4 := mul_le_pow hx h2
  have e1 : ((c : Int) % 128 * 2 ^ (7 * i)) = ((c % 128 * 128 ^ i : Nat) : Int) := by rw [h1]; push_cast; rfl
  rw [e1, show wrap64 ((c % 128 * 128 ^ i : Nat) : Int) = ((c % 128 * 128 ^ i : Nat) : Int) by unfold wrap64; omega]
  exact or_step i acc (c % 128) hi ha hx
theorem wrap_add {acc r : Nat} (h1 : acc < 72057594037927936) (h2 : r ≤ 9151314442816847872) : wrap64 ((acc : Int) + wrap64 (r : Int)) = ((acc + r : Nat) : Int) := by unfold wrap64; omega
theorem wrap_small {acc : Nat} (h1 : acc < 72057594037927936) : wrap64 (acc : Int) = (acc : Int) := by unfold wrap64; omega
theorem wrap_q {q : Nat} (h1 : q ≤ 562949953421312) : wrap64 ((q : Int) * 128) = ((q * 128 : Nat) : Int) := by unfold wrap64; omega
theorem acc_lt {i acc x : Nat} (ha : acc < 128 ^ i) (hx : x < 128) : acc + x * 128 ^ i < 128 ^ (i + 1) := by
  rw [Nat.pow_succ]
  have : x * 128 ^ i ≤ 127 * 128 ^ i := Nat.mul_le_mul_right _ (by omega)
  omega

/-- What a reading of a number tells: the number and how many bytes it has; or that there is none. -/
def NumTold (p : List UInt8) (e : Ending) : Prop := ∃ (n k : Nat) (b : Bool), e = .returned (.tuple #[.int .i64 (n : Int), .int .i64 (k : Int), .bool b]) ∧ ((b = true ∧ numL p = some (n, k)) ∨ (b = false ∧ numL p = none))
theorem NumTold.yes {p : List UInt8} {n k : Nat} {e : Ending} (h : e = .returned (.tuple #[.int .i64 (n : Int), .int .i64 (k : Int), .bool true])) (hn : numL p = some (n, k)) : NumTold p e := ⟨n, k, true, h, .inl ⟨rfl, hn⟩⟩
theorem NumTold.no {p : List UInt8} {n k : Nat} {e : Ending} (h : e = .returned (.tuple #[.int .i64 (n : Int), .int .i64 (k : Int), .bool false])) (hn : numL p = none) : NumTold p e := ⟨n, k, false, h, .inr ⟨rfl, hn⟩⟩

set_option maxRecDepth 100000 in
set_option maxHeartbeats 1000000 in
/-- octet.number. -/
theorem number_any (v : Value) (p : List UInt8) (w : World) (h1 : IsB w v p) :
    Calls Try.prog 32 #[v] w fun e w' => NumTold p e ∧ w' = w := by
  obtain ⟨a1, c1, rfl, hc1, hl1, r1⟩ := h1
  have HR : Hid (p = [] ∨ ∃ b o, a1 = some ⟨b, o, none⟩ ∧ BytesAt w b o p) := r1
  clear r1
  go_enter Try.func32, Try.ntmps32
  go_wp2
  go_step3
  go_wp2
  go_step3
  go_wp2
  go_loop [2, 9] (fun n i => ∃ acc k : Nat, n = .int .i64 (acc : Int) ∧ i = .int .i64 (k : Int) ∧ k ≤ p.length ∧ k ≤ 8 ∧ Hid (acc < 128 ^ k) ∧ Hid (numL p = numA (9 - k) k acc (p.drop k))) (fun _ i => p.length - (intOf i).toNat)
  case atStart => exact ⟨0, 0, rfl, rfl, Nat.zero_le _, by omega, by show _ < _; simp, rfl⟩
  case round =>
    obtain ⟨acc, k, rfl, rfl, hk, hk8, HA, HN⟩ := hrel
    by_cases hlt : k < p.length
    · obtain ⟨b1, o1, rfl, g1⟩ := HR.out.resolve_left (by intro e; subst e; simp at hlt)
      have x1 := g1 k hlt
      clear g1
      have k1 : (k : Int) < (p.length : Int) := by omega
      have k0 : (0 : Int) ≤ (k : Int) := by omega
      have hc := UInt8.toNat_lt p[k]
      have HA0 : Hid (¬ (p[k].toNat < 128) → numL p = numA (9 - k - 1) (k + 1) (acc + p[k].toNat % 128 * 128 ^ k) (p.drop (k + 1))) := fun h => by
        have := HN.out
        rw [show 9 - k = (9 - k - 1) + 1 by omega, numA_more hlt h] at this
        exact this
      have HA1 : Hid (p[k].toNat < 128 → ¬ (p[k].toNat = 0 ∧ k ≠ 0) → numL p = some (acc + p[k].toNat % 128 * 128 ^ k, k + 1)) := fun h h2 => by
        have := HN.out
        rw [show 9 - k = (9 - k - 1) + 1 by omega, numA_last hlt h h2] at this
        exact this
      have HA2 : Hid (p[k].toNat = 0 → k ≠ 0 → numL p = none) := fun h h2 => by
        have := HN.out
        rw [show 9 - k = (9 - k - 1) + 1 by omega, numA_nought hlt h h2] at this
        exact this
      have HV : Hid (bits .or .i64 (acc : Int) (wrap64 ((p[k].toNat : Int) % 128 * 2 ^ (7 * k))) = ((acc + p[k].toNat % 128 * 128 ^ k : Nat) : Int)) := or_val k acc _ hk8 HA.out
      clear HN
      generalize p[k].toNat = c at *
      by_cases hge : c < 128
      · by_cases hz : c = 0
        · subst hz
          by_cases hk0 : k = 0
          · have HE : Hid (numL p = some (acc, k + 1)) := by have := HA1.out (by omega) (by omega); show _ = _; simpa using this
            have HV0 : Hid (bits .or .i64 (acc : Int) 0 = (acc : Int)) := by
              have h := HV.out
              rw [show wrap64 (((0 : Nat) : Int) % 128 * 2 ^ (7 * k)) = 0 by simp; unfold wrap64; omega] at h
              show _ = _; simpa using h
            have hk2 : ¬ (0 : Int) < (k : Int) := by omega
            clear HA0 HA1 HA2 HV HA hk0
            go_wp2
            go_ret3
            refine ⟨NumTold.yes ?_ HE.out, rfl⟩
            rw [HV0.out]
            simp
          · have HE : Hid (numL p = none) := HA2.out rfl hk0
            clear HA0 HA1 HA2 HV HA
            go_wp2
            go_ret3
            exact ⟨NumTold.no (n := 0) (k := 0) rfl HE.out, rfl⟩
        · have HE : Hid (numL p = some (acc + c % 128 * 128 ^ k, k + 1)) := HA1.out hge (by omega)
          clear HA0 HA1 HA2 HA
          go_wp2
          go_ret3
          refine ⟨NumTold.yes ?_ HE.out, rfl⟩
          rw [HV.out]
          simp
      · by_cases h8 : k = 8
        · subst h8
          have HE : Hid (numL p = none) := by have := HA0.out hge; show _ = _; simpa [numA_zero] using this
          clear HA0 HA1 HA2 HV HA
          go_wp2
          go_ret3
          exact ⟨NumTold.no (n := 0) (k := 0) rfl HE.out, rfl⟩
        · have HE : Hid (numL p = numA (9 - (k + 1)) (k + 1) (acc + c % 128 * 128 ^ k) (p.drop (k + 1))) := by
            have := HA0.out hge
            rw [show 9 - k - 1 = 9 - (k + 1) by omega] at this
            exact this
          have HL : Hid (acc + c % 128 * 128 ^ k < 128 ^ (k + 1)) := acc_lt HA.out (Nat.mod_lt _ (by decide))
          have q9 : ((k : Int) + 1 == 9) = false := by simp; omega
          clear HA0 HA1 HA2 HA
          go_wp2
          go_round
          case rel => exact ⟨_, k + 1, by rw [HV.out], by go_num, by omega, by omega, HL, HE⟩
          case measure => simp [intOf]; omega
    · have HE : Hid (numL p = none) := by show _ = _; rw [HN.out]; exact numA_end (by omega)
      go_wp2
      go_ret3
      exact ⟨NumTold.no (n := 0) (k := 0) rfl HE.out, rfl⟩

/-- What count tells of bytes: the number, how many bytes it has, the error. -/
def cntL (p : List UInt8) (most : Int) : Nat × Nat × Int :=
  match numL p with
  | none => (0, 0, 2)
  | some (n, k) => if most < (n : Int) then (0, 0, 3) else (n, k, 0)
theorem cntL_none {p : List UInt8} (most : Int) (h : numL p = none) : cntL p most = (0, 0, 2) := by unfold cntL; rw [h]
theorem cntL_long {p : List UInt8} {most : Int} {n k : Nat} (h : numL p = some (n, k)) (h2 : most < (n : Int)) : cntL p most = (0, 0, 3) := by unfold cntL; rw [h]; simp only; rw [if_pos h2]
theorem cntL_ok {p : List UInt8} {most : Int} {n k : Nat} (h : numL p = some (n, k)) (h2 : ¬ most < (n : Int)) : cntL p most = (n, k, 0) := by unfold cntL; rw [h]; simp only; rw [if_neg h2]

set_option maxRecDepth 100000 in
set_option maxHeartbeats 1000000 in
/-- octet.count. -/
theorem count_any (v : Value) (p : List UInt8) (most : Int) (w : World) (h1 : IsB w v p) :
    Calls Try.prog 31 #[v, .int .i64 most] w fun e w' => e = .returned (.tuple #[.int .i64 ((cntL p most).1 : Int), .int .i64 ((cntL p most).2.1 : Int), .int .i64 (cntL p most).2.2]) ∧ w' = w := by
  obtain ⟨a1, c1, rfl, hc1, hl1, r1⟩ := id h1
  have H1 : Hid (IsB w (.slice a1 p.length c1) p) := h1
  clear h1 r1
  go_enter Try.func31, Try.ntmps31
  go_wp2_with fail
  refine (number_any _ p _ H1.out).mono ?_
  rintro e w1 ⟨⟨n, k, b, rfl, hb⟩, rfl⟩
  rcases hb with ⟨rfl, hn⟩ | ⟨rfl, hn⟩
  · by_cases hm : most < (n : Int)
    · have HE : Hid (cntL p most = (0, 0, 3)) := cntL_long hn hm
      clear hn
      go_wp2
      go_ret3
      exact ⟨by rw [HE.out]; rfl, rfl⟩
    · have HE : Hid (cntL p most = (n, k, 0)) := cntL_ok hn hm
      clear hn
      go_wp2
      go_ret3
      exact ⟨by rw [HE.out]; rfl, rfl⟩
  · have HE : Hid (cntL p most = (0, 0, 2)) := cntL_none most hn
    clear hn
    go_wp2
    go_ret3
    exact ⟨by rw [HE.out]; rfl, rfl⟩

set_option maxRecDepth 100000 in
set_option maxHeartbeats 1000000 in
/-- The document's Num. -/
theorem refNum_any (v : Value) (p : List UInt8) (w : World) (h1 : IsB w v p) :
    Calls Try.prog 28 #[v] w fun e w' => NumTold p e ∧ w' = w := by
  obtain ⟨a1, c1, rfl, hc1, hl1, r1⟩ := h1
  have HR : Hid (p = [] ∨ ∃ b o, a1 = some ⟨b, o, none⟩ ∧ BytesAt w b o p) := r1
  clear r1
  go_enter Try.func28, Try.ntmps28
  go_wp2
  go_loop [5, 6, 7] (fun n by_ i => ∃ acc q k : Nat, n = .int .i64 (acc : Int) ∧ by_ = .int .i64 (q : Int) ∧ i = .int .i64 (k : Int) ∧ k ≤ p.length ∧ k ≤ 9 ∧ Hid (k ≤ 8 → acc < 128 ^ k ∧ q = 128 ^ k) ∧ Hid (numL p = numA (9 - k) k acc (p.drop k))) (fun _ _ i => p.length - (intOf i).toNat)
  case atStart => exact ⟨0, 1, 0, rfl, rfl, rfl, Nat.zero_le _, by omega, by intro _; simp, rfl⟩
  case round =>
    obtain ⟨acc, q, k, rfl, rfl, rfl, hk, hk9, HA, HN⟩ := hrel
    by_cases h9 : k = 9
    · have HE : Hid (numL p = none) := by show _ = _; rw [HN.out, h9]; rfl
      have k9 : ¬ (k : Int) < 9 := by omega
      clear HA HN
      by_cases hlt : (k : Int) < (p.length : Int)
      all_goals (
        go_wp2
        go_ret3
        exact ⟨NumTold.no (n := 0) (k := 0) rfl HE.out, rfl⟩)
    · by_cases hlt : k < p.length
      · obtain ⟨b1, o1, rfl, g1⟩ := HR.out.resolve_left (by intro e; subst e; simp at hlt)
        have x1 := g1 k hlt
        clear g1
        have k1 : (k : Int) < (p.length : Int) := by omega
        have k0 : (0 : Int) ≤ (k : Int) := by omega
        have hk8 : k ≤ 8 := by omega
        obtain ⟨ha, rfl⟩ := HA.out hk8
        obtain ⟨hp1, hp2, hp3⟩ := pow_cases k hk8
        have hc := UInt8.toNat_lt p[k]
        have HA0 : Hid (¬ (p[k].toNat < 128) → numL p = numA (9 - (k + 1)) (k + 1) (acc + p[k].toNat % 128 * 128 ^ k) (p.drop (k + 1))) := fun h => by
          have := HN.out
          rw [show 9 - k = (9 - k - 1) + 1 by omega, numA_more hlt h] at this
          exact this
        have HA1 : Hid (p[k].toNat < 128 → ¬ (p[k].toNat = 0 ∧ k ≠ 0) → numL p = some (acc + p[k].toNat % 128 * 128 ^ k, k + 1)) := fun h h2 => by
          have := HN.out
          rw [show 9 - k = (9 - k - 1) + 1 by omega, numA_last hlt h h2] at this
          exact this
        have HA2 : Hid (p[k].toNat = 0 → k ≠ 0 → numL p = none) := fun h h2 => by
          have := HN.out
          rw [show 9 - k = (9 - k - 1) + 1 by omega, numA_nought hlt h h2] at this
          exact this
        have HL : Hid (acc + p[k].toNat % 128 * 128 ^ k < 128 ^ (k + 1)) := acc_lt ha (Nat.mod_lt _ (by decide))
        have HQ : Hid (k < 8 → (128 : Nat) ^ (k + 1) = 128 ^ k * 128) := fun _ => Nat.pow_succ ..
        have hm : ((p[k].toNat : Int) % 128 * ((128 ^ k : Nat) : Int)) = ((p[k].toNat % 128 * 128 ^ k : Nat) : Int) := by push_cast; rfl
        have hm2 := mul_le_pow (Nat.mod_lt p[k].toNat (by decide : 0 < 128)) hp2
        have hq7 : k < 8 → (128 : Nat) ^ k ≤ 562949953421312 := fun h => by
          calc (128 : Nat) ^ k ≤ 128 ^ 7 := Nat.pow_le_pow_right (by decide) (by omega)
            _ = 562949953421312 := by decide
        clear HN HA hp1
        generalize p[k].toNat = c at *
        generalize hq : (128 : Nat) ^ k = q at *
        generalize hr : c % 128 * q = r at *
        have ha56 : acc < 72057594037927936 := Nat.lt_of_lt_of_le ha hp2
        have HW : Hid (wrap64 ((acc : Int) + wrap64 ((c : Int) % 128 * (q : Int))) = ((acc + r : Nat) : Int)) := by
          show _ = _
          rw [hm]
          exact wrap_add ha56 hm2
        have HW0 : Hid (wrap64 (acc : Int) = (acc : Int)) := wrap_small ha56
        have HW1 : Hid (k < 8 → wrap64 ((q : Int) * 128) = ((q * 128 : Nat) : Int)) := fun h => wrap_q (hq7 h)
        have HR2 : Hid (c % 128 * q = r) := hr
        have HL2 : Hid (k < 8 → acc + r < 128 ^ (k + 1) ∧ q * 128 = 128 ^ (k + 1)) := fun h => ⟨HL.out, (HQ.out h).symm⟩
        clear hr hm hq hm2 hp2 hp3 hq7 HL HQ ha ha56
        by_cases hge : c < 128
        · by_cases hz : c = 0
          · subst hz
            have HR0 : Hid (r = 0) := by have := HR2.out; show _ = _; simpa using this.symm
            by_cases hk0 : k = 0
            · have HE : Hid (numL p = some (acc, k + 1)) := by have := HA1.out (by omega) (by omega); rw [HR0.out] at this; exact this
              have hk2 : ((k : Int) == 0) = true := by simp [hk0]
              clear HA0 HA1 HA2 hk0 HW HR2 HR0
              go_wp2
              go_ret3
              refine ⟨NumTold.yes ?_ HE.out, rfl⟩
              rw [HW0.out]
              simp
            · have HE : Hid (numL p = none) := HA2.out rfl hk0
              have hk2 : ((k : Int) == 0) = false := by simp [hk0]
              clear HA0 HA1 HA2 hk0 HW HR2 HR0
              go_wp2
              go_ret3
              refine ⟨NumTold.no (n := acc) (k := k + 1) ?_ HE.out, rfl⟩
              rw [HW0.out]
              simp
          · have HE : Hid (numL p = some (acc + r, k + 1)) := HA1.out hge (by omega)
            have hz2 : ((c : Int) != 0) = true := by simp [hz]
            clear HA0 HA1 HA2
            go_wp2
            go_ret3
            refine ⟨NumTold.yes ?_ HE.out, rfl⟩
            rw [HW.out]
            simp
        · have HE : Hid (numL p = numA (9 - (k + 1)) (k + 1) (acc + r) (p.drop (k + 1))) := HA0.out hge
          by_cases h8 : k < 8
          · have HZ : Hid (k + 1 ≤ 8 → acc + r < 128 ^ (k + 1) ∧ q * 128 = 128 ^ (k + 1)) := fun _ => HL2.out h8
            have HW2 : Hid (wrap64 ((q : Int) * 128) = ((q * 128 : Nat) : Int)) := HW1.out h8
            clear HA0 HA1 HA2
            go_wp2
            go_round
            case rel => exact ⟨acc + r, q * 128, k + 1, by rw [HW.out], by rw [HW2.out], by go_num, by omega, by omega, HZ, HE⟩
            case measure => simp [intOf]; omega
          · have HZ : Hid (k + 1 ≤ 8 → acc + r < 128 ^ (k + 1) ∧ q = 128 ^ (k + 1)) := fun h => absurd h (by omega)
            clear HA0 HA1 HA2
            go_wp2
            go_round
            case rel => exact ⟨acc + r, q, k + 1, by rw [HW.out], rfl, by go_num, by omega, by omega, HZ, HE⟩
            case measure => simp [intOf]; omega
      · have HE : Hid (numL p = none) := by show _ = _; rw [HN.out]; exact numA_end (by omega)
        clear HA HN
        go_wp2
        go_ret3
        exact ⟨NumTold.no (n := 0) (k := 0) rfl HE.out, rfl⟩

end Go.Proofs.Ytfjejobakknipaa
