/- What laying a number does: appendNumber, Size. -/
import Derived.Test.YtfjejobakknipaaRowB
namespace Go.Proofs.Ytfjejobakknipaa
open Go.RowKit
set_option linter.unusedVariables false

set_option maxRecDepth 100000 in
theorem or128 (x : Nat) (h : x < 256) : bits .or .u8 (x : Int) 128 = ((128 + x % 128 : Nat) : Int) := by
  have e := (bits_nat .u8 8 (by decide) wraps_u8 x 128 h (by decide)).2
  have e2 : ∀ y : Fin 256, y.val ||| 128 = 128 + y.val % 128 := by decide
  rw [show ((128 : Int)) = ((128 : Nat) : Int) from rfl, e, e2 ⟨x, h⟩]

set_option maxRecDepth 100000 in
set_option maxHeartbeats 1000000 in
theorem appendNumber_any (B : Nat) (v : Value) (D : List UInt8) (n : Int) (w : World) (hn : n < 9223372036854775808) (h : OwnB B w v D) (hB : B ≤ w.heap.size) (hl : D.length + (putL n.toNat).length ≤ 140737488355328) :
    Calls Try.prog 27 #[v, .int .i64 n] w fun e w' => ∃ v', e = .returned v' ∧ OwnB B w' v' (D ++ putL n.toNat) ∧ Below B w w' := by
  obtain ⟨i0, hi, hz0, hz1, hz2⟩ := info_parts infoByte
  have H0 : Hid (OwnB B w v (D ++ [])) := by show OwnB _ _ _ _; rw [List.append_nil]; exact h
  clear h
  rcases Int.lt_or_le n 0 with hneg | hpos
  all_goals (
    go_enter Try.func27, Try.ntmps27
    go_wp2
    go_loopw [0, 1] (fun u x wr => ∃ (m : Nat) (E : List UInt8), x = .int .i64 (m : Int) ∧ m < 9223372036854775808 ∧ Hid (E ++ putL m = putL n.toNat) ∧ Hid (OwnB B wr u (D ++ E)) ∧ Hid (Below B w wr)) (fun _ x _ => (intOf x).toNat)
    case atStart => exact ⟨n.toNat, [], by first | (congr 1; omega) | (congr 1), by omega, rfl, H0, Below.refl _ _⟩
    case round =>
      obtain ⟨m, E, rfl, hm, HE, HO, HB⟩ := hrel
      have hsz := HB.out.size
      by_cases hge : m < 128
      · have HP : Hid (putL m = [UInt8.ofNat m]) := putL_lt hge
        have hlen : D.length + E.length + 1 ≤ 140737488355328 := by
          have := congrArg List.length HE.out
          rw [HP.out] at this
          simp at this; omega
        go_wp2_with (at_builtin; refine wpList_append_own _ rfl _ _ 22 rfl B 5 i0 (.int .u8 0) 1 1 Try.underlying22 hi hz0 hz1 hz2 rfl (by decide) _ _ _ rfl (World.ownsRow.alloc HO.out _) ⟨wr.heap.size, 0, none⟩ 1 1 [_] rfl rfl (cell_one_new _ _ _) (fun x hx => by simp at hx; subst hx; rfl) (by unfold maxLen; simp; omega) (by simp; omega) (by simp; omega) ?_; intro v' w3 hown' hgrow3 hnil3)
        go_ret
        refine ⟨_, rfl, ?_, (HB.out.alloc (by omega) _).grown hgrow3 (by simp; omega) (fun j e => (World.ownsRow.lt HO.out j e).1)⟩
        rw [← HE.out, HP.out, ← List.append_assoc]
        exact OwnB.more hown' (by simp) (by simp [cellsB, toNat_of (show m < 256 by omega)])
      · have HP : Hid (putL m = UInt8.ofNat (128 + m % 128) :: putL (m / 128)) := putL_ge hge
        have hlen : D.length + E.length + 1 ≤ 140737488355328 := by
          have := congrArg List.length HE.out
          rw [HP.out] at this
          simp at this; omega
        have hor := or128 (m % 256) (by omega)
        go_wp2_with (at_builtin; refine wpList_append_own _ rfl _ _ 22 rfl B 5 i0 (.int .u8 0) 1 1 Try.underlying22 hi hz0 hz1 hz2 rfl (by decide) _ _ _ rfl (World.ownsRow.alloc HO.out _) ⟨wr.heap.size, 0, none⟩ 1 1 [_] rfl rfl (cell_one_new _ _ _) (fun x hx => by simp at hx; subst hx; rfl) (by unfold maxLen; simp; omega) (by simp; omega) (by simp; omega) ?_; intro v' w3 hown' hgrow3 hnil3)
        have HO3 : Hid (OwnB B w3 v' (D ++ (E ++ [UInt8.ofNat (128 + m % 128)]))) := by
          show OwnB _ _ _ _
          rw [← List.append_assoc]
          refine OwnB.more hown' (by simp) ?_
          rw [show ((m : Int) % 256) = ((m % 256 : Nat) : Int) by omega, hor]
          simp only [cellsB, List.map_cons, List.map_nil]
          rw [toNat_of (show 128 + m % 128 < 256 by omega), show m % 256 % 128 = m % 128 by omega]
        have HE3 : Hid ((E ++ [UInt8.ofNat (128 + m % 128)]) ++ putL (m / 128) = putL n.toNat) := by show _ = _; rw [← HE.out, HP.out]; simp
        go_roundw
        case rel => exact ⟨m / 128, _, by congr 1, by omega, HE3, HO3, (HB.out.alloc (by omega) _).grown hgrow3 (by simp; omega) (fun j e => (World.ownsRow.lt HO.out j e).1)⟩
        case measure => simp [intOf]; omega)

set_option maxRecDepth 100000 in
set_option maxHeartbeats 1000000 in
/-- octet.Size. -/
theorem size_any (n : Int) (w : World) (hn : n < 9223372036854775808) :
    Calls Try.prog 10 #[.int .i64 n] w fun e w' => e = .returned (.int .i64 ((putL n.toNat).length : Int)) ∧ w' = w := by
  rcases Int.lt_or_le n 0 with hneg | hpos
  · have HE : Hid ((putL n.toNat).length = 1) := by show _ = _; rw [show n.toNat = 0 by omega, putL_lt (by omega)]; rfl
    go_enter Try.func10, Try.ntmps10
    go_wp2
    go_loop [0, 3] (fun x s => x = .int .i64 n ∧ s = .int .i64 1) (fun _ _ => 0)
    case atStart => exact ⟨rfl, rfl⟩
    case round =>
      obtain ⟨rfl, rfl⟩ := hrel
      have h2 : ¬ 128 ≤ n := by omega
      go_wp2
      go_ret
      exact ⟨ret_i (by rw [HE.out]; rfl), rfl⟩
  · obtain ⟨n, rfl⟩ := Int.eq_ofNat_of_zero_le hpos
    have HL : Hid ((putL n).length ≤ 9) := putL_len9 (by omega)
    clear hn hpos
    rw [show ((n : Nat) : Int).toNat = n by simp]
    go_enter Try.func10, Try.ntmps10
    go_wp2
    go_loop [0, 3] (fun x s => ∃ m k : Nat, x = .int .i64 (m : Int) ∧ s = .int .i64 (k : Int) ∧ k ≤ 9 ∧ Hid (k + (putL m).length = (putL n).length + 1)) (fun x _ => (intOf x).toNat)
    case atStart => exact ⟨n, 1, rfl, rfl, by omega, by show _ = _; omega⟩
    case round =>
      obtain ⟨m, k, rfl, rfl, hk, HK⟩ := hrel
      by_cases hge : m < 128
      · have HP : Hid ((putL m).length = 1) := by show _ = _; rw [putL_lt hge]; rfl
        have HE : Hid ((putL n).length = k) := by have h1 := HK.out; have h2 := HP.out; show _ = _; omega
        go_wp2
        go_ret
        exact ⟨ret_i (by rw [HE.out]), rfl⟩
      · have HP : Hid ((putL m).length = (putL (m / 128)).length + 1) := by show _ = _; rw [putL_ge hge]; rfl
        have hp := putL_pos (m / 128)
        have HE : Hid (k + 1 + (putL (m / 128)).length = (putL n).length + 1) := by have h1 := HK.out; have h2 := HP.out; show _ = _; omega
        have h9 : k + 1 ≤ 9 := by have h1 := HE.out; have h2 := HL.out; omega
        go_wp2
        go_round
        case rel => exact ⟨m / 128, k + 1, by congr 1, by go_num, h9, HE⟩
        case measure => simp [intOf]; omega

end Go.Proofs.Ytfjejobakknipaa
