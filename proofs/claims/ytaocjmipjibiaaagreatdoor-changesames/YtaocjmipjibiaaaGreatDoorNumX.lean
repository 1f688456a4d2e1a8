/- What the document's Whole does. -/
import Derived.Test.YtaocjmipjibiaaaGreatDoorNumW
namespace Go.Proofs.YtaocjmipjibiaaaGreatDoor
open Go.RowKit
set_option linter.unusedVariables false

/-- What a call of Whole leaves. -/
def WholePost (l : List UInt8) (w : World) (e : Ending) (w' : World) : Prop := ∃ (n : Int) (b : Bool), e = .returned (.tuple #[.int .i64 n, .bool b]) ∧ WholeIs l n b ∧ w' = w
theorem WholePost.mk {l : List UInt8} {w : World} {n : Int} {b : Bool} (h : WholeIs l n b) : WholePost l w (.returned (.tuple #[.int .i64 n, .bool b])) w := ⟨n, b, rfl, h, rfl⟩

theorem ret_ib {a a2 : Int} {b b2 : Bool} (h : a = a2) (h2 : b = b2) : Ending.returned (.tuple #[.int .i64 a, .bool b]) = .returned (.tuple #[.int .i64 a2, .bool b2]) := by rw [h, h2]

set_option maxHeartbeats 1000000 in
set_option maxRecDepth 100000 in
theorem whole_short (s : ByteArray) (h0 : s.size = 0) (w : World) :
    Calls Tryz.prog 68 #[.string s] w fun e w' => e = .returned (.tuple #[.int .i64 0, .bool false]) ∧ w' = w := by
  have c3 : ((s.size : Int) == 0) = true := by rw [h0]; rfl
  clear h0
  go_enter Tryz.func68, Tryz.ntmps68
  go_wp2
  go_ret2
  exact ⟨rfl, rfl⟩

set_option maxHeartbeats 1000000 in
set_option maxRecDepth 100000 in
theorem whole_wide (s : ByteArray) (h0 : 13 < s.size) (w : World) :
    Calls Tryz.prog 68 #[.string s] w fun e w' => e = .returned (.tuple #[.int .i64 0, .bool false]) ∧ w' = w := by
  have c3 : ((s.size : Int) == 0) = false := by simp only [beq_eq_false_iff_ne]; omega
  have c4 : decide (13 < (s.size : Int)) = true := by simp only [decide_eq_true_eq]; omega
  go_enter Tryz.func68, Tryz.ntmps68
  go_wp2
  go_ret2
  exact ⟨rfl, rfl⟩

set_option maxHeartbeats 1000000 in
set_option maxRecDepth 100000 in
theorem whole_nought (s : ByteArray) (h0 : 0 < s.size) (h1 : 1 < s.size) (h13 : s.size ≤ 13) (q : ((s[0].toNat : Int) == 48) = true) (w : World) :
    Calls Tryz.prog 68 #[.string s] w fun e w' => e = .returned (.tuple #[.int .i64 0, .bool false]) ∧ w' = w := by
  have c1 : (0 : Int) < (s.size : Int) := by omega
  have c3 : ((s.size : Int) == 0) = false := by simp only [beq_eq_false_iff_ne]; omega
  have c4 : decide (13 < (s.size : Int)) = false := by simp only [decide_eq_false_iff_not]; omega
  have c5 : decide (1 < (s.size : Int)) = true := by simp only [decide_eq_true_eq]; omega
  go_enter Tryz.func68, Tryz.ntmps68
  go_wp2
  go_ret2
  exact ⟨rfl, rfl⟩

set_option maxHeartbeats 1000000 in
set_option maxRecDepth 100000 in
theorem whole_loop (s : ByteArray) (h0 : 0 < s.size) (h13 : s.size ≤ 13) (hq : ((s[0].toNat : Int) == 48) = false ∨ ((s[0].toNat : Int) == 48) = true ∧ s.size = 1) (w : World) :
    Calls Tryz.prog 68 #[.string s] w fun e w' => WholePost s.data.toList w e w' := by
  have c1 : (0 : Int) < (s.size : Int) := by omega
  have c3 : ((s.size : Int) == 0) = false := by simp only [beq_eq_false_iff_ne]; omega
  have c4 : decide (13 < (s.size : Int)) = false := by simp only [decide_eq_false_iff_not]; omega
  have hh : ∀ c r, s.data.toList = c :: r → c.toNat ≠ 48 ∨ r = [] := by
    intro c r e
    have hl : s.size = r.length + 1 := by have := congrArg List.length e; simpa using this
    have hc : s[0] = c := by
      have : s.data.toList[0]? = some c := by rw [e]; rfl
      rw [Array.getElem?_toList] at this
      exact (Array.getElem?_eq_some_iff.1 this).2
    rcases hq with q | ⟨_, q⟩
    · left
      rw [hc] at q
      simp at q
      omega
    · right
      exact List.eq_nil_of_length_eq_zero (by omega)
  have hlen : Hid (s.data.toList.length = s.size) := by show _ = _; simp
  have HH : Hid (∀ c r, s.data.toList = c :: r → c.toNat ≠ 48 ∨ r = []) := hh
  clear hh
  rcases hq with q | ⟨q, q2⟩
  · go_enter Tryz.func68, Tryz.ntmps68
    go_wp2
    go_loop [4, 5] (fun n i => ∃ k : Nat, k ≤ s.size ∧ i = .int .i64 k ∧ n = .int .i64 (val (s.data.toList.take k) : Nat) ∧ (∀ c ∈ s.data.toList.take k, isDig c)) (fun _ i => s.size - (intOf i).toNat)
    case atStart => exact ⟨0, Nat.zero_le _, rfl, rfl, by simp⟩
    case round =>
      obtain ⟨k, hk, rfl, rfl, hd⟩ := hrel
      have hv := val_le (l := s.data.toList.take k) (by have := List.length_take_le k s.data.toList; omega) hd
      have HD : Hid (∀ c ∈ s.data.toList.take k, isDig c) := hd
      clear hd
      by_cases hlt : k < s.size
      · have ht := take_next s k hlt
        have HT : Hid (s.data.toList.take (k + 1) = s.data.toList.take k ++ [s[k]]) := ht
        clear ht
        have k1 : (k : Int) < (s.size : Int) := by omega
        by_cases d1 : (s[k].toNat : Int) < 48
        · go_wp2
          go_ret2
          exact WholePost.mk (n := 0) (b := false) (wholeIs_other 0 (c := s[k]) (List.mem_of_mem_take (i := k + 1) (by rw [HT.out]; simp)) (by unfold isDig; omega))
        · by_cases d2 : (57 : Int) < (s[k].toNat : Int)
          · go_wp2
            go_ret2
            exact WholePost.mk (n := 0) (b := false) (wholeIs_other 0 (c := s[k]) (List.mem_of_mem_take (i := k + 1) (by rw [HT.out]; simp)) (by unfold isDig; omega))
          · have v1 : (0 : Int) ≤ ((val (s.data.toList.take k) : Nat) : Int) := by omega
            have v2 : ((val (s.data.toList.take k) : Nat) : Int) ≤ 10000000000000 := by omega
            go_wp2
            go_round
            case rel =>
              refine ⟨k + 1, by omega, by go_num, ?_, ?_⟩
              · rw [HT.out, val_snoc]
                exact congrArg (Value.int .i64) (by omega)
              · intro c hc
                rw [HT.out, List.mem_append, List.mem_singleton] at hc
                rcases hc with hc | rfl
                · exact HD.out c hc
                · unfold isDig; omega
            case measure => simp [intOf]; omega
      · have e : s.data.toList.take k = s.data.toList := List.take_of_length_le (by simp; omega)
        have hd := HD.out
        rw [e] at hd
        have hE := wholeIs_end (l := s.data.toList) (fun h => by have h9 := hlen.out; rw [h] at h9; simp at h9; omega) hd HH.out
        have HE : Hid (WholeIs s.data.toList (val s.data.toList : Nat) (decide (val s.data.toList ≤ 1099511627776))) := hE
        clear hd hE
        go_wp2
        go_ret2
        have q5 : decide ((val s.data.toList : Int) ≤ 1099511627776) = decide (val s.data.toList ≤ 1099511627776) := by
          rw [decide_eq_decide]; omega
        have h6 := HE.out
        rw [← q5] at h6
        exact WholePost.mk h6
  · have c5 : decide (1 < (s.size : Int)) = false := by simp only [decide_eq_false_iff_not]; omega
    clear q2
    go_enter Tryz.func68, Tryz.ntmps68
    go_wp2
    go_loop [4, 5] (fun n i => ∃ k : Nat, k ≤ s.size ∧ i = .int .i64 k ∧ n = .int .i64 (val (s.data.toList.take k) : Nat) ∧ (∀ c ∈ s.data.toList.take k, isDig c)) (fun _ i => s.size - (intOf i).toNat)
    case atStart => exact ⟨0, Nat.zero_le _, rfl, rfl, by simp⟩
    case round =>
      obtain ⟨k, hk, rfl, rfl, hd⟩ := hrel
      have hv := val_le (l := s.data.toList.take k) (by have := List.length_take_le k s.data.toList; omega) hd
      have HD : Hid (∀ c ∈ s.data.toList.take k, isDig c) := hd
      clear hd
      by_cases hlt : k < s.size
      · have ht := take_next s k hlt
        have HT : Hid (s.data.toList.take (k + 1) = s.data.toList.take k ++ [s[k]]) := ht
        clear ht
        have k1 : (k : Int) < (s.size : Int) := by omega
        by_cases d1 : (s[k].toNat : Int) < 48
        · go_wp2
          go_ret2
          exact WholePost.mk (n := 0) (b := false) (wholeIs_other 0 (c := s[k]) (List.mem_of_mem_take (i := k + 1) (by rw [HT.out]; simp)) (by unfold isDig; omega))
        · by_cases d2 : (57 : Int) < (s[k].toNat : Int)
          · go_wp2
            go_ret2
            exact WholePost.mk (n := 0) (b := false) (wholeIs_other 0 (c := s[k]) (List.mem_of_mem_take (i := k + 1) (by rw [HT.out]; simp)) (by unfold isDig; omega))
          · have v1 : (0 : Int) ≤ ((val (s.data.toList.take k) : Nat) : Int) := by omega
            have v2 : ((val (s.data.toList.take k) : Nat) : Int) ≤ 10000000000000 := by omega
            go_wp2
            go_round
            case rel =>
              refine ⟨k + 1, by omega, by go_num, ?_, ?_⟩
              · rw [HT.out, val_snoc]
                exact congrArg (Value.int .i64) (by omega)
              · intro c hc
                rw [HT.out, List.mem_append, List.mem_singleton] at hc
                rcases hc with hc | rfl
                · exact HD.out c hc
                · unfold isDig; omega
            case measure => simp [intOf]; omega
      · have e : s.data.toList.take k = s.data.toList := List.take_of_length_le (by simp; omega)
        have hd := HD.out
        rw [e] at hd
        have hE := wholeIs_end (l := s.data.toList) (fun h => by have h9 := hlen.out; rw [h] at h9; simp at h9; omega) hd HH.out
        have HE : Hid (WholeIs s.data.toList (val s.data.toList : Nat) (decide (val s.data.toList ≤ 1099511627776))) := hE
        clear hd hE
        go_wp2
        go_ret2
        have q5 : decide ((val s.data.toList : Int) ≤ 1099511627776) = decide (val s.data.toList ≤ 1099511627776) := by
          rw [decide_eq_decide]; omega
        have h6 := HE.out
        rw [← q5] at h6
        exact WholePost.mk h6

end Go.Proofs.YtaocjmipjibiaaaGreatDoor
