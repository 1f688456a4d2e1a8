/- Check of a step. -/
import Derived.Test.YtccpljllgpabnabPaL
import Derived.Test.YtccpljllgpabnabWalksB
import Derived.Test.YtccpljllgpabnabVtD
namespace Go.Proofs.Ytccpljllgpabnab
open Go.RowKit
set_option linter.unusedVariables false
set_option linter.unusedSimpArgs false

def fP (k : Int) : Bool := decide (k = 4)
def fA (k : Int) : Bool := decide (k = 4 ∨ k = 5)
def fN (k : Int) : Bool := decide (k = 3 ∨ k = 6 ∨ k = 8 ∨ k = 9)
def fV (k : Int) : Bool := decide (k = 7 ∨ k = 8)
def keyP (p : Pa) : Bool := if 6 ≤ p.kd then nodeB p.k.1 p.k.2 else rightB p.k.1 p.k.2
def parP (p : Pa) : Bool := if fP p.kd then nodeB p.pa.1 p.pa.2 && !decide (p.pa = p.k) else decide (p.pa = (0, 0))
def aftP (p : Pa) : Bool := if fA p.kd then decide (p.af = (0, 0)) || (rightB p.af.1 p.af.2 && !decide (p.af = p.k)) else decide (p.af = (0, 0))
def noT (s : ByteArray) : Bool := s.toList == []
def namP (p : Pa) : Bool := if fN p.kd then nameL (txL p.nm) else noT p.nm
def valP (p : Pa) : Int := if 256 < p.vl.size then 3 else if fV p.kd = false ∧ noT p.vl = false then 2 else 0
/-- May a step be? -/
def chkP (p : Pa) : Int := if ¬ (1 ≤ p.kd ∧ p.kd ≤ 9) then 1 else if keyP p = false ∨ parP p = false ∨ aftP p = false then 2 else if namP p = false then 8 else valP p
theorem node_bel (c r : Int) (w : World) : Calls Try.prog 40 #[.agg #[.int .i64 c, .int .i64 r]] w fun e w' => e = .returned (.bool (nodeB c r)) ∧ Below w.heap.size w w' := (node_any c r w).mono fun e w' h => ⟨h.1, by first | exact h.2 | exact h.2 ▸ (Below.refl _ _).alloc (Nat.le_refl _) _⟩
theorem pld0 : ∀ (a b c d : Bool) (w : World), (Instr.field 78 (.agg #[.bool a, .bool b, .bool c, .bool d]) 0).run Try.prog w = .ok (.bool a) w := fun a b c d w => by kernel_rfl
theorem pld1 : ∀ (a b c d : Bool) (w : World), (Instr.field 78 (.agg #[.bool a, .bool b, .bool c, .bool d]) 1).run Try.prog w = .ok (.bool b) w := fun a b c d w => by kernel_rfl
theorem pld2 : ∀ (a b c d : Bool) (w : World), (Instr.field 78 (.agg #[.bool a, .bool b, .bool c, .bool d]) 2).run Try.prog w = .ok (.bool c) w := fun a b c d w => by kernel_rfl
theorem pld3 : ∀ (a b c d : Bool) (w : World), (Instr.field 78 (.agg #[.bool a, .bool b, .bool c, .bool d]) 3).run Try.prog w = .ok (.bool d) w := fun a b c d w => by kernel_rfl
theorem eqSt2 (a b : St) : (decide (a.1 = b.1) && decide (a.2 = b.2)) = decide (a = b) := by
  obtain ⟨a1, a2⟩ := a
  obtain ⟨b1, b2⟩ := b
  by_cases h1 : a1 = b1 <;> by_cases h2 : a2 = b2 <;> simp [h1, h2]
theorem eqSt0 (a : St) : (decide (a.1 = 0) && decide (a.2 = 0)) = decide (a = (0, 0)) := eqSt2 a (0, 0)
set_option maxRecDepth 100000 in
set_option maxHeartbeats 2000000 in
theorem isKind_any (k : Int) (w : World) : Calls Try.prog 19 #[.int .i64 k] w fun e w' => e = .returned (.bool (decide (1 ≤ k ∧ k ≤ 9))) ∧ w' = w := by
  by_cases h1 : 1 ≤ k
  · by_cases h2 : k ≤ 9
    · have hd : decide (1 ≤ k ∧ k ≤ 9) = true := decide_eq_true ⟨h1, h2⟩
      rw [hd]
      clear hd
      go_enter Try.func19, Try.ntmps19
      go_wp2
      go_ret
      exact ⟨ret_bool (by simp [h1, h2]), rfl⟩
    · have hd : decide (1 ≤ k ∧ k ≤ 9) = false := decide_eq_false fun e => h2 e.2
      rw [hd]
      clear hd
      go_enter Try.func19, Try.ntmps19
      go_wp2
      go_ret
      exact ⟨ret_bool (by simp [h2]), rfl⟩
  · have hd : decide (1 ≤ k ∧ k ≤ 9) = false := decide_eq_false fun e => h1 e.1
    rw [hd]
    clear hd
    have hd1 : decide (1 ≤ k) = false := decide_eq_false h1
    go_enter Try.func19, Try.ntmps19
    go_wp2
    go_ret
    exact ⟨ret_bool (by simp [h1]), rfl⟩
set_option maxRecDepth 100000 in
set_option maxRecDepth 100000 in
set_option maxHeartbeats 2000000 in
theorem fieldsOf_any (k : Int) (w : World) : Calls Try.prog 42 #[.int .i64 k] w fun e w' => e = .returned (.agg #[.bool (fP k), .bool (fA k), .bool (fN k), .bool (fV k)]) ∧ Below w.heap.size w w' := by
  by_cases h4 : k = 4
  · subst h4
    go_enter Try.func42, Try.ntmps42
    go_wp2
    refine bodyPost_ret (results_cell_row rfl _ _ w.heap.size _ _ _ _ rfl (by rw [Below.heap_alloc _ _ _ (by simp)]; exact heap_alloc_new _ _) Try.underlying78 rfl (by kernel_rfl)) rfl ?_
    exact ⟨rfl, ((Below.refl _ _).alloc (Nat.le_refl _) _).alloc (by simp) _⟩
  by_cases h5 : k = 5
  · subst h5
    go_enter Try.func42, Try.ntmps42
    go_wp2
    refine bodyPost_ret (results_cell_row rfl _ _ w.heap.size _ _ _ _ rfl (by rw [Below.heap_alloc _ _ _ (by simp)]; exact heap_alloc_new _ _) Try.underlying78 rfl (by kernel_rfl)) rfl ?_
    exact ⟨rfl, ((Below.refl _ _).alloc (Nat.le_refl _) _).alloc (by simp) _⟩
  by_cases h8 : k = 8
  · subst h8
    go_enter Try.func42, Try.ntmps42
    go_wp2
    refine bodyPost_ret (results_cell_row rfl _ _ w.heap.size _ _ _ _ rfl (by rw [Below.heap_alloc _ _ _ (by simp)]; exact heap_alloc_new _ _) Try.underlying78 rfl (by kernel_rfl)) rfl ?_
    exact ⟨rfl, ((Below.refl _ _).alloc (Nat.le_refl _) _).alloc (by simp) _⟩
  by_cases h3 : k = 3
  · subst h3
    go_enter Try.func42, Try.ntmps42
    go_wp2
    refine bodyPost_ret (results_cell_row rfl _ _ w.heap.size _ _ _ _ rfl (by rw [Below.heap_alloc _ _ _ (by simp)]; exact heap_alloc_new _ _) Try.underlying78 rfl (by kernel_rfl)) rfl ?_
    exact ⟨rfl, ((Below.refl _ _).alloc (Nat.le_refl _) _).alloc (by simp) _⟩
  by_cases h6 : k = 6
  · subst h6
    go_enter Try.func42, Try.ntmps42
    go_wp2
    refine bodyPost_ret (results_cell_row rfl _ _ w.heap.size _ _ _ _ rfl (by rw [Below.heap_alloc _ _ _ (by simp)]; exact heap_alloc_new _ _) Try.underlying78 rfl (by kernel_rfl)) rfl ?_
    exact ⟨rfl, ((Below.refl _ _).alloc (Nat.le_refl _) _).alloc (by simp) _⟩
  by_cases h9 : k = 9
  · subst h9
    go_enter Try.func42, Try.ntmps42
    go_wp2
    refine bodyPost_ret (results_cell_row rfl _ _ w.heap.size _ _ _ _ rfl (by rw [Below.heap_alloc _ _ _ (by simp)]; exact heap_alloc_new _ _) Try.underlying78 rfl (by kernel_rfl)) rfl ?_
    exact ⟨rfl, ((Below.refl _ _).alloc (Nat.le_refl _) _).alloc (by simp) _⟩
  by_cases h7 : k = 7
  · subst h7
    go_enter Try.func42, Try.ntmps42
    go_wp2
    refine bodyPost_ret (results_cell_row rfl _ _ w.heap.size _ _ _ _ rfl (by rw [Below.heap_alloc _ _ _ (by simp)]; exact heap_alloc_new _ _) Try.underlying78 rfl (by kernel_rfl)) rfl ?_
    exact ⟨rfl, ((Below.refl _ _).alloc (Nat.le_refl _) _).alloc (by simp) _⟩
  have e1 : fP k = false := decide_eq_false h4
  have e2 : fA k = false := decide_eq_false (by omega)
  have e3 : fN k = false := decide_eq_false (by omega)
  have e4 : fV k = false := decide_eq_false (by omega)
  rw [e1, e2, e3, e4]
  clear e1 e2 e3 e4
  go_enter Try.func42, Try.ntmps42
  go_wp2
  refine bodyPost_ret (results_cell_row rfl _ _ w.heap.size _ _ _ _ rfl (by rw [Below.heap_alloc _ _ _ (by simp)]; exact heap_alloc_new _ _) Try.underlying78 rfl (by kernel_rfl)) rfl ?_
  exact ⟨rfl, ((Below.refl _ _).alloc (Nat.le_refl _) _).alloc (by simp) _⟩

set_option maxRecDepth 100000 in
set_option maxHeartbeats 2000000 in
theorem isKeyRight_p (p : Pa) (w : World) (hk : p.kd ≤ 9) : Calls Try.prog 20 #[paV p] w fun e w' => e = .returned (.bool (keyP p)) ∧ Below w.heap.size w w' := by
  have hv : keyP p = if 6 ≤ p.kd then nodeB p.k.1 p.k.2 else rightB p.k.1 p.k.2 := rfl
  rw [hv]
  clear hv
  have HK : Hid ((w.alloc (.cells #[.int .i64 p.kd, .int .i64 p.k.1, .int .i64 p.k.2, .int .i64 p.pa.1, .int .i64 p.pa.2, .int .i64 p.af.1, .int .i64 p.af.2, .string p.nm, .string p.vl] 42)).heap[w.heap.size]? = some (.cells #[.int .i64 p.kd, .int .i64 p.k.1, .int .i64 p.k.2, .int .i64 p.pa.1, .int .i64 p.pa.2, .int .i64 p.af.1, .int .i64 p.af.2, .string p.nm, .string p.vl] 42)) := heap_alloc_new _ _
  have HB : Hid (Below w.heap.size w (w.alloc (.cells #[.int .i64 p.kd, .int .i64 p.k.1, .int .i64 p.k.2, .int .i64 p.pa.1, .int .i64 p.pa.2, .int .i64 p.af.1, .int .i64 p.af.2, .string p.nm, .string p.vl] 42))) := (Below.refl _ _).alloc (Nat.le_refl _) _
  show Calls Try.prog 20 #[.agg #[.int .i64 p.kd, .int .i64 p.k.1, .int .i64 p.k.2, .int .i64 p.pa.1, .int .i64 p.pa.2, .int .i64 p.af.1, .int .i64 p.af.2, .string p.nm, .string p.vl]] w _
  have b0 : (w.alloc (.cells #[.int .i64 p.kd, .int .i64 p.k.1, .int .i64 p.k.2, .int .i64 p.pa.1, .int .i64 p.pa.2, .int .i64 p.af.1, .int .i64 p.af.2, .string p.nm, .string p.vl] 42)).cell? ⟨w.heap.size, 0, none⟩ = some (.int .i64 p.kd) := (by rw [cell_of_row (w.alloc (.cells #[.int .i64 p.kd, .int .i64 p.k.1, .int .i64 p.k.2, .int .i64 p.pa.1, .int .i64 p.pa.2, .int .i64 p.af.1, .int .i64 p.af.2, .string p.nm, .string p.vl] 42)) w.heap.size 0 _ _ _ HK.out]; rfl)
  have b1 : (w.alloc (.cells #[.int .i64 p.kd, .int .i64 p.k.1, .int .i64 p.k.2, .int .i64 p.pa.1, .int .i64 p.pa.2, .int .i64 p.af.1, .int .i64 p.af.2, .string p.nm, .string p.vl] 42)).cell? ⟨w.heap.size, 1, none⟩ = some (.int .i64 p.k.1) := (by rw [cell_of_row (w.alloc (.cells #[.int .i64 p.kd, .int .i64 p.k.1, .int .i64 p.k.2, .int .i64 p.pa.1, .int .i64 p.pa.2, .int .i64 p.af.1, .int .i64 p.af.2, .string p.nm, .string p.vl] 42)) w.heap.size 1 _ _ _ HK.out]; rfl)
  have b2 : (w.alloc (.cells #[.int .i64 p.kd, .int .i64 p.k.1, .int .i64 p.k.2, .int .i64 p.pa.1, .int .i64 p.pa.2, .int .i64 p.af.1, .int .i64 p.af.2, .string p.nm, .string p.vl] 42)).cell? ⟨w.heap.size, 2, none⟩ = some (.int .i64 p.k.2) := (by rw [cell_of_row (w.alloc (.cells #[.int .i64 p.kd, .int .i64 p.k.1, .int .i64 p.k.2, .int .i64 p.pa.1, .int .i64 p.pa.2, .int .i64 p.af.1, .int .i64 p.af.2, .string p.nm, .string p.vl] 42)) w.heap.size 2 _ _ _ HK.out]; rfl)
  by_cases h6 : p.kd = 6
  · rw [if_pos (by omega)]
    have e6 : (p.kd == 6) = true := by rw [h6]; rfl
    clear hk h6
    go_enter Try.func20, Try.ntmps20
    go_wp2_with (go_at_call 40; refine (node_bel _ _ _).mono ?_; rintro e w1 ⟨rfl, hb⟩; replace HB : Hid (Below w.heap.size w w1) := HB.out.trans (hb.mono HB.out.size); replace HK : Hid (w1.heap[w.heap.size]? = some (.cells #[.int .i64 p.kd, .int .i64 p.k.1, .int .i64 p.k.2, .int .i64 p.pa.1, .int .i64 p.pa.2, .int .i64 p.af.1, .int .i64 p.af.2, .string p.nm, .string p.vl] 42)) := (hb.block _ (row_lt HK.out)).trans HK.out; clear hb b0 b1 b2)
    (try rw [Exit.noGoto_ret])
    go_ret
    exact ⟨rfl, HB.out⟩
  have e6 : (p.kd == 6) = false := by simpa using h6
  by_cases h7 : p.kd = 7
  · rw [if_pos (by omega)]
    have e7 : (p.kd == 7) = true := by rw [h7]; rfl
    clear hk h7
    go_enter Try.func20, Try.ntmps20
    go_wp2_with (go_at_call 40; refine (node_bel _ _ _).mono ?_; rintro e w1 ⟨rfl, hb⟩; replace HB : Hid (Below w.heap.size w w1) := HB.out.trans (hb.mono HB.out.size); replace HK : Hid (w1.heap[w.heap.size]? = some (.cells #[.int .i64 p.kd, .int .i64 p.k.1, .int .i64 p.k.2, .int .i64 p.pa.1, .int .i64 p.pa.2, .int .i64 p.af.1, .int .i64 p.af.2, .string p.nm, .string p.vl] 42)) := (hb.block _ (row_lt HK.out)).trans HK.out; clear hb b0 b1 b2)
    (try rw [Exit.noGoto_ret])
    go_ret
    exact ⟨rfl, HB.out⟩
  have e7 : (p.kd == 7) = false := by simpa using h7
  by_cases h8 : p.kd = 8
  · rw [if_pos (by omega)]
    have e8 : (p.kd == 8) = true := by rw [h8]; rfl
    clear hk h8
    go_enter Try.func20, Try.ntmps20
    go_wp2_with (go_at_call 40; refine (node_bel _ _ _).mono ?_; rintro e w1 ⟨rfl, hb⟩; replace HB : Hid (Below w.heap.size w w1) := HB.out.trans (hb.mono HB.out.size); replace HK : Hid (w1.heap[w.heap.size]? = some (.cells #[.int .i64 p.kd, .int .i64 p.k.1, .int .i64 p.k.2, .int .i64 p.pa.1, .int .i64 p.pa.2, .int .i64 p.af.1, .int .i64 p.af.2, .string p.nm, .string p.vl] 42)) := (hb.block _ (row_lt HK.out)).trans HK.out; clear hb b0 b1 b2)
    (try rw [Exit.noGoto_ret])
    go_ret
    exact ⟨rfl, HB.out⟩
  have e8 : (p.kd == 8) = false := by simpa using h8
  by_cases h9 : p.kd = 9
  · rw [if_pos (by omega)]
    have e9 : (p.kd == 9) = true := by rw [h9]; rfl
    clear hk h9
    go_enter Try.func20, Try.ntmps20
    go_wp2_with (go_at_call 40; refine (node_bel _ _ _).mono ?_; rintro e w1 ⟨rfl, hb⟩; replace HB : Hid (Below w.heap.size w w1) := HB.out.trans (hb.mono HB.out.size); replace HK : Hid (w1.heap[w.heap.size]? = some (.cells #[.int .i64 p.kd, .int .i64 p.k.1, .int .i64 p.k.2, .int .i64 p.pa.1, .int .i64 p.pa.2, .int .i64 p.af.1, .int .i64 p.af.2, .string p.nm, .string p.vl] 42)) := (hb.block _ (row_lt HK.out)).trans HK.out; clear hb b0 b1 b2)
    (try rw [Exit.noGoto_ret])
    go_ret
    exact ⟨rfl, HB.out⟩
  have e9 : (p.kd == 9) = false := by simpa using h9
  rw [if_neg (by omega)]
  clear hk h6 h7 h8 h9
  go_enter Try.func20, Try.ntmps20
  go_wp2_with (go_at_call 41; refine (right_bel _ _ _).mono ?_; rintro e w1 ⟨rfl, hb⟩; replace HB : Hid (Below w.heap.size w w1) := HB.out.trans (hb.mono HB.out.size); replace HK : Hid (w1.heap[w.heap.size]? = some (.cells #[.int .i64 p.kd, .int .i64 p.k.1, .int .i64 p.k.2, .int .i64 p.pa.1, .int .i64 p.pa.2, .int .i64 p.af.1, .int .i64 p.af.2, .string p.nm, .string p.vl] 42)) := (hb.block _ (row_lt HK.out)).trans HK.out; clear hb b0 b1 b2)
  (try rw [Exit.noGoto_ret])
  go_ret
  exact ⟨rfl, HB.out⟩

set_option maxRecDepth 100000 in
set_option maxHeartbeats 2000000 in
theorem isParentRight_p (p : Pa) (w : World) : Calls Try.prog 21 #[paV p] w fun e w' => e = .returned (.bool (parP p)) ∧ Below w.heap.size w w' := by
  have hv : parP p = if fP p.kd then nodeB p.pa.1 p.pa.2 && !decide (p.pa = p.k) else decide (p.pa = (0, 0)) := rfl
  rw [hv]
  clear hv
  have HK : Hid ((w.alloc (.cells #[.int .i64 p.kd, .int .i64 p.k.1, .int .i64 p.k.2, .int .i64 p.pa.1, .int .i64 p.pa.2, .int .i64 p.af.1, .int .i64 p.af.2, .string p.nm, .string p.vl] 42)).heap[w.heap.size]? = some (.cells #[.int .i64 p.kd, .int .i64 p.k.1, .int .i64 p.k.2, .int .i64 p.pa.1, .int .i64 p.pa.2, .int .i64 p.af.1, .int .i64 p.af.2, .string p.nm, .string p.vl] 42)) := heap_alloc_new _ _
  have HB : Hid (Below w.heap.size w (w.alloc (.cells #[.int .i64 p.kd, .int .i64 p.k.1, .int .i64 p.k.2, .int .i64 p.pa.1, .int .i64 p.pa.2, .int .i64 p.af.1, .int .i64 p.af.2, .string p.nm, .string p.vl] 42))) := (Below.refl _ _).alloc (Nat.le_refl _) _
  cases hf : fP p.kd with
  | false =>
    rw [if_neg (by simp)]
    have HF : Hid (fP p.kd = false) := hide9 hf
    have hpld := pld0
    clear hf
    show Calls Try.prog 21 #[.agg #[.int .i64 p.kd, .int .i64 p.k.1, .int .i64 p.k.2, .int .i64 p.pa.1, .int .i64 p.pa.2, .int .i64 p.af.1, .int .i64 p.af.2, .string p.nm, .string p.vl]] w _
    have b0 : (w.alloc (.cells #[.int .i64 p.kd, .int .i64 p.k.1, .int .i64 p.k.2, .int .i64 p.pa.1, .int .i64 p.pa.2, .int .i64 p.af.1, .int .i64 p.af.2, .string p.nm, .string p.vl] 42)).cell? ⟨w.heap.size, 0, none⟩ = some (.int .i64 p.kd) := (by rw [cell_of_row (w.alloc (.cells #[.int .i64 p.kd, .int .i64 p.k.1, .int .i64 p.k.2, .int .i64 p.pa.1, .int .i64 p.pa.2, .int .i64 p.af.1, .int .i64 p.af.2, .string p.nm, .string p.vl] 42)) w.heap.size 0 _ _ _ HK.out]; rfl)
    go_enter Try.func21, Try.ntmps21
    go_wp2_with (first | (go_at_call 42; refine (fieldsOf_any p.kd _).mono ?_; rintro e w1 ⟨rfl, hb⟩; replace HB : Hid (Below w.heap.size w w1) := HB.out.trans (hb.mono HB.out.size); replace HK : Hid (w1.heap[w.heap.size]? = some (.cells #[.int .i64 p.kd, .int .i64 p.k.1, .int .i64 p.k.2, .int .i64 p.pa.1, .int .i64 p.pa.2, .int .i64 p.af.1, .int .i64 p.af.2, .string p.nm, .string p.vl] 42)) := (hb.block _ (row_lt HK.out)).trans HK.out; clear hb b0; have b3 : w1.cell? ⟨w.heap.size, 3, none⟩ = some (.int .i64 p.pa.1) := (by rw [cell_of_row w1 w.heap.size 3 _ _ _ HK.out]; rfl); have b4 : w1.cell? ⟨w.heap.size, 4, none⟩ = some (.int .i64 p.pa.2) := (by rw [cell_of_row w1 w.heap.size 4 _ _ _ HK.out]; rfl); rw [HF.out]) | (go_at_call 43; refine (isZero_any p.pa _).mono ?_; rintro e w2 ⟨rfl, hb⟩; replace HB : Hid (Below w.heap.size w w2) := HB.out.trans (hb.mono HB.out.size); replace HK : Hid (w2.heap[w.heap.size]? = some (.cells #[.int .i64 p.kd, .int .i64 p.k.1, .int .i64 p.k.2, .int .i64 p.pa.1, .int .i64 p.pa.2, .int .i64 p.af.1, .int .i64 p.af.2, .string p.nm, .string p.vl] 42)) := (hb.block _ (row_lt HK.out)).trans HK.out; clear hb b3 b4))
    (try rw [Exit.noGoto_ret])
    go_ret
    exact ⟨rfl, HB.out⟩
  | true =>
    rw [if_pos rfl]
    have HF : Hid (fP p.kd = true) := hide9 hf
    have hpld := pld0
    clear hf
    show Calls Try.prog 21 #[.agg #[.int .i64 p.kd, .int .i64 p.k.1, .int .i64 p.k.2, .int .i64 p.pa.1, .int .i64 p.pa.2, .int .i64 p.af.1, .int .i64 p.af.2, .string p.nm, .string p.vl]] w _
    have b0 : (w.alloc (.cells #[.int .i64 p.kd, .int .i64 p.k.1, .int .i64 p.k.2, .int .i64 p.pa.1, .int .i64 p.pa.2, .int .i64 p.af.1, .int .i64 p.af.2, .string p.nm, .string p.vl] 42)).cell? ⟨w.heap.size, 0, none⟩ = some (.int .i64 p.kd) := (by rw [cell_of_row (w.alloc (.cells #[.int .i64 p.kd, .int .i64 p.k.1, .int .i64 p.k.2, .int .i64 p.pa.1, .int .i64 p.pa.2, .int .i64 p.af.1, .int .i64 p.af.2, .string p.nm, .string p.vl] 42)) w.heap.size 0 _ _ _ HK.out]; rfl)
    cases hn : nodeB p.pa.1 p.pa.2 with
    | false =>
      have HN := hide9 hn
      clear hn
      go_enter Try.func21, Try.ntmps21
      go_wp2_with (first | (go_at_call 42; refine (fieldsOf_any p.kd _).mono ?_; rintro e w1 ⟨rfl, hb⟩; replace HB : Hid (Below w.heap.size w w1) := HB.out.trans (hb.mono HB.out.size); replace HK : Hid (w1.heap[w.heap.size]? = some (.cells #[.int .i64 p.kd, .int .i64 p.k.1, .int .i64 p.k.2, .int .i64 p.pa.1, .int .i64 p.pa.2, .int .i64 p.af.1, .int .i64 p.af.2, .string p.nm, .string p.vl] 42)) := (hb.block _ (row_lt HK.out)).trans HK.out; clear hb b0; have b3 : w1.cell? ⟨w.heap.size, 3, none⟩ = some (.int .i64 p.pa.1) := (by rw [cell_of_row w1 w.heap.size 3 _ _ _ HK.out]; rfl); have b4 : w1.cell? ⟨w.heap.size, 4, none⟩ = some (.int .i64 p.pa.2) := (by rw [cell_of_row w1 w.heap.size 4 _ _ _ HK.out]; rfl); rw [HF.out]) | (go_at_call 40; refine (node_bel _ _ _).mono ?_; rintro e w2 ⟨rfl, hb⟩; rw [HN.out]; replace HB : Hid (Below w.heap.size w w2) := HB.out.trans (hb.mono HB.out.size); replace HK : Hid (w2.heap[w.heap.size]? = some (.cells #[.int .i64 p.kd, .int .i64 p.k.1, .int .i64 p.k.2, .int .i64 p.pa.1, .int .i64 p.pa.2, .int .i64 p.af.1, .int .i64 p.af.2, .string p.nm, .string p.vl] 42)) := (hb.block _ (row_lt HK.out)).trans HK.out; clear hb b3 b4))
      (try rw [Exit.noGoto_ret])
      go_ret
      exact ⟨rfl, HB.out⟩
    | true =>
      have HN := hide9 hn
      clear hn
      have hne := fun w => neqSt p.pa.1 p.pa.2 p.k.1 p.k.2 w
      go_enter Try.func21, Try.ntmps21
      go_wp2_with (first | (go_at_call 42; refine (fieldsOf_any p.kd _).mono ?_; rintro e w1 ⟨rfl, hb⟩; replace HB : Hid (Below w.heap.size w w1) := HB.out.trans (hb.mono HB.out.size); replace HK : Hid (w1.heap[w.heap.size]? = some (.cells #[.int .i64 p.kd, .int .i64 p.k.1, .int .i64 p.k.2, .int .i64 p.pa.1, .int .i64 p.pa.2, .int .i64 p.af.1, .int .i64 p.af.2, .string p.nm, .string p.vl] 42)) := (hb.block _ (row_lt HK.out)).trans HK.out; clear hb b0; have b3 : w1.cell? ⟨w.heap.size, 3, none⟩ = some (.int .i64 p.pa.1) := (by rw [cell_of_row w1 w.heap.size 3 _ _ _ HK.out]; rfl); have b4 : w1.cell? ⟨w.heap.size, 4, none⟩ = some (.int .i64 p.pa.2) := (by rw [cell_of_row w1 w.heap.size 4 _ _ _ HK.out]; rfl); rw [HF.out]) | (go_at_call 40; refine (node_bel _ _ _).mono ?_; rintro e w2 ⟨rfl, hb⟩; rw [HN.out]; replace HB : Hid (Below w.heap.size w w2) := HB.out.trans (hb.mono HB.out.size); replace HK : Hid (w2.heap[w.heap.size]? = some (.cells #[.int .i64 p.kd, .int .i64 p.k.1, .int .i64 p.k.2, .int .i64 p.pa.1, .int .i64 p.pa.2, .int .i64 p.af.1, .int .i64 p.af.2, .string p.nm, .string p.vl] 42)) := (hb.block _ (row_lt HK.out)).trans HK.out; clear hb b3 b4; have b1 : w2.cell? ⟨w.heap.size, 1, none⟩ = some (.int .i64 p.k.1) := (by rw [cell_of_row w2 w.heap.size 1 _ _ _ HK.out]; rfl); have b2 : w2.cell? ⟨w.heap.size, 2, none⟩ = some (.int .i64 p.k.2) := (by rw [cell_of_row w2 w.heap.size 2 _ _ _ HK.out]; rfl); have b3 : w2.cell? ⟨w.heap.size, 3, none⟩ = some (.int .i64 p.pa.1) := (by rw [cell_of_row w2 w.heap.size 3 _ _ _ HK.out]; rfl); have b4 : w2.cell? ⟨w.heap.size, 4, none⟩ = some (.int .i64 p.pa.2) := (by rw [cell_of_row w2 w.heap.size 4 _ _ _ HK.out]; rfl)))
      (try rw [Exit.noGoto_ret])
      go_ret
      refine ⟨?_, HB.out⟩
      exact ret_bool (by first | rfl | (rw [← eqSt2]; rfl) | (rw [← eqSt2]; simp))

set_option maxRecDepth 100000 in
set_option maxHeartbeats 2000000 in
theorem isAfterRight_p (p : Pa) (w : World) : Calls Try.prog 22 #[paV p] w fun e w' => e = .returned (.bool (aftP p)) ∧ Below w.heap.size w w' := by
  have hv : aftP p = if fA p.kd then decide (p.af = (0, 0)) || (rightB p.af.1 p.af.2 && !decide (p.af = p.k)) else decide (p.af = (0, 0)) := rfl
  rw [hv]
  clear hv
  have HK : Hid ((w.alloc (.cells #[.int .i64 p.kd, .int .i64 p.k.1, .int .i64 p.k.2, .int .i64 p.pa.1, .int .i64 p.pa.2, .int .i64 p.af.1, .int .i64 p.af.2, .string p.nm, .string p.vl] 42)).heap[w.heap.size]? = some (.cells #[.int .i64 p.kd, .int .i64 p.k.1, .int .i64 p.k.2, .int .i64 p.pa.1, .int .i64 p.pa.2, .int .i64 p.af.1, .int .i64 p.af.2, .string p.nm, .string p.vl] 42)) := heap_alloc_new _ _
  have HB : Hid (Below w.heap.size w (w.alloc (.cells #[.int .i64 p.kd, .int .i64 p.k.1, .int .i64 p.k.2, .int .i64 p.pa.1, .int .i64 p.pa.2, .int .i64 p.af.1, .int .i64 p.af.2, .string p.nm, .string p.vl] 42))) := (Below.refl _ _).alloc (Nat.le_refl _) _
  cases hf : fA p.kd with
  | false =>
    rw [if_neg (by simp)]
    have HF : Hid (fA p.kd = false) := hide9 hf
    have hpld := pld1
    clear hf
    show Calls Try.prog 22 #[.agg #[.int .i64 p.kd, .int .i64 p.k.1, .int .i64 p.k.2, .int .i64 p.pa.1, .int .i64 p.pa.2, .int .i64 p.af.1, .int .i64 p.af.2, .string p.nm, .string p.vl]] w _
    have b0 : (w.alloc (.cells #[.int .i64 p.kd, .int .i64 p.k.1, .int .i64 p.k.2, .int .i64 p.pa.1, .int .i64 p.pa.2, .int .i64 p.af.1, .int .i64 p.af.2, .string p.nm, .string p.vl] 42)).cell? ⟨w.heap.size, 0, none⟩ = some (.int .i64 p.kd) := (by rw [cell_of_row (w.alloc (.cells #[.int .i64 p.kd, .int .i64 p.k.1, .int .i64 p.k.2, .int .i64 p.pa.1, .int .i64 p.pa.2, .int .i64 p.af.1, .int .i64 p.af.2, .string p.nm, .string p.vl] 42)) w.heap.size 0 _ _ _ HK.out]; rfl)
    go_enter Try.func22, Try.ntmps22
    go_wp2_with (first | (go_at_call 42; refine (fieldsOf_any p.kd _).mono ?_; rintro e w1 ⟨rfl, hb⟩; replace HB : Hid (Below w.heap.size w w1) := HB.out.trans (hb.mono HB.out.size); replace HK : Hid (w1.heap[w.heap.size]? = some (.cells #[.int .i64 p.kd, .int .i64 p.k.1, .int .i64 p.k.2, .int .i64 p.pa.1, .int .i64 p.pa.2, .int .i64 p.af.1, .int .i64 p.af.2, .string p.nm, .string p.vl] 42)) := (hb.block _ (row_lt HK.out)).trans HK.out; clear hb b0; have b5 : w1.cell? ⟨w.heap.size, 5, none⟩ = some (.int .i64 p.af.1) := (by rw [cell_of_row w1 w.heap.size 5 _ _ _ HK.out]; rfl); have b6 : w1.cell? ⟨w.heap.size, 6, none⟩ = some (.int .i64 p.af.2) := (by rw [cell_of_row w1 w.heap.size 6 _ _ _ HK.out]; rfl); rw [HF.out]) | (go_at_call 43; refine (isZero_any p.af _).mono ?_; rintro e w2 ⟨rfl, hb⟩; replace HB : Hid (Below w.heap.size w w2) := HB.out.trans (hb.mono HB.out.size); replace HK : Hid (w2.heap[w.heap.size]? = some (.cells #[.int .i64 p.kd, .int .i64 p.k.1, .int .i64 p.k.2, .int .i64 p.pa.1, .int .i64 p.pa.2, .int .i64 p.af.1, .int .i64 p.af.2, .string p.nm, .string p.vl] 42)) := (hb.block _ (row_lt HK.out)).trans HK.out; clear hb b5 b6))
    (try rw [Exit.noGoto_ret])
    go_ret
    exact ⟨rfl, HB.out⟩
  | true =>
    rw [if_pos rfl]
    have HF : Hid (fA p.kd = true) := hide9 hf
    have hpld := pld1
    clear hf
    show Calls Try.prog 22 #[.agg #[.int .i64 p.kd, .int .i64 p.k.1, .int .i64 p.k.2, .int .i64 p.pa.1, .int .i64 p.pa.2, .int .i64 p.af.1, .int .i64 p.af.2, .string p.nm, .string p.vl]] w _
    have b0 : (w.alloc (.cells #[.int .i64 p.kd, .int .i64 p.k.1, .int .i64 p.k.2, .int .i64 p.pa.1, .int .i64 p.pa.2, .int .i64 p.af.1, .int .i64 p.af.2, .string p.nm, .string p.vl] 42)).cell? ⟨w.heap.size, 0, none⟩ = some (.int .i64 p.kd) := (by rw [cell_of_row (w.alloc (.cells #[.int .i64 p.kd, .int .i64 p.k.1, .int .i64 p.k.2, .int .i64 p.pa.1, .int .i64 p.pa.2, .int .i64 p.af.1, .int .i64 p.af.2, .string p.nm, .string p.vl] 42)) w.heap.size 0 _ _ _ HK.out]; rfl)
    by_cases hz : p.af = (0, 0)
    · have HZ : Hid (decide (p.af = (0, 0)) = true) := decide_eq_true hz
      rw [HZ.out]
      clear hz
      go_enter Try.func22, Try.ntmps22
      go_wp2_with (first | (go_at_call 42; refine (fieldsOf_any p.kd _).mono ?_; rintro e w1 ⟨rfl, hb⟩; replace HB : Hid (Below w.heap.size w w1) := HB.out.trans (hb.mono HB.out.size); replace HK : Hid (w1.heap[w.heap.size]? = some (.cells #[.int .i64 p.kd, .int .i64 p.k.1, .int .i64 p.k.2, .int .i64 p.pa.1, .int .i64 p.pa.2, .int .i64 p.af.1, .int .i64 p.af.2, .string p.nm, .string p.vl] 42)) := (hb.block _ (row_lt HK.out)).trans HK.out; clear hb b0; have b5 : w1.cell? ⟨w.heap.size, 5, none⟩ = some (.int .i64 p.af.1) := (by rw [cell_of_row w1 w.heap.size 5 _ _ _ HK.out]; rfl); have b6 : w1.cell? ⟨w.heap.size, 6, none⟩ = some (.int .i64 p.af.2) := (by rw [cell_of_row w1 w.heap.size 6 _ _ _ HK.out]; rfl); rw [HF.out]) | (go_at_call 43; refine (isZero_any p.af _).mono ?_; rintro e w2 ⟨rfl, hb⟩; rw [HZ.out]; replace HB : Hid (Below w.heap.size w w2) := HB.out.trans (hb.mono HB.out.size); replace HK : Hid (w2.heap[w.heap.size]? = some (.cells #[.int .i64 p.kd, .int .i64 p.k.1, .int .i64 p.k.2, .int .i64 p.pa.1, .int .i64 p.pa.2, .int .i64 p.af.1, .int .i64 p.af.2, .string p.nm, .string p.vl] 42)) := (hb.block _ (row_lt HK.out)).trans HK.out; clear hb b5 b6))
      (try rw [Exit.noGoto_ret])
      go_ret
      exact ⟨rfl, HB.out⟩
    · have HZ : Hid (decide (p.af = (0, 0)) = false) := decide_eq_false hz
      rw [HZ.out]
      clear hz
      cases hn : rightB p.af.1 p.af.2 with
      | false =>
        have HN := hide9 hn
        clear hn
        go_enter Try.func22, Try.ntmps22
        go_wp2_with (first | (go_at_call 42; refine (fieldsOf_any p.kd _).mono ?_; rintro e w1 ⟨rfl, hb⟩; replace HB : Hid (Below w.heap.size w w1) := HB.out.trans (hb.mono HB.out.size); replace HK : Hid (w1.heap[w.heap.size]? = some (.cells #[.int .i64 p.kd, .int .i64 p.k.1, .int .i64 p.k.2, .int .i64 p.pa.1, .int .i64 p.pa.2, .int .i64 p.af.1, .int .i64 p.af.2, .string p.nm, .string p.vl] 42)) := (hb.block _ (row_lt HK.out)).trans HK.out; clear hb b0; have b5 : w1.cell? ⟨w.heap.size, 5, none⟩ = some (.int .i64 p.af.1) := (by rw [cell_of_row w1 w.heap.size 5 _ _ _ HK.out]; rfl); have b6 : w1.cell? ⟨w.heap.size, 6, none⟩ = some (.int .i64 p.af.2) := (by rw [cell_of_row w1 w.heap.size 6 _ _ _ HK.out]; rfl); rw [HF.out]) | (go_at_call 43; refine (isZero_any p.af _).mono ?_; rintro e w2 ⟨rfl, hb⟩; rw [HZ.out]; replace HB : Hid (Below w.heap.size w w2) := HB.out.trans (hb.mono HB.out.size); replace HK : Hid (w2.heap[w.heap.size]? = some (.cells #[.int .i64 p.kd, .int .i64 p.k.1, .int .i64 p.k.2, .int .i64 p.pa.1, .int .i64 p.pa.2, .int .i64 p.af.1, .int .i64 p.af.2, .string p.nm, .string p.vl] 42)) := (hb.block _ (row_lt HK.out)).trans HK.out; clear hb b5 b6; have b5 : w2.cell? ⟨w.heap.size, 5, none⟩ = some (.int .i64 p.af.1) := (by rw [cell_of_row w2 w.heap.size 5 _ _ _ HK.out]; rfl); have b6 : w2.cell? ⟨w.heap.size, 6, none⟩ = some (.int .i64 p.af.2) := (by rw [cell_of_row w2 w.heap.size 6 _ _ _ HK.out]; rfl)) | (go_at_call 41; refine (right_bel _ _ _).mono ?_; rintro e w3 ⟨rfl, hb⟩; rw [HN.out]; replace HB : Hid (Below w.heap.size w w3) := HB.out.trans (hb.mono HB.out.size); replace HK : Hid (w3.heap[w.heap.size]? = some (.cells #[.int .i64 p.kd, .int .i64 p.k.1, .int .i64 p.k.2, .int .i64 p.pa.1, .int .i64 p.pa.2, .int .i64 p.af.1, .int .i64 p.af.2, .string p.nm, .string p.vl] 42)) := (hb.block _ (row_lt HK.out)).trans HK.out; clear hb b5 b6))
        (try rw [Exit.noGoto_ret])
        go_ret
        exact ⟨rfl, HB.out⟩
      | true =>
        have HN := hide9 hn
        clear hn
        have hne := fun w => neqSt p.af.1 p.af.2 p.k.1 p.k.2 w
        go_enter Try.func22, Try.ntmps22
        go_wp2_with (first | (go_at_call 42; refine (fieldsOf_any p.kd _).mono ?_; rintro e w1 ⟨rfl, hb⟩; replace HB : Hid (Below w.heap.size w w1) := HB.out.trans (hb.mono HB.out.size); replace HK : Hid (w1.heap[w.heap.size]? = some (.cells #[.int .i64 p.kd, .int .i64 p.k.1, .int .i64 p.k.2, .int .i64 p.pa.1, .int .i64 p.pa.2, .int .i64 p.af.1, .int .i64 p.af.2, .string p.nm, .string p.vl] 42)) := (hb.block _ (row_lt HK.out)).trans HK.out; clear hb b0; have b5 : w1.cell? ⟨w.heap.size, 5, none⟩ = some (.int .i64 p.af.1) := (by rw [cell_of_row w1 w.heap.size 5 _ _ _ HK.out]; rfl); have b6 : w1.cell? ⟨w.heap.size, 6, none⟩ = some (.int .i64 p.af.2) := (by rw [cell_of_row w1 w.heap.size 6 _ _ _ HK.out]; rfl); rw [HF.out]) | (go_at_call 43; refine (isZero_any p.af _).mono ?_; rintro e w2 ⟨rfl, hb⟩; rw [HZ.out]; replace HB : Hid (Below w.heap.size w w2) := HB.out.trans (hb.mono HB.out.size); replace HK : Hid (w2.heap[w.heap.size]? = some (.cells #[.int .i64 p.kd, .int .i64 p.k.1, .int .i64 p.k.2, .int .i64 p.pa.1, .int .i64 p.pa.2, .int .i64 p.af.1, .int .i64 p.af.2, .string p.nm, .string p.vl] 42)) := (hb.block _ (row_lt HK.out)).trans HK.out; clear hb b5 b6; have b5 : w2.cell? ⟨w.heap.size, 5, none⟩ = some (.int .i64 p.af.1) := (by rw [cell_of_row w2 w.heap.size 5 _ _ _ HK.out]; rfl); have b6 : w2.cell? ⟨w.heap.size, 6, none⟩ = some (.int .i64 p.af.2) := (by rw [cell_of_row w2 w.heap.size 6 _ _ _ HK.out]; rfl)) | (go_at_call 41; refine (right_bel _ _ _).mono ?_; rintro e w3 ⟨rfl, hb⟩; rw [HN.out]; replace HB : Hid (Below w.heap.size w w3) := HB.out.trans (hb.mono HB.out.size); replace HK : Hid (w3.heap[w.heap.size]? = some (.cells #[.int .i64 p.kd, .int .i64 p.k.1, .int .i64 p.k.2, .int .i64 p.pa.1, .int .i64 p.pa.2, .int .i64 p.af.1, .int .i64 p.af.2, .string p.nm, .string p.vl] 42)) := (hb.block _ (row_lt HK.out)).trans HK.out; clear hb b5 b6; have b1 : w3.cell? ⟨w.heap.size, 1, none⟩ = some (.int .i64 p.k.1) := (by rw [cell_of_row w3 w.heap.size 1 _ _ _ HK.out]; rfl); have b2 : w3.cell? ⟨w.heap.size, 2, none⟩ = some (.int .i64 p.k.2) := (by rw [cell_of_row w3 w.heap.size 2 _ _ _ HK.out]; rfl); have b5 : w3.cell? ⟨w.heap.size, 5, none⟩ = some (.int .i64 p.af.1) := (by rw [cell_of_row w3 w.heap.size 5 _ _ _ HK.out]; rfl); have b6 : w3.cell? ⟨w.heap.size, 6, none⟩ = some (.int .i64 p.af.2) := (by rw [cell_of_row w3 w.heap.size 6 _ _ _ HK.out]; rfl)))
        (try rw [Exit.noGoto_ret])
        go_ret
        refine ⟨?_, HB.out⟩
        exact ret_bool (by first | rfl | (rw [← eqSt2]; rfl) | (rw [← eqSt2]; simp))

set_option maxRecDepth 100000 in
set_option maxHeartbeats 2000000 in
theorem isNameRight_p (p : Pa) (w : World) (hs : p.nm.size ≤ 281474976710656) : Calls Try.prog 23 #[paV p] w fun e w' => e = .returned (.bool (namP p)) ∧ Below w.heap.size w w' := by
  have hv : namP p = if fN p.kd then nameL (txL p.nm) else noT p.nm := rfl
  rw [hv]
  clear hv
  have HK : Hid ((w.alloc (.cells #[.int .i64 p.kd, .int .i64 p.k.1, .int .i64 p.k.2, .int .i64 p.pa.1, .int .i64 p.pa.2, .int .i64 p.af.1, .int .i64 p.af.2, .string p.nm, .string p.vl] 42)).heap[w.heap.size]? = some (.cells #[.int .i64 p.kd, .int .i64 p.k.1, .int .i64 p.k.2, .int .i64 p.pa.1, .int .i64 p.pa.2, .int .i64 p.af.1, .int .i64 p.af.2, .string p.nm, .string p.vl] 42)) := heap_alloc_new _ _
  have HB : Hid (Below w.heap.size w (w.alloc (.cells #[.int .i64 p.kd, .int .i64 p.k.1, .int .i64 p.k.2, .int .i64 p.pa.1, .int .i64 p.pa.2, .int .i64 p.af.1, .int .i64 p.af.2, .string p.nm, .string p.vl] 42))) := (Below.refl _ _).alloc (Nat.le_refl _) _
  cases hf : fN p.kd with
  | false =>
    rw [if_neg (by simp)]
    have HF : Hid (fN p.kd = false) := hide9 hf
    have hpld := pld2
    clear hf hs
    show Calls Try.prog 23 #[.agg #[.int .i64 p.kd, .int .i64 p.k.1, .int .i64 p.k.2, .int .i64 p.pa.1, .int .i64 p.pa.2, .int .i64 p.af.1, .int .i64 p.af.2, .string p.nm, .string p.vl]] w _
    have b0 : (w.alloc (.cells #[.int .i64 p.kd, .int .i64 p.k.1, .int .i64 p.k.2, .int .i64 p.pa.1, .int .i64 p.pa.2, .int .i64 p.af.1, .int .i64 p.af.2, .string p.nm, .string p.vl] 42)).cell? ⟨w.heap.size, 0, none⟩ = some (.int .i64 p.kd) := (by rw [cell_of_row (w.alloc (.cells #[.int .i64 p.kd, .int .i64 p.k.1, .int .i64 p.k.2, .int .i64 p.pa.1, .int .i64 p.pa.2, .int .i64 p.af.1, .int .i64 p.af.2, .string p.nm, .string p.vl] 42)) w.heap.size 0 _ _ _ HK.out]; rfl)
    go_enter Try.func23, Try.ntmps23
    go_wp2_with (go_at_call 42; refine (fieldsOf_any p.kd _).mono ?_; rintro e w1 ⟨rfl, hb⟩; replace HB : Hid (Below w.heap.size w w1) := HB.out.trans (hb.mono HB.out.size); replace HK : Hid (w1.heap[w.heap.size]? = some (.cells #[.int .i64 p.kd, .int .i64 p.k.1, .int .i64 p.k.2, .int .i64 p.pa.1, .int .i64 p.pa.2, .int .i64 p.af.1, .int .i64 p.af.2, .string p.nm, .string p.vl] 42)) := (hb.block _ (row_lt HK.out)).trans HK.out; clear hb b0; have b7 : w1.cell? ⟨w.heap.size, 7, none⟩ = some (.string p.nm) := (by rw [cell_of_row w1 w.heap.size 7 _ _ _ HK.out]; rfl); rw [HF.out])
    (try rw [Exit.noGoto_ret])
    go_ret
    refine ⟨?_, HB.out⟩
    exact ret_bool (by first | rfl | simp [noT])
  | true =>
    rw [if_pos rfl]
    have HF : Hid (fN p.kd = true) := hide9 hf
    have hpld := pld2
    have Hs := hide9 hs
    clear hf hs
    show Calls Try.prog 23 #[.agg #[.int .i64 p.kd, .int .i64 p.k.1, .int .i64 p.k.2, .int .i64 p.pa.1, .int .i64 p.pa.2, .int .i64 p.af.1, .int .i64 p.af.2, .string p.nm, .string p.vl]] w _
    have b0 : (w.alloc (.cells #[.int .i64 p.kd, .int .i64 p.k.1, .int .i64 p.k.2, .int .i64 p.pa.1, .int .i64 p.pa.2, .int .i64 p.af.1, .int .i64 p.af.2, .string p.nm, .string p.vl] 42)).cell? ⟨w.heap.size, 0, none⟩ = some (.int .i64 p.kd) := (by rw [cell_of_row (w.alloc (.cells #[.int .i64 p.kd, .int .i64 p.k.1, .int .i64 p.k.2, .int .i64 p.pa.1, .int .i64 p.pa.2, .int .i64 p.af.1, .int .i64 p.af.2, .string p.nm, .string p.vl] 42)) w.heap.size 0 _ _ _ HK.out]; rfl)
    go_enter Try.func23, Try.ntmps23
    go_wp2_with (first | (go_at_call 42; refine (fieldsOf_any p.kd _).mono ?_; rintro e w1 ⟨rfl, hb⟩; replace HB : Hid (Below w.heap.size w w1) := HB.out.trans (hb.mono HB.out.size); replace HK : Hid (w1.heap[w.heap.size]? = some (.cells #[.int .i64 p.kd, .int .i64 p.k.1, .int .i64 p.k.2, .int .i64 p.pa.1, .int .i64 p.pa.2, .int .i64 p.af.1, .int .i64 p.af.2, .string p.nm, .string p.vl] 42)) := (hb.block _ (row_lt HK.out)).trans HK.out; clear hb b0; have b7 : w1.cell? ⟨w.heap.size, 7, none⟩ = some (.string p.nm) := (by rw [cell_of_row w1 w.heap.size 7 _ _ _ HK.out]; rfl); rw [HF.out]) | (go_at_call 44; refine (name_any _ Hs.out _).mono ?_; rintro e w2 ⟨rfl, rfl⟩))
    (try rw [Exit.noGoto_ret])
    go_ret
    exact ⟨rfl, HB.out⟩

set_option maxRecDepth 100000 in
set_option maxHeartbeats 2000000 in
theorem checkValue_p (p : Pa) (w : World) : Calls Try.prog 24 #[paV p] w fun e w' => e = .returned (.int .i64 (valP p)) ∧ Below w.heap.size w w' := by
  have HK : Hid ((w.alloc (.cells #[.int .i64 p.kd, .int .i64 p.k.1, .int .i64 p.k.2, .int .i64 p.pa.1, .int .i64 p.pa.2, .int .i64 p.af.1, .int .i64 p.af.2, .string p.nm, .string p.vl] 42)).heap[w.heap.size]? = some (.cells #[.int .i64 p.kd, .int .i64 p.k.1, .int .i64 p.k.2, .int .i64 p.pa.1, .int .i64 p.pa.2, .int .i64 p.af.1, .int .i64 p.af.2, .string p.nm, .string p.vl] 42)) := heap_alloc_new _ _
  have HB : Hid (Below w.heap.size w (w.alloc (.cells #[.int .i64 p.kd, .int .i64 p.k.1, .int .i64 p.k.2, .int .i64 p.pa.1, .int .i64 p.pa.2, .int .i64 p.af.1, .int .i64 p.af.2, .string p.nm, .string p.vl] 42))) := (Below.refl _ _).alloc (Nat.le_refl _) _
  by_cases h0 : 256 < p.vl.size
  · have hv : valP p = 3 := if_pos h0
    rw [hv]
    have h1 : (256 : Int) < (p.vl.size : Int) := by omega
    clear hv h0
    show Calls Try.prog 24 #[.agg #[.int .i64 p.kd, .int .i64 p.k.1, .int .i64 p.k.2, .int .i64 p.pa.1, .int .i64 p.pa.2, .int .i64 p.af.1, .int .i64 p.af.2, .string p.nm, .string p.vl]] w _
    have b8 : (w.alloc (.cells #[.int .i64 p.kd, .int .i64 p.k.1, .int .i64 p.k.2, .int .i64 p.pa.1, .int .i64 p.pa.2, .int .i64 p.af.1, .int .i64 p.af.2, .string p.nm, .string p.vl] 42)).cell? ⟨w.heap.size, 8, none⟩ = some (.string p.vl) := (by rw [cell_of_row (w.alloc (.cells #[.int .i64 p.kd, .int .i64 p.k.1, .int .i64 p.k.2, .int .i64 p.pa.1, .int .i64 p.pa.2, .int .i64 p.af.1, .int .i64 p.af.2, .string p.nm, .string p.vl] 42)) w.heap.size 8 _ _ _ HK.out]; rfl)
    go_enter Try.func24, Try.ntmps24
    go_wp2
    (try rw [Exit.noGoto_ret])
    go_ret
    exact ⟨rfl, HB.out⟩
  · have h1 : ¬ (256 : Int) < (p.vl.size : Int) := by omega
    cases hf : fV p.kd with
    | true =>
      have hv : valP p = 0 := by unfold valP; rw [if_neg h0, if_neg (by rw [hf]; simp)]
      rw [hv]
      have HF : Hid (fV p.kd = true) := hide9 hf
      have hpld := pld3
      clear hv hf h0
      show Calls Try.prog 24 #[.agg #[.int .i64 p.kd, .int .i64 p.k.1, .int .i64 p.k.2, .int .i64 p.pa.1, .int .i64 p.pa.2, .int .i64 p.af.1, .int .i64 p.af.2, .string p.nm, .string p.vl]] w _
      have b0 : (w.alloc (.cells #[.int .i64 p.kd, .int .i64 p.k.1, .int .i64 p.k.2, .int .i64 p.pa.1, .int .i64 p.pa.2, .int .i64 p.af.1, .int .i64 p.af.2, .string p.nm, .string p.vl] 42)).cell? ⟨w.heap.size, 0, none⟩ = some (.int .i64 p.kd) := (by rw [cell_of_row (w.alloc (.cells #[.int .i64 p.kd, .int .i64 p.k.1, .int .i64 p.k.2, .int .i64 p.pa.1, .int .i64 p.pa.2, .int .i64 p.af.1, .int .i64 p.af.2, .string p.nm, .string p.vl] 42)) w.heap.size 0 _ _ _ HK.out]; rfl)
      have b8 : (w.alloc (.cells #[.int .i64 p.kd, .int .i64 p.k.1, .int .i64 p.k.2, .int .i64 p.pa.1, .int .i64 p.pa.2, .int .i64 p.af.1, .int .i64 p.af.2, .string p.nm, .string p.vl] 42)).cell? ⟨w.heap.size, 8, none⟩ = some (.string p.vl) := (by rw [cell_of_row (w.alloc (.cells #[.int .i64 p.kd, .int .i64 p.k.1, .int .i64 p.k.2, .int .i64 p.pa.1, .int .i64 p.pa.2, .int .i64 p.af.1, .int .i64 p.af.2, .string p.nm, .string p.vl] 42)) w.heap.size 8 _ _ _ HK.out]; rfl)
      go_enter Try.func24, Try.ntmps24
      go_wp2_with (go_at_call 42; refine (fieldsOf_any p.kd _).mono ?_; rintro e w1 ⟨rfl, hb⟩; replace HB : Hid (Below w.heap.size w w1) := HB.out.trans (hb.mono HB.out.size); replace HK : Hid (w1.heap[w.heap.size]? = some (.cells #[.int .i64 p.kd, .int .i64 p.k.1, .int .i64 p.k.2, .int .i64 p.pa.1, .int .i64 p.pa.2, .int .i64 p.af.1, .int .i64 p.af.2, .string p.nm, .string p.vl] 42)) := (hb.block _ (row_lt HK.out)).trans HK.out; clear hb b0 b8; have b8 : w1.cell? ⟨w.heap.size, 8, none⟩ = some (.string p.vl) := (by rw [cell_of_row w1 w.heap.size 8 _ _ _ HK.out]; rfl); rw [HF.out])
      (try rw [Exit.noGoto_ret])
      go_ret
      exact ⟨rfl, HB.out⟩
    | false =>
      cases hn : noT p.vl with
      | false =>
        have hv : valP p = 2 := by unfold valP; rw [if_neg h0, if_pos ⟨hf, hn⟩]
        rw [hv]
        have HF : Hid (fV p.kd = false) := hide9 hf
        have hpld := pld3
        have hq : (!(p.vl.toList == [])) = true := by unfold noT at hn; rw [hn]; rfl
        have hq2 : (p.vl.toList == []) = false := hn
        clear hv hf h0 hn
        show Calls Try.prog 24 #[.agg #[.int .i64 p.kd, .int .i64 p.k.1, .int .i64 p.k.2, .int .i64 p.pa.1, .int .i64 p.pa.2, .int .i64 p.af.1, .int .i64 p.af.2, .string p.nm, .string p.vl]] w _
        have b0 : (w.alloc (.cells #[.int .i64 p.kd, .int .i64 p.k.1, .int .i64 p.k.2, .int .i64 p.pa.1, .int .i64 p.pa.2, .int .i64 p.af.1, .int .i64 p.af.2, .string p.nm, .string p.vl] 42)).cell? ⟨w.heap.size, 0, none⟩ = some (.int .i64 p.kd) := (by rw [cell_of_row (w.alloc (.cells #[.int .i64 p.kd, .int .i64 p.k.1, .int .i64 p.k.2, .int .i64 p.pa.1, .int .i64 p.pa.2, .int .i64 p.af.1, .int .i64 p.af.2, .string p.nm, .string p.vl] 42)) w.heap.size 0 _ _ _ HK.out]; rfl)
        have b8 : (w.alloc (.cells #[.int .i64 p.kd, .int .i64 p.k.1, .int .i64 p.k.2, .int .i64 p.pa.1, .int .i64 p.pa.2, .int .i64 p.af.1, .int .i64 p.af.2, .string p.nm, .string p.vl] 42)).cell? ⟨w.heap.size, 8, none⟩ = some (.string p.vl) := (by rw [cell_of_row (w.alloc (.cells #[.int .i64 p.kd, .int .i64 p.k.1, .int .i64 p.k.2, .int .i64 p.pa.1, .int .i64 p.pa.2, .int .i64 p.af.1, .int .i64 p.af.2, .string p.nm, .string p.vl] 42)) w.heap.size 8 _ _ _ HK.out]; rfl)
        go_enter Try.func24, Try.ntmps24
        go_wp2_with (go_at_call 42; refine (fieldsOf_any p.kd _).mono ?_; rintro e w1 ⟨rfl, hb⟩; replace HB : Hid (Below w.heap.size w w1) := HB.out.trans (hb.mono HB.out.size); replace HK : Hid (w1.heap[w.heap.size]? = some (.cells #[.int .i64 p.kd, .int .i64 p.k.1, .int .i64 p.k.2, .int .i64 p.pa.1, .int .i64 p.pa.2, .int .i64 p.af.1, .int .i64 p.af.2, .string p.nm, .string p.vl] 42)) := (hb.block _ (row_lt HK.out)).trans HK.out; clear hb b0 b8; have b8 : w1.cell? ⟨w.heap.size, 8, none⟩ = some (.string p.vl) := (by rw [cell_of_row w1 w.heap.size 8 _ _ _ HK.out]; rfl); rw [HF.out])
        (try rw [Exit.noGoto_ret])
        go_ret
        exact ⟨rfl, HB.out⟩
      | true =>
        have hv : valP p = 0 := by unfold valP; rw [if_neg h0, if_neg (by rw [hn]; simp)]
        rw [hv]
        have HF : Hid (fV p.kd = false) := hide9 hf
        have hpld := pld3
        have hq : (!(p.vl.toList == [])) = false := by unfold noT at hn; rw [hn]; rfl
        have hq2 : (p.vl.toList == []) = true := hn
        clear hv hf h0 hn
        show Calls Try.prog 24 #[.agg #[.int .i64 p.kd, .int .i64 p.k.1, .int .i64 p.k.2, .int .i64 p.pa.1, .int .i64 p.pa.2, .int .i64 p.af.1, .int .i64 p.af.2, .string p.nm, .string p.vl]] w _
        have b0 : (w.alloc (.cells #[.int .i64 p.kd, .int .i64 p.k.1, .int .i64 p.k.2, .int .i64 p.pa.1, .int .i64 p.pa.2, .int .i64 p.af.1, .int .i64 p.af.2, .string p.nm, .string p.vl] 42)).cell? ⟨w.heap.size, 0, none⟩ = some (.int .i64 p.kd) := (by rw [cell_of_row (w.alloc (.cells #[.int .i64 p.kd, .int .i64 p.k.1, .int .i64 p.k.2, .int .i64 p.pa.1, .int .i64 p.pa.2, .int .i64 p.af.1, .int .i64 p.af.2, .string p.nm, .string p.vl] 42)) w.heap.size 0 _ _ _ HK.out]; rfl)
        have b8 : (w.alloc (.cells #[.int .i64 p.kd, .int .i64 p.k.1, .int .i64 p.k.2, .int .i64 p.pa.1, .int .i64 p.pa.2, .int .i64 p.af.1, .int .i64 p.af.2, .string p.nm, .string p.vl] 42)).cell? ⟨w.heap.size, 8, none⟩ = some (.string p.vl) := (by rw [cell_of_row (w.alloc (.cells #[.int .i64 p.kd, .int .i64 p.k.1, .int .i64 p.k.2, .int .i64 p.pa.1, .int .i64 p.pa.2, .int .i64 p.af.1, .int .i64 p.af.2, .string p.nm, .string p.vl] 42)) w.heap.size 8 _ _ _ HK.out]; rfl)
        go_enter Try.func24, Try.ntmps24
        go_wp2_with (go_at_call 42; refine (fieldsOf_any p.kd _).mono ?_; rintro e w1 ⟨rfl, hb⟩; replace HB : Hid (Below w.heap.size w w1) := HB.out.trans (hb.mono HB.out.size); replace HK : Hid (w1.heap[w.heap.size]? = some (.cells #[.int .i64 p.kd, .int .i64 p.k.1, .int .i64 p.k.2, .int .i64 p.pa.1, .int .i64 p.pa.2, .int .i64 p.af.1, .int .i64 p.af.2, .string p.nm, .string p.vl] 42)) := (hb.block _ (row_lt HK.out)).trans HK.out; clear hb b0 b8; have b8 : w1.cell? ⟨w.heap.size, 8, none⟩ = some (.string p.vl) := (by rw [cell_of_row w1 w.heap.size 8 _ _ _ HK.out]; rfl); rw [HF.out])
        (try rw [Exit.noGoto_ret])
        go_ret
        exact ⟨rfl, HB.out⟩

set_option maxRecDepth 100000 in
set_option maxHeartbeats 4000000 in
theorem checkP_any (p : Pa) (w : World) (hs : p.nm.size ≤ 281474976710656) : Calls Try.prog 12 #[paV p] w fun e w' => e = .returned (.int .i64 (chkP p)) ∧ Below w.heap.size w w' := by
  have Hs := hide9 hs
  clear hs
  have HK : Hid ((w.alloc (.cells #[.int .i64 p.kd, .int .i64 p.k.1, .int .i64 p.k.2, .int .i64 p.pa.1, .int .i64 p.pa.2, .int .i64 p.af.1, .int .i64 p.af.2, .string p.nm, .string p.vl] 42)).heap[w.heap.size]? = some (.cells #[.int .i64 p.kd, .int .i64 p.k.1, .int .i64 p.k.2, .int .i64 p.pa.1, .int .i64 p.pa.2, .int .i64 p.af.1, .int .i64 p.af.2, .string p.nm, .string p.vl] 42)) := heap_alloc_new _ _
  have HB : Hid (Below w.heap.size w (w.alloc (.cells #[.int .i64 p.kd, .int .i64 p.k.1, .int .i64 p.k.2, .int .i64 p.pa.1, .int .i64 p.pa.2, .int .i64 p.af.1, .int .i64 p.af.2, .string p.nm, .string p.vl] 42))) := (Below.refl _ _).alloc (Nat.le_refl _) _
  by_cases hk : 1 ≤ p.kd ∧ p.kd ≤ 9
  · have HKd : Hid (decide (1 ≤ p.kd ∧ p.kd ≤ 9) = true) := decide_eq_true hk
    have Hk9 := hide9 hk.2
    cases hky : keyP p with
    | false =>
      have HKy := hide9 hky
      have hv : chkP p = 2 := by unfold chkP; rw [if_neg (fun e => e hk), if_pos (.inl hky)]
      rw [hv]
      clear hv
      show Calls Try.prog 12 #[.agg #[.int .i64 p.kd, .int .i64 p.k.1, .int .i64 p.k.2, .int .i64 p.pa.1, .int .i64 p.pa.2, .int .i64 p.af.1, .int .i64 p.af.2, .string p.nm, .string p.vl]] w _
      have b0 : (w.alloc (.cells #[.int .i64 p.kd, .int .i64 p.k.1, .int .i64 p.k.2, .int .i64 p.pa.1, .int .i64 p.pa.2, .int .i64 p.af.1, .int .i64 p.af.2, .string p.nm, .string p.vl] 42)).cell? ⟨w.heap.size, 0, none⟩ = some (.int .i64 p.kd) := (by rw [cell_of_row (w.alloc (.cells #[.int .i64 p.kd, .int .i64 p.k.1, .int .i64 p.k.2, .int .i64 p.pa.1, .int .i64 p.pa.2, .int .i64 p.af.1, .int .i64 p.af.2, .string p.nm, .string p.vl] 42)) w.heap.size 0 _ _ _ HK.out]; rfl)
      have b1 : (w.alloc (.cells #[.int .i64 p.kd, .int .i64 p.k.1, .int .i64 p.k.2, .int .i64 p.pa.1, .int .i64 p.pa.2, .int .i64 p.af.1, .int .i64 p.af.2, .string p.nm, .string p.vl] 42)).cell? ⟨w.heap.size, 1, none⟩ = some (.int .i64 p.k.1) := (by rw [cell_of_row (w.alloc (.cells #[.int .i64 p.kd, .int .i64 p.k.1, .int .i64 p.k.2, .int .i64 p.pa.1, .int .i64 p.pa.2, .int .i64 p.af.1, .int .i64 p.af.2, .string p.nm, .string p.vl] 42)) w.heap.size 1 _ _ _ HK.out]; rfl)
      have b2 : (w.alloc (.cells #[.int .i64 p.kd, .int .i64 p.k.1, .int .i64 p.k.2, .int .i64 p.pa.1, .int .i64 p.pa.2, .int .i64 p.af.1, .int .i64 p.af.2, .string p.nm, .string p.vl] 42)).cell? ⟨w.heap.size, 2, none⟩ = some (.int .i64 p.k.2) := (by rw [cell_of_row (w.alloc (.cells #[.int .i64 p.kd, .int .i64 p.k.1, .int .i64 p.k.2, .int .i64 p.pa.1, .int .i64 p.pa.2, .int .i64 p.af.1, .int .i64 p.af.2, .string p.nm, .string p.vl] 42)) w.heap.size 2 _ _ _ HK.out]; rfl)
      have b3 : (w.alloc (.cells #[.int .i64 p.kd, .int .i64 p.k.1, .int .i64 p.k.2, .int .i64 p.pa.1, .int .i64 p.pa.2, .int .i64 p.af.1, .int .i64 p.af.2, .string p.nm, .string p.vl] 42)).cell? ⟨w.heap.size, 3, none⟩ = some (.int .i64 p.pa.1) := (by rw [cell_of_row (w.alloc (.cells #[.int .i64 p.kd, .int .i64 p.k.1, .int .i64 p.k.2, .int .i64 p.pa.1, .int .i64 p.pa.2, .int .i64 p.af.1, .int .i64 p.af.2, .string p.nm, .string p.vl] 42)) w.heap.size 3 _ _ _ HK.out]; rfl)
      have b4 : (w.alloc (.cells #[.int .i64 p.kd, .int .i64 p.k.1, .int .i64 p.k.2, .int .i64 p.pa.1, .int .i64 p.pa.2, .int .i64 p.af.1, .int .i64 p.af.2, .string p.nm, .string p.vl] 42)).cell? ⟨w.heap.size, 4, none⟩ = some (.int .i64 p.pa.2) := (by rw [cell_of_row (w.alloc (.cells #[.int .i64 p.kd, .int .i64 p.k.1, .int .i64 p.k.2, .int .i64 p.pa.1, .int .i64 p.pa.2, .int .i64 p.af.1, .int .i64 p.af.2, .string p.nm, .string p.vl] 42)) w.heap.size 4 _ _ _ HK.out]; rfl)
      have b5 : (w.alloc (.cells #[.int .i64 p.kd, .int .i64 p.k.1, .int .i64 p.k.2, .int .i64 p.pa.1, .int .i64 p.pa.2, .int .i64 p.af.1, .int .i64 p.af.2, .string p.nm, .string p.vl] 42)).cell? ⟨w.heap.size, 5, none⟩ = some (.int .i64 p.af.1) := (by rw [cell_of_row (w.alloc (.cells #[.int .i64 p.kd, .int .i64 p.k.1, .int .i64 p.k.2, .int .i64 p.pa.1, .int .i64 p.pa.2, .int .i64 p.af.1, .int .i64 p.af.2, .string p.nm, .string p.vl] 42)) w.heap.size 5 _ _ _ HK.out]; rfl)
      have b6 : (w.alloc (.cells #[.int .i64 p.kd, .int .i64 p.k.1, .int .i64 p.k.2, .int .i64 p.pa.1, .int .i64 p.pa.2, .int .i64 p.af.1, .int .i64 p.af.2, .string p.nm, .string p.vl] 42)).cell? ⟨w.heap.size, 6, none⟩ = some (.int .i64 p.af.2) := (by rw [cell_of_row (w.alloc (.cells #[.int .i64 p.kd, .int .i64 p.k.1, .int .i64 p.k.2, .int .i64 p.pa.1, .int .i64 p.pa.2, .int .i64 p.af.1, .int .i64 p.af.2, .string p.nm, .string p.vl] 42)) w.heap.size 6 _ _ _ HK.out]; rfl)
      have b7 : (w.alloc (.cells #[.int .i64 p.kd, .int .i64 p.k.1, .int .i64 p.k.2, .int .i64 p.pa.1, .int .i64 p.pa.2, .int .i64 p.af.1, .int .i64 p.af.2, .string p.nm, .string p.vl] 42)).cell? ⟨w.heap.size, 7, none⟩ = some (.string p.nm) := (by rw [cell_of_row (w.alloc (.cells #[.int .i64 p.kd, .int .i64 p.k.1, .int .i64 p.k.2, .int .i64 p.pa.1, .int .i64 p.pa.2, .int .i64 p.af.1, .int .i64 p.af.2, .string p.nm, .string p.vl] 42)) w.heap.size 7 _ _ _ HK.out]; rfl)
      have b8 : (w.alloc (.cells #[.int .i64 p.kd, .int .i64 p.k.1, .int .i64 p.k.2, .int .i64 p.pa.1, .int .i64 p.pa.2, .int .i64 p.af.1, .int .i64 p.af.2, .string p.nm, .string p.vl] 42)).cell? ⟨w.heap.size, 8, none⟩ = some (.string p.vl) := (by rw [cell_of_row (w.alloc (.cells #[.int .i64 p.kd, .int .i64 p.k.1, .int .i64 p.k.2, .int .i64 p.pa.1, .int .i64 p.pa.2, .int .i64 p.af.1, .int .i64 p.af.2, .string p.nm, .string p.vl] 42)) w.heap.size 8 _ _ _ HK.out]; rfl)
      go_enter Try.func12, Try.ntmps12
      go_wp2_with (first | (go_at_call 19; refine (isKind_any p.kd _).mono ?_; rintro e wz ⟨rfl, rfl⟩; rw [HKd.out]) | (go_at_call 20; refine (isKeyRight_p p _ Hk9.out).mono ?_; rintro e w1 ⟨rfl, hb⟩; rw [HKy.out]; replace HB : Hid (Below w.heap.size w w1) := HB.out.trans (hb.mono HB.out.size); replace HK : Hid (w1.heap[w.heap.size]? = some (.cells #[.int .i64 p.kd, .int .i64 p.k.1, .int .i64 p.k.2, .int .i64 p.pa.1, .int .i64 p.pa.2, .int .i64 p.af.1, .int .i64 p.af.2, .string p.nm, .string p.vl] 42)) := (hb.block _ (row_lt HK.out)).trans HK.out; clear hb b0 b1 b2 b3 b4 b5 b6 b7 b8; have b0 : w1.cell? ⟨w.heap.size, 0, none⟩ = some (.int .i64 p.kd) := (by rw [cell_of_row w1 w.heap.size 0 _ _ _ HK.out]; rfl); have b1 : w1.cell? ⟨w.heap.size, 1, none⟩ = some (.int .i64 p.k.1) := (by rw [cell_of_row w1 w.heap.size 1 _ _ _ HK.out]; rfl); have b2 : w1.cell? ⟨w.heap.size, 2, none⟩ = some (.int .i64 p.k.2) := (by rw [cell_of_row w1 w.heap.size 2 _ _ _ HK.out]; rfl); have b3 : w1.cell? ⟨w.heap.size, 3, none⟩ = some (.int .i64 p.pa.1) := (by rw [cell_of_row w1 w.heap.size 3 _ _ _ HK.out]; rfl); have b4 : w1.cell? ⟨w.heap.size, 4, none⟩ = some (.int .i64 p.pa.2) := (by rw [cell_of_row w1 w.heap.size 4 _ _ _ HK.out]; rfl); have b5 : w1.cell? ⟨w.heap.size, 5, none⟩ = some (.int .i64 p.af.1) := (by rw [cell_of_row w1 w.heap.size 5 _ _ _ HK.out]; rfl); have b6 : w1.cell? ⟨w.heap.size, 6, none⟩ = some (.int .i64 p.af.2) := (by rw [cell_of_row w1 w.heap.size 6 _ _ _ HK.out]; rfl); have b7 : w1.cell? ⟨w.heap.size, 7, none⟩ = some (.string p.nm) := (by rw [cell_of_row w1 w.heap.size 7 _ _ _ HK.out]; rfl); have b8 : w1.cell? ⟨w.heap.size, 8, none⟩ = some (.string p.vl) := (by rw [cell_of_row w1 w.heap.size 8 _ _ _ HK.out]; rfl)))
      (try rw [Exit.noGoto_ret])
      go_ret
      exact ⟨rfl, HB.out⟩
    | true =>
      have HKy := hide9 hky
      cases hpr : parP p with
      | false =>
        have HPr := hide9 hpr
        have hv : chkP p = 2 := by unfold chkP; rw [if_neg (fun e => e hk), if_pos (.inr (.inl hpr))]
        rw [hv]
        clear hv
        show Calls Try.prog 12 #[.agg #[.int .i64 p.kd, .int .i64 p.k.1, .int .i64 p.k.2, .int .i64 p.pa.1, .int .i64 p.pa.2, .int .i64 p.af.1, .int .i64 p.af.2, .string p.nm, .string p.vl]] w _
        have b0 : (w.alloc (.cells #[.int .i64 p.kd, .int .i64 p.k.1, .int .i64 p.k.2, .int .i64 p.pa.1, .int .i64 p.pa.2, .int .i64 p.af.1, .int .i64 p.af.2, .string p.nm, .string p.vl] 42)).cell? ⟨w.heap.size, 0, none⟩ = some (.int .i64 p.kd) := (by rw [cell_of_row (w.alloc (.cells #[.int .i64 p.kd, .int .i64 p.k.1, .int .i64 p.k.2, .int .i64 p.pa.1, .int .i64 p.pa.2, .int .i64 p.af.1, .int .i64 p.af.2, .string p.nm, .string p.vl] 42)) w.heap.size 0 _ _ _ HK.out]; rfl)
        have b1 : (w.alloc (.cells #[.int .i64 p.kd, .int .i64 p.k.1, .int .i64 p.k.2, .int .i64 p.pa.1, .int .i64 p.pa.2, .int .i64 p.af.1, .int .i64 p.af.2, .string p.nm, .string p.vl] 42)).cell? ⟨w.heap.size, 1, none⟩ = some (.int .i64 p.k.1) := (by rw [cell_of_row (w.alloc (.cells #[.int .i64 p.kd, .int .i64 p.k.1, .int .i64 p.k.2, .int .i64 p.pa.1, .int .i64 p.pa.2, .int .i64 p.af.1, .int .i64 p.af.2, .string p.nm, .string p.vl] 42)) w.heap.size 1 _ _ _ HK.out]; rfl)
        have b2 : (w.alloc (.cells #[.int .i64 p.kd, .int .i64 p.k.1, .int .i64 p.k.2, .int .i64 p.pa.1, .int .i64 p.pa.2, .int .i64 p.af.1, .int .i64 p.af.2, .string p.nm, .string p.vl] 42)).cell? ⟨w.heap.size, 2, none⟩ = some (.int .i64 p.k.2) := (by rw [cell_of_row (w.alloc (.cells #[.int .i64 p.kd, .int .i64 p.k.1, .int .i64 p.k.2, .int .i64 p.pa.1, .int .i64 p.pa.2, .int .i64 p.af.1, .int .i64 p.af.2, .string p.nm, .string p.vl] 42)) w.heap.size 2 _ _ _ HK.out]; rfl)
        have b3 : (w.alloc (.cells #[.int .i64 p.kd, .int .i64 p.k.1, .int .i64 p.k.2, .int .i64 p.pa.1, .int .i64 p.pa.2, .int .i64 p.af.1, .int .i64 p.af.2, .string p.nm, .string p.vl] 42)).cell? ⟨w.heap.size, 3, none⟩ = some (.int .i64 p.pa.1) := (by rw [cell_of_row (w.alloc (.cells #[.int .i64 p.kd, .int .i64 p.k.1, .int .i64 p.k.2, .int .i64 p.pa.1, .int .i64 p.pa.2, .int .i64 p.af.1, .int .i64 p.af.2, .string p.nm, .string p.vl] 42)) w.heap.size 3 _ _ _ HK.out]; rfl)
        have b4 : (w.alloc (.cells #[.int .i64 p.kd, .int .i64 p.k.1, .int .i64 p.k.2, .int .i64 p.pa.1, .int .i64 p.pa.2, .int .i64 p.af.1, .int .i64 p.af.2, .string p.nm, .string p.vl] 42)).cell? ⟨w.heap.size, 4, none⟩ = some (.int .i64 p.pa.2) := (by rw [cell_of_row (w.alloc (.cells #[.int .i64 p.kd, .int .i64 p.k.1, .int .i64 p.k.2, .int .i64 p.pa.1, .int .i64 p.pa.2, .int .i64 p.af.1, .int .i64 p.af.2, .string p.nm, .string p.vl] 42)) w.heap.size 4 _ _ _ HK.out]; rfl)
        have b5 : (w.alloc (.cells #[.int .i64 p.kd, .int .i64 p.k.1, .int .i64 p.k.2, .int .i64 p.pa.1, .int .i64 p.pa.2, .int .i64 p.af.1, .int .i64 p.af.2, .string p.nm, .string p.vl] 42)).cell? ⟨w.heap.size, 5, none⟩ = some (.int .i64 p.af.1) := (by rw [cell_of_row (w.alloc (.cells #[.int .i64 p.kd, .int .i64 p.k.1, .int .i64 p.k.2, .int .i64 p.pa.1, .int .i64 p.pa.2, .int .i64 p.af.1, .int .i64 p.af.2, .string p.nm, .string p.vl] 42)) w.heap.size 5 _ _ _ HK.out]; rfl)
        have b6 : (w.alloc (.cells #[.int .i64 p.kd, .int .i64 p.k.1, .int .i64 p.k.2, .int .i64 p.pa.1, .int .i64 p.pa.2, .int .i64 p.af.1, .int .i64 p.af.2, .string p.nm, .string p.vl] 42)).cell? ⟨w.heap.size, 6, none⟩ = some (.int .i64 p.af.2) := (by rw [cell_of_row (w.alloc (.cells #[.int .i64 p.kd, .int .i64 p.k.1, .int .i64 p.k.2, .int .i64 p.pa.1, .int .i64 p.pa.2, .int .i64 p.af.1, .int .i64 p.af.2, .string p.nm, .string p.vl] 42)) w.heap.size 6 _ _ _ HK.out]; rfl)
        have b7 : (w.alloc (.cells #[.int .i64 p.kd, .int .i64 p.k.1, .int .i64 p.k.2, .int .i64 p.pa.1, .int .i64 p.pa.2, .int .i64 p.af.1, .int .i64 p.af.2, .string p.nm, .string p.vl] 42)).cell? ⟨w.heap.size, 7, none⟩ = some (.string p.nm) := (by rw [cell_of_row (w.alloc (.cells #[.int .i64 p.kd, .int .i64 p.k.1, .int .i64 p.k.2, .int .i64 p.pa.1, .int .i64 p.pa.2, .int .i64 p.af.1, .int .i64 p.af.2, .string p.nm, .string p.vl] 42)) w.heap.size 7 _ _ _ HK.out]; rfl)
        have b8 : (w.alloc (.cells #[.int .i64 p.kd, .int .i64 p.k.1, .int .i64 p.k.2, .int .i64 p.pa.1, .int .i64 p.pa.2, .int .i64 p.af.1, .int .i64 p.af.2, .string p.nm, .string p.vl] 42)).cell? ⟨w.heap.size, 8, none⟩ = some (.string p.vl) := (by rw [cell_of_row (w.alloc (.cells #[.int .i64 p.kd, .int .i64 p.k.1, .int .i64 p.k.2, .int .i64 p.pa.1, .int .i64 p.pa.2, .int .i64 p.af.1, .int .i64 p.af.2, .string p.nm, .string p.vl] 42)) w.heap.size 8 _ _ _ HK.out]; rfl)
        go_enter Try.func12, Try.ntmps12
        go_wp2_with (first | (go_at_call 19; refine (isKind_any p.kd _).mono ?_; rintro e wz ⟨rfl, rfl⟩; rw [HKd.out]) | (go_at_call 20; refine (isKeyRight_p p _ Hk9.out).mono ?_; rintro e w1 ⟨rfl, hb⟩; rw [HKy.out]; replace HB : Hid (Below w.heap.size w w1) := HB.out.trans (hb.mono HB.out.size); replace HK : Hid (w1.heap[w.heap.size]? = some (.cells #[.int .i64 p.kd, .int .i64 p.k.1, .int .i64 p.k.2, .int .i64 p.pa.1, .int .i64 p.pa.2, .int .i64 p.af.1, .int .i64 p.af.2, .string p.nm, .string p.vl] 42)) := (hb.block _ (row_lt HK.out)).trans HK.out; clear hb b0 b1 b2 b3 b4 b5 b6 b7 b8; have b0 : w1.cell? ⟨w.heap.size, 0, none⟩ = some (.int .i64 p.kd) := (by rw [cell_of_row w1 w.heap.size 0 _ _ _ HK.out]; rfl); have b1 : w1.cell? ⟨w.heap.size, 1, none⟩ = some (.int .i64 p.k.1) := (by rw [cell_of_row w1 w.heap.size 1 _ _ _ HK.out]; rfl); have b2 : w1.cell? ⟨w.heap.size, 2, none⟩ = some (.int .i64 p.k.2) := (by rw [cell_of_row w1 w.heap.size 2 _ _ _ HK.out]; rfl); have b3 : w1.cell? ⟨w.heap.size, 3, none⟩ = some (.int .i64 p.pa.1) := (by rw [cell_of_row w1 w.heap.size 3 _ _ _ HK.out]; rfl); have b4 : w1.cell? ⟨w.heap.size, 4, none⟩ = some (.int .i64 p.pa.2) := (by rw [cell_of_row w1 w.heap.size 4 _ _ _ HK.out]; rfl); have b5 : w1.cell? ⟨w.heap.size, 5, none⟩ = some (.int .i64 p.af.1) := (by rw [cell_of_row w1 w.heap.size 5 _ _ _ HK.out]; rfl); have b6 : w1.cell? ⟨w.heap.size, 6, none⟩ = some (.int .i64 p.af.2) := (by rw [cell_of_row w1 w.heap.size 6 _ _ _ HK.out]; rfl); have b7 : w1.cell? ⟨w.heap.size, 7, none⟩ = some (.string p.nm) := (by rw [cell_of_row w1 w.heap.size 7 _ _ _ HK.out]; rfl); have b8 : w1.cell? ⟨w.heap.size, 8, none⟩ = some (.string p.vl) := (by rw [cell_of_row w1 w.heap.size 8 _ _ _ HK.out]; rfl)) | (go_at_call 21; refine (isParentRight_p p _).mono ?_; rintro e w2 ⟨rfl, hb⟩; rw [HPr.out]; replace HB : Hid (Below w.heap.size w w2) := HB.out.trans (hb.mono HB.out.size); replace HK : Hid (w2.heap[w.heap.size]? = some (.cells #[.int .i64 p.kd, .int .i64 p.k.1, .int .i64 p.k.2, .int .i64 p.pa.1, .int .i64 p.pa.2, .int .i64 p.af.1, .int .i64 p.af.2, .string p.nm, .string p.vl] 42)) := (hb.block _ (row_lt HK.out)).trans HK.out; clear hb b0 b1 b2 b3 b4 b5 b6 b7 b8; have b0 : w2.cell? ⟨w.heap.size, 0, none⟩ = some (.int .i64 p.kd) := (by rw [cell_of_row w2 w.heap.size 0 _ _ _ HK.out]; rfl); have b1 : w2.cell? ⟨w.heap.size, 1, none⟩ = some (.int .i64 p.k.1) := (by rw [cell_of_row w2 w.heap.size 1 _ _ _ HK.out]; rfl); have b2 : w2.cell? ⟨w.heap.size, 2, none⟩ = some (.int .i64 p.k.2) := (by rw [cell_of_row w2 w.heap.size 2 _ _ _ HK.out]; rfl); have b3 : w2.cell? ⟨w.heap.size, 3, none⟩ = some (.int .i64 p.pa.1) := (by rw [cell_of_row w2 w.heap.size 3 _ _ _ HK.out]; rfl); have b4 : w2.cell? ⟨w.heap.size, 4, none⟩ = some (.int .i64 p.pa.2) := (by rw [cell_of_row w2 w.heap.size 4 _ _ _ HK.out]; rfl); have b5 : w2.cell? ⟨w.heap.size, 5, none⟩ = some (.int .i64 p.af.1) := (by rw [cell_of_row w2 w.heap.size 5 _ _ _ HK.out]; rfl); have b6 : w2.cell? ⟨w.heap.size, 6, none⟩ = some (.int .i64 p.af.2) := (by rw [cell_of_row w2 w.heap.size 6 _ _ _ HK.out]; rfl); have b7 : w2.cell? ⟨w.heap.size, 7, none⟩ = some (.string p.nm) := (by rw [cell_of_row w2 w.heap.size 7 _ _ _ HK.out]; rfl); have b8 : w2.cell? ⟨w.heap.size, 8, none⟩ = some (.string p.vl) := (by rw [cell_of_row w2 w.heap.size 8 _ _ _ HK.out]; rfl)))
        (try rw [Exit.noGoto_ret])
        go_ret
        exact ⟨rfl, HB.out⟩
      | true =>
        have HPr := hide9 hpr
        cases har : aftP p with
        | false =>
          have HAr := hide9 har
          have hv : chkP p = 2 := by unfold chkP; rw [if_neg (fun e => e hk), if_pos (.inr (.inr har))]
          rw [hv]
          clear hv
          show Calls Try.prog 12 #[.agg #[.int .i64 p.kd, .int .i64 p.k.1, .int .i64 p.k.2, .int .i64 p.pa.1, .int .i64 p.pa.2, .int .i64 p.af.1, .int .i64 p.af.2, .string p.nm, .string p.vl]] w _
          have b0 : (w.alloc (.cells #[.int .i64 p.kd, .int .i64 p.k.1, .int .i64 p.k.2, .int .i64 p.pa.1, .int .i64 p.pa.2, .int .i64 p.af.1, .int .i64 p.af.2, .string p.nm, .string p.vl] 42)).cell? ⟨w.heap.size, 0, none⟩ = some (.int .i64 p.kd) := (by rw [cell_of_row (w.alloc (.cells #[.int .i64 p.kd, .int .i64 p.k.1, .int .i64 p.k.2, .int .i64 p.pa.1, .int .i64 p.pa.2, .int .i64 p.af.1, .int .i64 p.af.2, .string p.nm, .string p.vl] 42)) w.heap.size 0 _ _ _ HK.out]; rfl)
          have b1 : (w.alloc (.cells #[.int .i64 p.kd, .int .i64 p.k.1, .int .i64 p.k.2, .int .i64 p.pa.1, .int .i64 p.pa.2, .int .i64 p.af.1, .int .i64 p.af.2, .string p.nm, .string p.vl] 42)).cell? ⟨w.heap.size, 1, none⟩ = some (.int .i64 p.k.1) := (by rw [cell_of_row (w.alloc (.cells #[.int .i64 p.kd, .int .i64 p.k.1, .int .i64 p.k.2, .int .i64 p.pa.1, .int .i64 p.pa.2, .int .i64 p.af.1, .int .i64 p.af.2, .string p.nm, .string p.vl] 42)) w.heap.size 1 _ _ _ HK.out]; rfl)
          have b2 : (w.alloc (.cells #[.int .i64 p.kd, .int .i64 p.k.1, .int .i64 p.k.2, .int .i64 p.pa.1, .int .i64 p.pa.2, .int .i64 p.af.1, .int .i64 p.af.2, .string p.nm, .string p.vl] 42)).cell? ⟨w.heap.size, 2, none⟩ = some (.int .i64 p.k.2) := (by rw [cell_of_row (w.alloc (.cells #[.int .i64 p.kd, .int .i64 p.k.1, .int .i64 p.k.2, .int .i64 p.pa.1, .int .i64 p.pa.2, .int .i64 p.af.1, .int .i64 p.af.2, .string p.nm, .string p.vl] 42)) w.heap.size 2 _ _ _ HK.out]; rfl)
          have b3 : (w.alloc (.cells #[.int .i64 p.kd, .int .i64 p.k.1, .int .i64 p.k.2, .int .i64 p.pa.1, .int .i64 p.pa.2, .int .i64 p.af.1, .int .i64 p.af.2, .string p.nm, .string p.vl] 42)).cell? ⟨w.heap.size, 3, none⟩ = some (.int .i64 p.pa.1) := (by rw [cell_of_row (w.alloc (.cells #[.int .i64 p.kd, .int .i64 p.k.1, .int .i64 p.k.2, .int .i64 p.pa.1, .int .i64 p.pa.2, .int .i64 p.af.1, .int .i64 p.af.2, .string p.nm, .string p.vl] 42)) w.heap.size 3 _ _ _ HK.out]; rfl)
          have b4 : (w.alloc (.cells #[.int .i64 p.kd, .int .i64 p.k.1, .int .i64 p.k.2, .int .i64 p.pa.1, .int .i64 p.pa.2, .int .i64 p.af.1, .int .i64 p.af.2, .string p.nm, .string p.vl] 42)).cell? ⟨w.heap.size, 4, none⟩ = some (.int .i64 p.pa.2) := (by rw [cell_of_row (w.alloc (.cells #[.int .i64 p.kd, .int .i64 p.k.1, .int .i64 p.k.2, .int .i64 p.pa.1, .int .i64 p.pa.2, .int .i64 p.af.1, .int .i64 p.af.2, .string p.nm, .string p.vl] 42)) w.heap.size 4 _ _ _ HK.out]; rfl)
          have b5 : (w.alloc (.cells #[.int .i64 p.kd, .int .i64 p.k.1, .int .i64 p.k.2, .int .i64 p.pa.1, .int .i64 p.pa.2, .int .i64 p.af.1, .int .i64 p.af.2, .string p.nm, .string p.vl] 42)).cell? ⟨w.heap.size, 5, none⟩ = some (.int .i64 p.af.1) := (by rw [cell_of_row (w.alloc (.cells #[.int .i64 p.kd, .int .i64 p.k.1, .int .i64 p.k.2, .int .i64 p.pa.1, .int .i64 p.pa.2, .int .i64 p.af.1, .int .i64 p.af.2, .string p.nm, .string p.vl] 42)) w.heap.size 5 _ _ _ HK.out]; rfl)
          have b6 : (w.alloc (.cells #[.int .i64 p.kd, .int .i64 p.k.1, .int .i64 p.k.2, .int .i64 p.pa.1, .int .i64 p.pa.2, .int .i64 p.af.1, .int .i64 p.af.2, .string p.nm, .string p.vl] 42)).cell? ⟨w.heap.size, 6, none⟩ = some (.int .i64 p.af.2) := (by rw [cell_of_row (w.alloc (.cells #[.int .i64 p.kd, .int .i64 p.k.1, .int .i64 p.k.2, .int .i64 p.pa.1, .int .i64 p.pa.2, .int .i64 p.af.1, .int .i64 p.af.2, .string p.nm, .string p.vl] 42)) w.heap.size 6 _ _ _ HK.out]; rfl)
          have b7 : (w.alloc (.cells #[.int .i64 p.kd, .int .i64 p.k.1, .int .i64 p.k.2, .int .i64 p.pa.1, .int .i64 p.pa.2, .int .i64 p.af.1, .int .i64 p.af.2, .string p.nm, .string p.vl] 42)).cell? ⟨w.heap.size, 7, none⟩ = some (.string p.nm) := (by rw [cell_of_row (w.alloc (.cells #[.int .i64 p.kd, .int .i64 p.k.1, .int .i64 p.k.2, .int .i64 p.pa.1, .int .i64 p.pa.2, .int .i64 p.af.1, .int .i64 p.af.2, .string p.nm, .string p.vl] 42)) w.heap.size 7 _ _ _ HK.out]; rfl)
          have b8 : (w.alloc (.cells #[.int .i64 p.kd, .int .i64 p.k.1, .int .i64 p.k.2, .int .i64 p.pa.1, .int .i64 p.pa.2, .int .i64 p.af.1, .int .i64 p.af.2, .string p.nm, .string p.vl] 42)).cell? ⟨w.heap.size, 8, none⟩ = some (.string p.vl) := (by rw [cell_of_row (w.alloc (.cells #[.int .i64 p.kd, .int .i64 p.k.1, .int .i64 p.k.2, .int .i64 p.pa.1, .int .i64 p.pa.2, .int .i64 p.af.1, .int .i64 p.af.2, .string p.nm, .string p.vl] 42)) w.heap.size 8 _ _ _ HK.out]; rfl)
          go_enter Try.func12, Try.ntmps12
          go_wp2_with (first | (go_at_call 19; refine (isKind_any p.kd _).mono ?_; rintro e wz ⟨rfl, rfl⟩; rw [HKd.out]) | (go_at_call 20; refine (isKeyRight_p p _ Hk9.out).mono ?_; rintro e w1 ⟨rfl, hb⟩; rw [HKy.out]; replace HB : Hid (Below w.heap.size w w1) := HB.out.trans (hb.mono HB.out.size); replace HK : Hid (w1.heap[w.heap.size]? = some (.cells #[.int .i64 p.kd, .int .i64 p.k.1, .int .i64 p.k.2, .int .i64 p.pa.1, .int .i64 p.pa.2, .int .i64 p.af.1, .int .i64 p.af.2, .string p.nm, .string p.vl] 42)) := (hb.block _ (row_lt HK.out)).trans HK.out; clear hb b0 b1 b2 b3 b4 b5 b6 b7 b8; have b0 : w1.cell? ⟨w.heap.size, 0, none⟩ = some (.int .i64 p.kd) := (by rw [cell_of_row w1 w.heap.size 0 _ _ _ HK.out]; rfl); have b1 : w1.cell? ⟨w.heap.size, 1, none⟩ = some (.int .i64 p.k.1) := (by rw [cell_of_row w1 w.heap.size 1 _ _ _ HK.out]; rfl); have b2 : w1.cell? ⟨w.heap.size, 2, none⟩ = some (.int .i64 p.k.2) := (by rw [cell_of_row w1 w.heap.size 2 _ _ _ HK.out]; rfl); have b3 : w1.cell? ⟨w.heap.size, 3, none⟩ = some (.int .i64 p.pa.1) := (by rw [cell_of_row w1 w.heap.size 3 _ _ _ HK.out]; rfl); have b4 : w1.cell? ⟨w.heap.size, 4, none⟩ = some (.int .i64 p.pa.2) := (by rw [cell_of_row w1 w.heap.size 4 _ _ _ HK.out]; rfl); have b5 : w1.cell? ⟨w.heap.size, 5, none⟩ = some (.int .i64 p.af.1) := (by rw [cell_of_row w1 w.heap.size 5 _ _ _ HK.out]; rfl); have b6 : w1.cell? ⟨w.heap.size, 6, none⟩ = some (.int .i64 p.af.2) := (by rw [cell_of_row w1 w.heap.size 6 _ _ _ HK.out]; rfl); have b7 : w1.cell? ⟨w.heap.size, 7, none⟩ = some (.string p.nm) := (by rw [cell_of_row w1 w.heap.size 7 _ _ _ HK.out]; rfl); have b8 : w1.cell? ⟨w.heap.size, 8, none⟩ = some (.string p.vl) := (by rw [cell_of_row w1 w.heap.size 8 _ _ _ HK.out]; rfl)) | (go_at_call 21; refine (isParentRight_p p _).mono ?_; rintro e w2 ⟨rfl, hb⟩; rw [HPr.out]; replace HB : Hid (Below w.heap.size w w2) := HB.out.trans (hb.mono HB.out.size); replace HK : Hid (w2.heap[w.heap.size]? = some (.cells #[.int .i64 p.kd, .int .i64 p.k.1, .int .i64 p.k.2, .int .i64 p.pa.1, .int .i64 p.pa.2, .int .i64 p.af.1, .int .i64 p.af.2, .string p.nm, .string p.vl] 42)) := (hb.block _ (row_lt HK.out)).trans HK.out; clear hb b0 b1 b2 b3 b4 b5 b6 b7 b8; have b0 : w2.cell? ⟨w.heap.size, 0, none⟩ = some (.int .i64 p.kd) := (by rw [cell_of_row w2 w.heap.size 0 _ _ _ HK.out]; rfl); have b1 : w2.cell? ⟨w.heap.size, 1, none⟩ = some (.int .i64 p.k.1) := (by rw [cell_of_row w2 w.heap.size 1 _ _ _ HK.out]; rfl); have b2 : w2.cell? ⟨w.heap.size, 2, none⟩ = some (.int .i64 p.k.2) := (by rw [cell_of_row w2 w.heap.size 2 _ _ _ HK.out]; rfl); have b3 : w2.cell? ⟨w.heap.size, 3, none⟩ = some (.int .i64 p.pa.1) := (by rw [cell_of_row w2 w.heap.size 3 _ _ _ HK.out]; rfl); have b4 : w2.cell? ⟨w.heap.size, 4, none⟩ = some (.int .i64 p.pa.2) := (by rw [cell_of_row w2 w.heap.size 4 _ _ _ HK.out]; rfl); have b5 : w2.cell? ⟨w.heap.size, 5, none⟩ = some (.int .i64 p.af.1) := (by rw [cell_of_row w2 w.heap.size 5 _ _ _ HK.out]; rfl); have b6 : w2.cell? ⟨w.heap.size, 6, none⟩ = some (.int .i64 p.af.2) := (by rw [cell_of_row w2 w.heap.size 6 _ _ _ HK.out]; rfl); have b7 : w2.cell? ⟨w.heap.size, 7, none⟩ = some (.string p.nm) := (by rw [cell_of_row w2 w.heap.size 7 _ _ _ HK.out]; rfl); have b8 : w2.cell? ⟨w.heap.size, 8, none⟩ = some (.string p.vl) := (by rw [cell_of_row w2 w.heap.size 8 _ _ _ HK.out]; rfl)) | (go_at_call 22; refine (isAfterRight_p p _).mono ?_; rintro e w3 ⟨rfl, hb⟩; rw [HAr.out]; replace HB : Hid (Below w.heap.size w w3) := HB.out.trans (hb.mono HB.out.size); replace HK : Hid (w3.heap[w.heap.size]? = some (.cells #[.int .i64 p.kd, .int .i64 p.k.1, .int .i64 p.k.2, .int .i64 p.pa.1, .int .i64 p.pa.2, .int .i64 p.af.1, .int .i64 p.af.2, .string p.nm, .string p.vl] 42)) := (hb.block _ (row_lt HK.out)).trans HK.out; clear hb b0 b1 b2 b3 b4 b5 b6 b7 b8; have b0 : w3.cell? ⟨w.heap.size, 0, none⟩ = some (.int .i64 p.kd) := (by rw [cell_of_row w3 w.heap.size 0 _ _ _ HK.out]; rfl); have b1 : w3.cell? ⟨w.heap.size, 1, none⟩ = some (.int .i64 p.k.1) := (by rw [cell_of_row w3 w.heap.size 1 _ _ _ HK.out]; rfl); have b2 : w3.cell? ⟨w.heap.size, 2, none⟩ = some (.int .i64 p.k.2) := (by rw [cell_of_row w3 w.heap.size 2 _ _ _ HK.out]; rfl); have b3 : w3.cell? ⟨w.heap.size, 3, none⟩ = some (.int .i64 p.pa.1) := (by rw [cell_of_row w3 w.heap.size 3 _ _ _ HK.out]; rfl); have b4 : w3.cell? ⟨w.heap.size, 4, none⟩ = some (.int .i64 p.pa.2) := (by rw [cell_of_row w3 w.heap.size 4 _ _ _ HK.out]; rfl); have b5 : w3.cell? ⟨w.heap.size, 5, none⟩ = some (.int .i64 p.af.1) := (by rw [cell_of_row w3 w.heap.size 5 _ _ _ HK.out]; rfl); have b6 : w3.cell? ⟨w.heap.size, 6, none⟩ = some (.int .i64 p.af.2) := (by rw [cell_of_row w3 w.heap.size 6 _ _ _ HK.out]; rfl); have b7 : w3.cell? ⟨w.heap.size, 7, none⟩ = some (.string p.nm) := (by rw [cell_of_row w3 w.heap.size 7 _ _ _ HK.out]; rfl); have b8 : w3.cell? ⟨w.heap.size, 8, none⟩ = some (.string p.vl) := (by rw [cell_of_row w3 w.heap.size 8 _ _ _ HK.out]; rfl)))
          (try rw [Exit.noGoto_ret])
          go_ret
          exact ⟨rfl, HB.out⟩
        | true =>
          have HAr := hide9 har
          cases hnm : namP p with
          | false =>
            have HNm := hide9 hnm
            have hv : chkP p = 8 := by unfold chkP; rw [if_neg (fun e => e hk), if_neg (by rw [hky, hpr, har]; simp), if_pos hnm]
            rw [hv]
            clear hv
            show Calls Try.prog 12 #[.agg #[.int .i64 p.kd, .int .i64 p.k.1, .int .i64 p.k.2, .int .i64 p.pa.1, .int .i64 p.pa.2, .int .i64 p.af.1, .int .i64 p.af.2, .string p.nm, .string p.vl]] w _
            have b0 : (w.alloc (.cells #[.int .i64 p.kd, .int .i64 p.k.1, .int .i64 p.k.2, .int .i64 p.pa.1, .int .i64 p.pa.2, .int .i64 p.af.1, .int .i64 p.af.2, .string p.nm, .string p.vl] 42)).cell? ⟨w.heap.size, 0, none⟩ = some (.int .i64 p.kd) := (by rw [cell_of_row (w.alloc (.cells #[.int .i64 p.kd, .int .i64 p.k.1, .int .i64 p.k.2, .int .i64 p.pa.1, .int .i64 p.pa.2, .int .i64 p.af.1, .int .i64 p.af.2, .string p.nm, .string p.vl] 42)) w.heap.size 0 _ _ _ HK.out]; rfl)
            have b1 : (w.alloc (.cells #[.int .i64 p.kd, .int .i64 p.k.1, .int .i64 p.k.2, .int .i64 p.pa.1, .int .i64 p.pa.2, .int .i64 p.af.1, .int .i64 p.af.2, .string p.nm, .string p.vl] 42)).cell? ⟨w.heap.size, 1, none⟩ = some (.int .i64 p.k.1) := (by rw [cell_of_row (w.alloc (.cells #[.int .i64 p.kd, .int .i64 p.k.1, .int .i64 p.k.2, .int .i64 p.pa.1, .int .i64 p.pa.2, .int .i64 p.af.1, .int .i64 p.af.2, .string p.nm, .string p.vl] 42)) w.heap.size 1 _ _ _ HK.out]; rfl)
            have b2 : (w.alloc (.cells #[.int .i64 p.kd, .int .i64 p.k.1, .int .i64 p.k.2, .int .i64 p.pa.1, .int .i64 p.pa.2, .int .i64 p.af.1, .int .i64 p.af.2, .string p.nm, .string p.vl] 42)).cell? ⟨w.heap.size, 2, none⟩ = some (.int .i64 p.k.2) := (by rw [cell_of_row (w.alloc (.cells #[.int .i64 p.kd, .int .i64 p.k.1, .int .i64 p.k.2, .int .i64 p.pa.1, .int .i64 p.pa.2, .int .i64 p.af.1, .int .i64 p.af.2, .string p.nm, .string p.vl] 42)) w.heap.size 2 _ _ _ HK.out]; rfl)
            have b3 : (w.alloc (.cells #[.int .i64 p.kd, .int .i64 p.k.1, .int .i64 p.k.2, .int .i64 p.pa.1, .int .i64 p.pa.2, .int .i64 p.af.1, .int .i64 p.af.2, .string p.nm, .string p.vl] 42)).cell? ⟨w.heap.size, 3, none⟩ = some (.int .i64 p.pa.1) := (by rw [cell_of_row (w.alloc (.cells #[.int .i64 p.kd, .int .i64 p.k.1, .int .i64 p.k.2, .int .i64 p.pa.1, .int .i64 p.pa.2, .int .i64 p.af.1, .int .i64 p.af.2, .string p.nm, .string p.vl] 42)) w.heap.size 3 _ _ _ HK.out]; rfl)
            have b4 : (w.alloc (.cells #[.int .i64 p.kd, .int .i64 p.k.1, .int .i64 p.k.2, .int .i64 p.pa.1, .int .i64 p.pa.2, .int .i64 p.af.1, .int .i64 p.af.2, .string p.nm, .string p.vl] 42)).cell? ⟨w.heap.size, 4, none⟩ = some (.int .i64 p.pa.2) := (by rw [cell_of_row (w.alloc (.cells #[.int .i64 p.kd, .int .i64 p.k.1, .int .i64 p.k.2, .int .i64 p.pa.1, .int .i64 p.pa.2, .int .i64 p.af.1, .int .i64 p.af.2, .string p.nm, .string p.vl] 42)) w.heap.size 4 _ _ _ HK.out]; rfl)
            have b5 : (w.alloc (.cells #[.int .i64 p.kd, .int .i64 p.k.1, .int .i64 p.k.2, .int .i64 p.pa.1, .int .i64 p.pa.2, .int .i64 p.af.1, .int .i64 p.af.2, .string p.nm, .string p.vl] 42)).cell? ⟨w.heap.size, 5, none⟩ = some (.int .i64 p.af.1) := (by rw [cell_of_row (w.alloc (.cells #[.int .i64 p.kd, .int .i64 p.k.1, .int .i64 p.k.2, .int .i64 p.pa.1, .int .i64 p.pa.2, .int .i64 p.af.1, .int .i64 p.af.2, .string p.nm, .string p.vl] 42)) w.heap.size 5 _ _ _ HK.out]; rfl)
            have b6 : (w.alloc (.cells #[.int .i64 p.kd, .int .i64 p.k.1, .int .i64 p.k.2, .int .i64 p.pa.1, .int .i64 p.pa.2, .int .i64 p.af.1, .int .i64 p.af.2, .string p.nm, .string p.vl] 42)).cell? ⟨w.heap.size, 6, none⟩ = some (.int .i64 p.af.2) := (by rw [cell_of_row (w.alloc (.cells #[.int .i64 p.kd, .int .i64 p.k.1, .int .i64 p.k.2, .int .i64 p.pa.1, .int .i64 p.pa.2, .int .i64 p.af.1, .int .i64 p.af.2, .string p.nm, .string p.vl] 42)) w.heap.size 6 _ _ _ HK.out]; rfl)
            have b7 : (w.alloc (.cells #[.int .i64 p.kd, .int .i64 p.k.1, .int .i64 p.k.2, .int .i64 p.pa.1, .int .i64 p.pa.2, .int .i64 p.af.1, .int .i64 p.af.2, .string p.nm, .string p.vl] 42)).cell? ⟨w.heap.size, 7, none⟩ = some (.string p.nm) := (by rw [cell_of_row (w.alloc (.cells #[.int .i64 p.kd, .int .i64 p.k.1, .int .i64 p.k.2, .int .i64 p.pa.1, .int .i64 p.pa.2, .int .i64 p.af.1, .int .i64 p.af.2, .string p.nm, .string p.vl] 42)) w.heap.size 7 _ _ _ HK.out]; rfl)
            have b8 : (w.alloc (.cells #[.int .i64 p.kd, .int .i64 p.k.1, .int .i64 p.k.2, .int .i64 p.pa.1, .int .i64 p.pa.2, .int .i64 p.af.1, .int .i64 p.af.2, .string p.nm, .string p.vl] 42)).cell? ⟨w.heap.size, 8, none⟩ = some (.string p.vl) := (by rw [cell_of_row (w.alloc (.cells #[.int .i64 p.kd, .int .i64 p.k.1, .int .i64 p.k.2, .int .i64 p.pa.1, .int .i64 p.pa.2, .int .i64 p.af.1, .int .i64 p.af.2, .string p.nm, .string p.vl] 42)) w.heap.size 8 _ _ _ HK.out]; rfl)
            go_enter Try.func12, Try.ntmps12
            go_wp2_with (first | (go_at_call 19; refine (isKind_any p.kd _).mono ?_; rintro e wz ⟨rfl, rfl⟩; rw [HKd.out]) | (go_at_call 20; refine (isKeyRight_p p _ Hk9.out).mono ?_; rintro e w1 ⟨rfl, hb⟩; rw [HKy.out]; replace HB : Hid (Below w.heap.size w w1) := HB.out.trans (hb.mono HB.out.size); replace HK : Hid (w1.heap[w.heap.size]? = some (.cells #[.int .i64 p.kd, .int .i64 p.k.1, .int .i64 p.k.2, .int .i64 p.pa.1, .int .i64 p.pa.2, .int .i64 p.af.1, .int .i64 p.af.2, .string p.nm, .string p.vl] 42)) := (hb.block _ (row_lt HK.out)).trans HK.out; clear hb b0 b1 b2 b3 b4 b5 b6 b7 b8; have b0 : w1.cell? ⟨w.heap.size, 0, none⟩ = some (.int .i64 p.kd) := (by rw [cell_of_row w1 w.heap.size 0 _ _ _ HK.out]; rfl); have b1 : w1.cell? ⟨w.heap.size, 1, none⟩ = some (.int .i64 p.k.1) := (by rw [cell_of_row w1 w.heap.size 1 _ _ _ HK.out]; rfl); have b2 : w1.cell? ⟨w.heap.size, 2, none⟩ = some (.int .i64 p.k.2) := (by rw [cell_of_row w1 w.heap.size 2 _ _ _ HK.out]; rfl); have b3 : w1.cell? ⟨w.heap.size, 3, none⟩ = some (.int .i64 p.pa.1) := (by rw [cell_of_row w1 w.heap.size 3 _ _ _ HK.out]; rfl); have b4 : w1.cell? ⟨w.heap.size, 4, none⟩ = some (.int .i64 p.pa.2) := (by rw [cell_of_row w1 w.heap.size 4 _ _ _ HK.out]; rfl); have b5 : w1.cell? ⟨w.heap.size, 5, none⟩ = some (.int .i64 p.af.1) := (by rw [cell_of_row w1 w.heap.size 5 _ _ _ HK.out]; rfl); have b6 : w1.cell? ⟨w.heap.size, 6, none⟩ = some (.int .i64 p.af.2) := (by rw [cell_of_row w1 w.heap.size 6 _ _ _ HK.out]; rfl); have b7 : w1.cell? ⟨w.heap.size, 7, none⟩ = some (.string p.nm) := (by rw [cell_of_row w1 w.heap.size 7 _ _ _ HK.out]; rfl); have b8 : w1.cell? ⟨w.heap.size, 8, none⟩ = some (.string p.vl) := (by rw [cell_of_row w1 w.heap.size 8 _ _ _ HK.out]; rfl)) | (go_at_call 21; refine (isParentRight_p p _).mono ?_; rintro e w2 ⟨rfl, hb⟩; rw [HPr.out]; replace HB : Hid (Below w.heap.size w w2) := HB.out.trans (hb.mono HB.out.size); replace HK : Hid (w2.heap[w.heap.size]? = some (.cells #[.int .i64 p.kd, .int .i64 p.k.1, .int .i64 p.k.2, .int .i64 p.pa.1, .int .i64 p.pa.2, .int .i64 p.af.1, .int .i64 p.af.2, .string p.nm, .string p.vl] 42)) := (hb.block _ (row_lt HK.out)).trans HK.out; clear hb b0 b1 b2 b3 b4 b5 b6 b7 b8; have b0 : w2.cell? ⟨w.heap.size, 0, none⟩ = some (.int .i64 p.kd) := (by rw [cell_of_row w2 w.heap.size 0 _ _ _ HK.out]; rfl); have b1 : w2.cell? ⟨w.heap.size, 1, none⟩ = some (.int .i64 p.k.1) := (by rw [cell_of_row w2 w.heap.size 1 _ _ _ HK.out]; rfl); have b2 : w2.cell? ⟨w.heap.size, 2, none⟩ = some (.int .i64 p.k.2) := (by rw [cell_of_row w2 w.heap.size 2 _ _ _ HK.out]; rfl); have b3 : w2.cell? ⟨w.heap.size, 3, none⟩ = some (.int .i64 p.pa.1) := (by rw [cell_of_row w2 w.heap.size 3 _ _ _ HK.out]; rfl); have b4 : w2.cell? ⟨w.heap.size, 4, none⟩ = some (.int .i64 p.pa.2) := (by rw [cell_of_row w2 w.heap.size 4 _ _ _ HK.out]; rfl); have b5 : w2.cell? ⟨w.heap.size, 5, none⟩ = some (.int .i64 p.af.1) := (by rw [cell_of_row w2 w.heap.size 5 _ _ _ HK.out]; rfl); have b6 : w2.cell? ⟨w.heap.size, 6, none⟩ = some (.int .i64 p.af.2) := (by rw [cell_of_row w2 w.heap.size 6 _ _ _ HK.out]; rfl); have b7 : w2.cell? ⟨w.heap.size, 7, none⟩ = some (.string p.nm) := (by rw [cell_of_row w2 w.heap.size 7 _ _ _ HK.out]; rfl); have b8 : w2.cell? ⟨w.heap.size, 8, none⟩ = some (.string p.vl) := (by rw [cell_of_row w2 w.heap.size 8 _ _ _ HK.out]; rfl)) | (go_at_call 22; refine (isAfterRight_p p _).mono ?_; rintro e w3 ⟨rfl, hb⟩; rw [HAr.out]; replace HB : Hid (Below w.heap.size w w3) := HB.out.trans (hb.mono HB.out.size); replace HK : Hid (w3.heap[w.heap.size]? = some (.cells #[.int .i64 p.kd, .int .i64 p.k.1, .int .i64 p.k.2, .int .i64 p.pa.1, .int .i64 p.pa.2, .int .i64 p.af.1, .int .i64 p.af.2, .string p.nm, .string p.vl] 42)) := (hb.block _ (row_lt HK.out)).trans HK.out; clear hb b0 b1 b2 b3 b4 b5 b6 b7 b8; have b0 : w3.cell? ⟨w.heap.size, 0, none⟩ = some (.int .i64 p.kd) := (by rw [cell_of_row w3 w.heap.size 0 _ _ _ HK.out]; rfl); have b1 : w3.cell? ⟨w.heap.size, 1, none⟩ = some (.int .i64 p.k.1) := (by rw [cell_of_row w3 w.heap.size 1 _ _ _ HK.out]; rfl); have b2 : w3.cell? ⟨w.heap.size, 2, none⟩ = some (.int .i64 p.k.2) := (by rw [cell_of_row w3 w.heap.size 2 _ _ _ HK.out]; rfl); have b3 : w3.cell? ⟨w.heap.size, 3, none⟩ = some (.int .i64 p.pa.1) := (by rw [cell_of_row w3 w.heap.size 3 _ _ _ HK.out]; rfl); have b4 : w3.cell? ⟨w.heap.size, 4, none⟩ = some (.int .i64 p.pa.2) := (by rw [cell_of_row w3 w.heap.size 4 _ _ _ HK.out]; rfl); have b5 : w3.cell? ⟨w.heap.size, 5, none⟩ = some (.int .i64 p.af.1) := (by rw [cell_of_row w3 w.heap.size 5 _ _ _ HK.out]; rfl); have b6 : w3.cell? ⟨w.heap.size, 6, none⟩ = some (.int .i64 p.af.2) := (by rw [cell_of_row w3 w.heap.size 6 _ _ _ HK.out]; rfl); have b7 : w3.cell? ⟨w.heap.size, 7, none⟩ = some (.string p.nm) := (by rw [cell_of_row w3 w.heap.size 7 _ _ _ HK.out]; rfl); have b8 : w3.cell? ⟨w.heap.size, 8, none⟩ = some (.string p.vl) := (by rw [cell_of_row w3 w.heap.size 8 _ _ _ HK.out]; rfl)) | (go_at_call 23; refine (isNameRight_p p _ Hs.out).mono ?_; rintro e w4 ⟨rfl, hb⟩; rw [HNm.out]; replace HB : Hid (Below w.heap.size w w4) := HB.out.trans (hb.mono HB.out.size); replace HK : Hid (w4.heap[w.heap.size]? = some (.cells #[.int .i64 p.kd, .int .i64 p.k.1, .int .i64 p.k.2, .int .i64 p.pa.1, .int .i64 p.pa.2, .int .i64 p.af.1, .int .i64 p.af.2, .string p.nm, .string p.vl] 42)) := (hb.block _ (row_lt HK.out)).trans HK.out; clear hb b0 b1 b2 b3 b4 b5 b6 b7 b8; have b0 : w4.cell? ⟨w.heap.size, 0, none⟩ = some (.int .i64 p.kd) := (by rw [cell_of_row w4 w.heap.size 0 _ _ _ HK.out]; rfl); have b1 : w4.cell? ⟨w.heap.size, 1, none⟩ = some (.int .i64 p.k.1) := (by rw [cell_of_row w4 w.heap.size 1 _ _ _ HK.out]; rfl); have b2 : w4.cell? ⟨w.heap.size, 2, none⟩ = some (.int .i64 p.k.2) := (by rw [cell_of_row w4 w.heap.size 2 _ _ _ HK.out]; rfl); have b3 : w4.cell? ⟨w.heap.size, 3, none⟩ = some (.int .i64 p.pa.1) := (by rw [cell_of_row w4 w.heap.size 3 _ _ _ HK.out]; rfl); have b4 : w4.cell? ⟨w.heap.size, 4, none⟩ = some (.int .i64 p.pa.2) := (by rw [cell_of_row w4 w.heap.size 4 _ _ _ HK.out]; rfl); have b5 : w4.cell? ⟨w.heap.size, 5, none⟩ = some (.int .i64 p.af.1) := (by rw [cell_of_row w4 w.heap.size 5 _ _ _ HK.out]; rfl); have b6 : w4.cell? ⟨w.heap.size, 6, none⟩ = some (.int .i64 p.af.2) := (by rw [cell_of_row w4 w.heap.size 6 _ _ _ HK.out]; rfl); have b7 : w4.cell? ⟨w.heap.size, 7, none⟩ = some (.string p.nm) := (by rw [cell_of_row w4 w.heap.size 7 _ _ _ HK.out]; rfl); have b8 : w4.cell? ⟨w.heap.size, 8, none⟩ = some (.string p.vl) := (by rw [cell_of_row w4 w.heap.size 8 _ _ _ HK.out]; rfl)))
            (try rw [Exit.noGoto_ret])
            go_ret
            exact ⟨rfl, HB.out⟩
          | true =>
            have HNm := hide9 hnm
            have hv : chkP p = valP p := by unfold chkP; rw [if_neg (fun e => e hk), if_neg (by rw [hky, hpr, har]; simp), if_neg (by rw [hnm]; simp)]
            rw [hv]
            clear hv
            show Calls Try.prog 12 #[.agg #[.int .i64 p.kd, .int .i64 p.k.1, .int .i64 p.k.2, .int .i64 p.pa.1, .int .i64 p.pa.2, .int .i64 p.af.1, .int .i64 p.af.2, .string p.nm, .string p.vl]] w _
            have b0 : (w.alloc (.cells #[.int .i64 p.kd, .int .i64 p.k.1, .int .i64 p.k.2, .int .i64 p.pa.1, .int .i64 p.pa.2, .int .i64 p.af.1, .int .i64 p.af.2, .string p.nm, .string p.vl] 42)).cell? ⟨w.heap.size, 0, none⟩ = some (.int .i64 p.kd) := (by rw [cell_of_row (w.alloc (.cells #[.int .i64 p.kd, .int .i64 p.k.1, .int .i64 p.k.2, .int .i64 p.pa.1, .int .i64 p.pa.2, .int .i64 p.af.1, .int .i64 p.af.2, .string p.nm, .string p.vl] 42)) w.heap.size 0 _ _ _ HK.out]; rfl)
            have b1 : (w.alloc (.cells #[.int .i64 p.kd, .int .i64 p.k.1, .int .i64 p.k.2, .int .i64 p.pa.1, .int .i64 p.pa.2, .int .i64 p.af.1, .int .i64 p.af.2, .string p.nm, .string p.vl] 42)).cell? ⟨w.heap.size, 1, none⟩ = some (.int .i64 p.k.1) := (by rw [cell_of_row (w.alloc (.cells #[.int .i64 p.kd, .int .i64 p.k.1, .int .i64 p.k.2, .int .i64 p.pa.1, .int .i64 p.pa.2, .int .i64 p.af.1, .int .i64 p.af.2, .string p.nm, .string p.vl] 42)) w.heap.size 1 _ _ _ HK.out]; rfl)
            have b2 : (w.alloc (.cells #[.int .i64 p.kd, .int .i64 p.k.1, .int .i64 p.k.2, .int .i64 p.pa.1, .int .i64 p.pa.2, .int .i64 p.af.1, .int .i64 p.af.2, .string p.nm, .string p.vl] 42)).cell? ⟨w.heap.size, 2, none⟩ = some (.int .i64 p.k.2) := (by rw [cell_of_row (w.alloc (.cells #[.int .i64 p.kd, .int .i64 p.k.1, .int .i64 p.k.2, .int .i64 p.pa.1, .int .i64 p.pa.2, .int .i64 p.af.1, .int .i64 p.af.2, .string p.nm, .string p.vl] 42)) w.heap.size 2 _ _ _ HK.out]; rfl)
            have b3 : (w.alloc (.cells #[.int .i64 p.kd, .int .i64 p.k.1, .int .i64 p.k.2, .int .i64 p.pa.1, .int .i64 p.pa.2, .int .i64 p.af.1, .int .i64 p.af.2, .string p.nm, .string p.vl] 42)).cell? ⟨w.heap.size, 3, none⟩ = some (.int .i64 p.pa.1) := (by rw [cell_of_row (w.alloc (.cells #[.int .i64 p.kd, .int .i64 p.k.1, .int .i64 p.k.2, .int .i64 p.pa.1, .int .i64 p.pa.2, .int .i64 p.af.1, .int .i64 p.af.2, .string p.nm, .string p.vl] 42)) w.heap.size 3 _ _ _ HK.out]; rfl)
            have b4 : (w.alloc (.cells #[.int .i64 p.kd, .int .i64 p.k.1, .int .i64 p.k.2, .int .i64 p.pa.1, .int .i64 p.pa.2, .int .i64 p.af.1, .int .i64 p.af.2, .string p.nm, .string p.vl] 42)).cell? ⟨w.heap.size, 4, none⟩ = some (.int .i64 p.pa.2) := (by rw [cell_of_row (w.alloc (.cells #[.int .i64 p.kd, .int .i64 p.k.1, .int .i64 p.k.2, .int .i64 p.pa.1, .int .i64 p.pa.2, .int .i64 p.af.1, .int .i64 p.af.2, .string p.nm, .string p.vl] 42)) w.heap.size 4 _ _ _ HK.out]; rfl)
            have b5 : (w.alloc (.cells #[.int .i64 p.kd, .int .i64 p.k.1, .int .i64 p.k.2, .int .i64 p.pa.1, .int .i64 p.pa.2, .int .i64 p.af.1, .int .i64 p.af.2, .string p.nm, .string p.vl] 42)).cell? ⟨w.heap.size, 5, none⟩ = some (.int .i64 p.af.1) := (by rw [cell_of_row (w.alloc (.cells #[.int .i64 p.kd, .int .i64 p.k.1, .int .i64 p.k.2, .int .i64 p.pa.1, .int .i64 p.pa.2, .int .i64 p.af.1, .int .i64 p.af.2, .string p.nm, .string p.vl] 42)) w.heap.size 5 _ _ _ HK.out]; rfl)
            have b6 : (w.alloc (.cells #[.int .i64 p.kd, .int .i64 p.k.1, .int .i64 p.k.2, .int .i64 p.pa.1, .int .i64 p.pa.2, .int .i64 p.af.1, .int .i64 p.af.2, .string p.nm, .string p.vl] 42)).cell? ⟨w.heap.size, 6, none⟩ = some (.int .i64 p.af.2) := (by rw [cell_of_row (w.alloc (.cells #[.int .i64 p.kd, .int .i64 p.k.1, .int .i64 p.k.2, .int .i64 p.pa.1, .int .i64 p.pa.2, .int .i64 p.af.1, .int .i64 p.af.2, .string p.nm, .string p.vl] 42)) w.heap.size 6 _ _ _ HK.out]; rfl)
            have b7 : (w.alloc (.cells #[.int .i64 p.kd, .int .i64 p.k.1, .int .i64 p.k.2, .int .i64 p.pa.1, .int .i64 p.pa.2, .int .i64 p.af.1, .int .i64 p.af.2, .string p.nm, .string p.vl] 42)).cell? ⟨w.heap.size, 7, none⟩ = some (.string p.nm) := (by rw [cell_of_row (w.alloc (.cells #[.int .i64 p.kd, .int .i64 p.k.1, .int .i64 p.k.2, .int .i64 p.pa.1, .int .i64 p.pa.2, .int .i64 p.af.1, .int .i64 p.af.2, .string p.nm, .string p.vl] 42)) w.heap.size 7 _ _ _ HK.out]; rfl)
            have b8 : (w.alloc (.cells #[.int .i64 p.kd, .int .i64 p.k.1, .int .i64 p.k.2, .int .i64 p.pa.1, .int .i64 p.pa.2, .int .i64 p.af.1, .int .i64 p.af.2, .string p.nm, .string p.vl] 42)).cell? ⟨w.heap.size, 8, none⟩ = some (.string p.vl) := (by rw [cell_of_row (w.alloc (.cells #[.int .i64 p.kd, .int .i64 p.k.1, .int .i64 p.k.2, .int .i64 p.pa.1, .int .i64 p.pa.2, .int .i64 p.af.1, .int .i64 p.af.2, .string p.nm, .string p.vl] 42)) w.heap.size 8 _ _ _ HK.out]; rfl)
            go_enter Try.func12, Try.ntmps12
            go_wp2_with (first | (go_at_call 19; refine (isKind_any p.kd _).mono ?_; rintro e wz ⟨rfl, rfl⟩; rw [HKd.out]) | (go_at_call 20; refine (isKeyRight_p p _ Hk9.out).mono ?_; rintro e w1 ⟨rfl, hb⟩; rw [HKy.out]; replace HB : Hid (Below w.heap.size w w1) := HB.out.trans (hb.mono HB.out.size); replace HK : Hid (w1.heap[w.heap.size]? = some (.cells #[.int .i64 p.kd, .int .i64 p.k.1, .int .i64 p.k.2, .int .i64 p.pa.1, .int .i64 p.pa.2, .int .i64 p.af.1, .int .i64 p.af.2, .string p.nm, .string p.vl] 42)) := (hb.block _ (row_lt HK.out)).trans HK.out; clear hb b0 b1 b2 b3 b4 b5 b6 b7 b8; have b0 : w1.cell? ⟨w.heap.size, 0, none⟩ = some (.int .i64 p.kd) := (by rw [cell_of_row w1 w.heap.size 0 _ _ _ HK.out]; rfl); have b1 : w1.cell? ⟨w.heap.size, 1, none⟩ = some (.int .i64 p.k.1) := (by rw [cell_of_row w1 w.heap.size 1 _ _ _ HK.out]; rfl); have b2 : w1.cell? ⟨w.heap.size, 2, none⟩ = some (.int .i64 p.k.2) := (by rw [cell_of_row w1 w.heap.size 2 _ _ _ HK.out]; rfl); have b3 : w1.cell? ⟨w.heap.size, 3, none⟩ = some (.int .i64 p.pa.1) := (by rw [cell_of_row w1 w.heap.size 3 _ _ _ HK.out]; rfl); have b4 : w1.cell? ⟨w.heap.size, 4, none⟩ = some (.int .i64 p.pa.2) := (by rw [cell_of_row w1 w.heap.size 4 _ _ _ HK.out]; rfl); have b5 : w1.cell? ⟨w.heap.size, 5, none⟩ = some (.int .i64 p.af.1) := (by rw [cell_of_row w1 w.heap.size 5 _ _ _ HK.out]; rfl); have b6 : w1.cell? ⟨w.heap.size, 6, none⟩ = some (.int .i64 p.af.2) := (by rw [cell_of_row w1 w.heap.size 6 _ _ _ HK.out]; rfl); have b7 : w1.cell? ⟨w.heap.size, 7, none⟩ = some (.string p.nm) := (by rw [cell_of_row w1 w.heap.size 7 _ _ _ HK.out]; rfl); have b8 : w1.cell? ⟨w.heap.size, 8, none⟩ = some (.string p.vl) := (by rw [cell_of_row w1 w.heap.size 8 _ _ _ HK.out]; rfl)) | (go_at_call 21; refine (isParentRight_p p _).mono ?_; rintro e w2 ⟨rfl, hb⟩; rw [HPr.out]; replace HB : Hid (Below w.heap.size w w2) := HB.out.trans (hb.mono HB.out.size); replace HK : Hid (w2.heap[w.heap.size]? = some (.cells #[.int .i64 p.kd, .int .i64 p.k.1, .int .i64 p.k.2, .int .i64 p.pa.1, .int .i64 p.pa.2, .int .i64 p.af.1, .int .i64 p.af.2, .string p.nm, .string p.vl] 42)) := (hb.block _ (row_lt HK.out)).trans HK.out; clear hb b0 b1 b2 b3 b4 b5 b6 b7 b8; have b0 : w2.cell? ⟨w.heap.size, 0, none⟩ = some (.int .i64 p.kd) := (by rw [cell_of_row w2 w.heap.size 0 _ _ _ HK.out]; rfl); have b1 : w2.cell? ⟨w.heap.size, 1, none⟩ = some (.int .i64 p.k.1) := (by rw [cell_of_row w2 w.heap.size 1 _ _ _ HK.out]; rfl); have b2 : w2.cell? ⟨w.heap.size, 2, none⟩ = some (.int .i64 p.k.2) := (by rw [cell_of_row w2 w.heap.size 2 _ _ _ HK.out]; rfl); have b3 : w2.cell? ⟨w.heap.size, 3, none⟩ = some (.int .i64 p.pa.1) := (by rw [cell_of_row w2 w.heap.size 3 _ _ _ HK.out]; rfl); have b4 : w2.cell? ⟨w.heap.size, 4, none⟩ = some (.int .i64 p.pa.2) := (by rw [cell_of_row w2 w.heap.size 4 _ _ _ HK.out]; rfl); have b5 : w2.cell? ⟨w.heap.size, 5, none⟩ = some (.int .i64 p.af.1) := (by rw [cell_of_row w2 w.heap.size 5 _ _ _ HK.out]; rfl); have b6 : w2.cell? ⟨w.heap.size, 6, none⟩ = some (.int .i64 p.af.2) := (by rw [cell_of_row w2 w.heap.size 6 _ _ _ HK.out]; rfl); have b7 : w2.cell? ⟨w.heap.size, 7, none⟩ = some (.string p.nm) := (by rw [cell_of_row w2 w.heap.size 7 _ _ _ HK.out]; rfl); have b8 : w2.cell? ⟨w.heap.size, 8, none⟩ = some (.string p.vl) := (by rw [cell_of_row w2 w.heap.size 8 _ _ _ HK.out]; rfl)) | (go_at_call 22; refine (isAfterRight_p p _).mono ?_; rintro e w3 ⟨rfl, hb⟩; rw [HAr.out]; replace HB : Hid (Below w.heap.size w w3) := HB.out.trans (hb.mono HB.out.size); replace HK : Hid (w3.heap[w.heap.size]? = some (.cells #[.int .i64 p.kd, .int .i64 p.k.1, .int .i64 p.k.2, .int .i64 p.pa.1, .int .i64 p.pa.2, .int .i64 p.af.1, .int .i64 p.af.2, .string p.nm, .string p.vl] 42)) := (hb.block _ (row_lt HK.out)).trans HK.out; clear hb b0 b1 b2 b3 b4 b5 b6 b7 b8; have b0 : w3.cell? ⟨w.heap.size, 0, none⟩ = some (.int .i64 p.kd) := (by rw [cell_of_row w3 w.heap.size 0 _ _ _ HK.out]; rfl); have b1 : w3.cell? ⟨w.heap.size, 1, none⟩ = some (.int .i64 p.k.1) := (by rw [cell_of_row w3 w.heap.size 1 _ _ _ HK.out]; rfl); have b2 : w3.cell? ⟨w.heap.size, 2, none⟩ = some (.int .i64 p.k.2) := (by rw [cell_of_row w3 w.heap.size 2 _ _ _ HK.out]; rfl); have b3 : w3.cell? ⟨w.heap.size, 3, none⟩ = some (.int .i64 p.pa.1) := (by rw [cell_of_row w3 w.heap.size 3 _ _ _ HK.out]; rfl); have b4 : w3.cell? ⟨w.heap.size, 4, none⟩ = some (.int .i64 p.pa.2) := (by rw [cell_of_row w3 w.heap.size 4 _ _ _ HK.out]; rfl); have b5 : w3.cell? ⟨w.heap.size, 5, none⟩ = some (.int .i64 p.af.1) := (by rw [cell_of_row w3 w.heap.size 5 _ _ _ HK.out]; rfl); have b6 : w3.cell? ⟨w.heap.size, 6, none⟩ = some (.int .i64 p.af.2) := (by rw [cell_of_row w3 w.heap.size 6 _ _ _ HK.out]; rfl); have b7 : w3.cell? ⟨w.heap.size, 7, none⟩ = some (.string p.nm) := (by rw [cell_of_row w3 w.heap.size 7 _ _ _ HK.out]; rfl); have b8 : w3.cell? ⟨w.heap.size, 8, none⟩ = some (.string p.vl) := (by rw [cell_of_row w3 w.heap.size 8 _ _ _ HK.out]; rfl)) | (go_at_call 23; refine (isNameRight_p p _ Hs.out).mono ?_; rintro e w4 ⟨rfl, hb⟩; rw [HNm.out]; replace HB : Hid (Below w.heap.size w w4) := HB.out.trans (hb.mono HB.out.size); replace HK : Hid (w4.heap[w.heap.size]? = some (.cells #[.int .i64 p.kd, .int .i64 p.k.1, .int .i64 p.k.2, .int .i64 p.pa.1, .int .i64 p.pa.2, .int .i64 p.af.1, .int .i64 p.af.2, .string p.nm, .string p.vl] 42)) := (hb.block _ (row_lt HK.out)).trans HK.out; clear hb b0 b1 b2 b3 b4 b5 b6 b7 b8; have b0 : w4.cell? ⟨w.heap.size, 0, none⟩ = some (.int .i64 p.kd) := (by rw [cell_of_row w4 w.heap.size 0 _ _ _ HK.out]; rfl); have b1 : w4.cell? ⟨w.heap.size, 1, none⟩ = some (.int .i64 p.k.1) := (by rw [cell_of_row w4 w.heap.size 1 _ _ _ HK.out]; rfl); have b2 : w4.cell? ⟨w.heap.size, 2, none⟩ = some (.int .i64 p.k.2) := (by rw [cell_of_row w4 w.heap.size 2 _ _ _ HK.out]; rfl); have b3 : w4.cell? ⟨w.heap.size, 3, none⟩ = some (.int .i64 p.pa.1) := (by rw [cell_of_row w4 w.heap.size 3 _ _ _ HK.out]; rfl); have b4 : w4.cell? ⟨w.heap.size, 4, none⟩ = some (.int .i64 p.pa.2) := (by rw [cell_of_row w4 w.heap.size 4 _ _ _ HK.out]; rfl); have b5 : w4.cell? ⟨w.heap.size, 5, none⟩ = some (.int .i64 p.af.1) := (by rw [cell_of_row w4 w.heap.size 5 _ _ _ HK.out]; rfl); have b6 : w4.cell? ⟨w.heap.size, 6, none⟩ = some (.int .i64 p.af.2) := (by rw [cell_of_row w4 w.heap.size 6 _ _ _ HK.out]; rfl); have b7 : w4.cell? ⟨w.heap.size, 7, none⟩ = some (.string p.nm) := (by rw [cell_of_row w4 w.heap.size 7 _ _ _ HK.out]; rfl); have b8 : w4.cell? ⟨w.heap.size, 8, none⟩ = some (.string p.vl) := (by rw [cell_of_row w4 w.heap.size 8 _ _ _ HK.out]; rfl)) | (go_at_call 24; refine (checkValue_p p _).mono ?_; rintro e w5 ⟨rfl, hb⟩; replace HB : Hid (Below w.heap.size w w5) := HB.out.trans (hb.mono HB.out.size); replace HK : Hid (w5.heap[w.heap.size]? = some (.cells #[.int .i64 p.kd, .int .i64 p.k.1, .int .i64 p.k.2, .int .i64 p.pa.1, .int .i64 p.pa.2, .int .i64 p.af.1, .int .i64 p.af.2, .string p.nm, .string p.vl] 42)) := (hb.block _ (row_lt HK.out)).trans HK.out; clear hb b0 b1 b2 b3 b4 b5 b6 b7 b8))
            (try rw [Exit.noGoto_ret])
            go_ret
            exact ⟨rfl, HB.out⟩
  · have HKd : Hid (decide (1 ≤ p.kd ∧ p.kd ≤ 9) = false) := decide_eq_false hk
    have hv : chkP p = 1 := by unfold chkP; rw [if_pos hk]
    rw [hv]
    clear hv
    show Calls Try.prog 12 #[.agg #[.int .i64 p.kd, .int .i64 p.k.1, .int .i64 p.k.2, .int .i64 p.pa.1, .int .i64 p.pa.2, .int .i64 p.af.1, .int .i64 p.af.2, .string p.nm, .string p.vl]] w _
    have b0 : (w.alloc (.cells #[.int .i64 p.kd, .int .i64 p.k.1, .int .i64 p.k.2, .int .i64 p.pa.1, .int .i64 p.pa.2, .int .i64 p.af.1, .int .i64 p.af.2, .string p.nm, .string p.vl] 42)).cell? ⟨w.heap.size, 0, none⟩ = some (.int .i64 p.kd) := (by rw [cell_of_row (w.alloc (.cells #[.int .i64 p.kd, .int .i64 p.k.1, .int .i64 p.k.2, .int .i64 p.pa.1, .int .i64 p.pa.2, .int .i64 p.af.1, .int .i64 p.af.2, .string p.nm, .string p.vl] 42)) w.heap.size 0 _ _ _ HK.out]; rfl)
    have b1 : (w.alloc (.cells #[.int .i64 p.kd, .int .i64 p.k.1, .int .i64 p.k.2, .int .i64 p.pa.1, .int .i64 p.pa.2, .int .i64 p.af.1, .int .i64 p.af.2, .string p.nm, .string p.vl] 42)).cell? ⟨w.heap.size, 1, none⟩ = some (.int .i64 p.k.1) := (by rw [cell_of_row (w.alloc (.cells #[.int .i64 p.kd, .int .i64 p.k.1, .int .i64 p.k.2, .int .i64 p.pa.1, .int .i64 p.pa.2, .int .i64 p.af.1, .int .i64 p.af.2, .string p.nm, .string p.vl] 42)) w.heap.size 1 _ _ _ HK.out]; rfl)
    have b2 : (w.alloc (.cells #[.int .i64 p.kd, .int .i64 p.k.1, .int .i64 p.k.2, .int .i64 p.pa.1, .int .i64 p.pa.2, .int .i64 p.af.1, .int .i64 p.af.2, .string p.nm, .string p.vl] 42)).cell? ⟨w.heap.size, 2, none⟩ = some (.int .i64 p.k.2) := (by rw [cell_of_row (w.alloc (.cells #[.int .i64 p.kd, .int .i64 p.k.1, .int .i64 p.k.2, .int .i64 p.pa.1, .int .i64 p.pa.2, .int .i64 p.af.1, .int .i64 p.af.2, .string p.nm, .string p.vl] 42)) w.heap.size 2 _ _ _ HK.out]; rfl)
    have b3 : (w.alloc (.cells #[.int .i64 p.kd, .int .i64 p.k.1, .int .i64 p.k.2, .int .i64 p.pa.1, .int .i64 p.pa.2, .int .i64 p.af.1, .int .i64 p.af.2, .string p.nm, .string p.vl] 42)).cell? ⟨w.heap.size, 3, none⟩ = some (.int .i64 p.pa.1) := (by rw [cell_of_row (w.alloc (.cells #[.int .i64 p.kd, .int .i64 p.k.1, .int .i64 p.k.2, .int .i64 p.pa.1, .int .i64 p.pa.2, .int .i64 p.af.1, .int .i64 p.af.2, .string p.nm, .string p.vl] 42)) w.heap.size 3 _ _ _ HK.out]; rfl)
    have b4 : (w.alloc (.cells #[.int .i64 p.kd, .int .i64 p.k.1, .int .i64 p.k.2, .int .i64 p.pa.1, .int .i64 p.pa.2, .int .i64 p.af.1, .int .i64 p.af.2, .string p.nm, .string p.vl] 42)).cell? ⟨w.heap.size, 4, none⟩ = some (.int .i64 p.pa.2) := (by rw [cell_of_row (w.alloc (.cells #[.int .i64 p.kd, .int .i64 p.k.1, .int .i64 p.k.2, .int .i64 p.pa.1, .int .i64 p.pa.2, .int .i64 p.af.1, .int .i64 p.af.2, .string p.nm, .string p.vl] 42)) w.heap.size 4 _ _ _ HK.out]; rfl)
    have b5 : (w.alloc (.cells #[.int .i64 p.kd, .int .i64 p.k.1, .int .i64 p.k.2, .int .i64 p.pa.1, .int .i64 p.pa.2, .int .i64 p.af.1, .int .i64 p.af.2, .string p.nm, .string p.vl] 42)).cell? ⟨w.heap.size, 5, none⟩ = some (.int .i64 p.af.1) := (by rw [cell_of_row (w.alloc (.cells #[.int .i64 p.kd, .int .i64 p.k.1, .int .i64 p.k.2, .int .i64 p.pa.1, .int .i64 p.pa.2, .int .i64 p.af.1, .int .i64 p.af.2, .string p.nm, .string p.vl] 42)) w.heap.size 5 _ _ _ HK.out]; rfl)
    have b6 : (w.alloc (.cells #[.int .i64 p.kd, .int .i64 p.k.1, .int .i64 p.k.2, .int .i64 p.pa.1, .int .i64 p.pa.2, .int .i64 p.af.1, .int .i64 p.af.2, .string p.nm, .string p.vl] 42)).cell? ⟨w.heap.size, 6, none⟩ = some (.int .i64 p.af.2) := (by rw [cell_of_row (w.alloc (.cells #[.int .i64 p.kd, .int .i64 p.k.1, .int .i64 p.k.2, .int .i64 p.pa.1, .int .i64 p.pa.2, .int .i64 p.af.1, .int .i64 p.af.2, .string p.nm, .string p.vl] 42)) w.heap.size 6 _ _ _ HK.out]; rfl)
    have b7 : (w.alloc (.cells #[.int .i64 p.kd, .int .i64 p.k.1, .int .i64 p.k.2, .int .i64 p.pa.1, .int .i64 p.pa.2, .int .i64 p.af.1, .int .i64 p.af.2, .string p.nm, .string p.vl] 42)).cell? ⟨w.heap.size, 7, none⟩ = some (.string p.nm) := (by rw [cell_of_row (w.alloc (.cells #[.int .i64 p.kd, .int .i64 p.k.1, .int .i64 p.k.2, .int .i64 p.pa.1, .int .i64 p.pa.2, .int .i64 p.af.1, .int .i64 p.af.2, .string p.nm, .string p.vl] 42)) w.heap.size 7 _ _ _ HK.out]; rfl)
    have b8 : (w.alloc (.cells #[.int .i64 p.kd, .int .i64 p.k.1, .int .i64 p.k.2, .int .i64 p.pa.1, .int .i64 p.pa.2, .int .i64 p.af.1, .int .i64 p.af.2, .string p.nm, .string p.vl] 42)).cell? ⟨w.heap.size, 8, none⟩ = some (.string p.vl) := (by rw [cell_of_row (w.alloc (.cells #[.int .i64 p.kd, .int .i64 p.k.1, .int .i64 p.k.2, .int .i64 p.pa.1, .int .i64 p.pa.2, .int .i64 p.af.1, .int .i64 p.af.2, .string p.nm, .string p.vl] 42)) w.heap.size 8 _ _ _ HK.out]; rfl)
    go_enter Try.func12, Try.ntmps12
    go_wp2_with (first | (go_at_call 19; refine (isKind_any p.kd _).mono ?_; rintro e wz ⟨rfl, rfl⟩; rw [HKd.out]))
    (try rw [Exit.noGoto_ret])
    go_ret
    exact ⟨rfl, HB.out⟩

end Go.Proofs.Ytccpljllgpabnab
