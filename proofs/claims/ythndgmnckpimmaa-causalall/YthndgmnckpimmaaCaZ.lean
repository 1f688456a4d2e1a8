/- The program answers (first, second, awake). -/
import Derived.Test.YthndgmnckpimmaaCaG
namespace Go.Proofs.Ythndgmnckpimmaa
open Go.RowKit
set_option linter.unusedVariables false
set_option linter.unusedSimpArgs false

def firstC : Ch := ⟨1, 0, 1, [], 1, 1, 0, 0, 0, 0, 0, ⟨#[112]⟩, ⟨#[]⟩⟩
def secondC : Ch := ⟨2, 1, 1, [1], 5, 1, 0, 0, 0, 0, 0, ⟨#[]⟩, ⟨#[97]⟩⟩
theorem first_sized : Sized firstC := ⟨by decide, by decide⟩
theorem second_sized : Sized secondC := ⟨by decide, by decide⟩
theorem new_second : newH [] [] secondC = 0 := by decide +kernel
theorem ready_second : readyB [] secondC = false := by decide +kernel
theorem new_first : newH [secondC] [] firstC = 0 := by decide +kernel
theorem ready_first : readyB [] firstC = true := by decide +kernel
theorem take_second : takeR 1 [] [] secondC = ([secondC], [], 0) := by
  unfold takeR
  rw [if_neg (by rw [new_second]; simp), if_neg (by rw [ready_second]; simp), if_neg (by simp)]
  rfl
theorem ready_second2 : readyB (tickR [] 0) secondC = true := by decide +kernel
theorem run_second : runL 1 (tickR [] 0) [secondC] = ([secondC], []) := by
  have h : [secondC].find? (readyB (tickR [] 0)) = some secondC := by rw [List.find?_cons, ready_second2]
  have h2 : [secondC].filter (notAt secondC) = [] := by decide +kernel
  rw [runL_some h, h2]
  rfl
theorem take_first : takeR 1 [secondC] [] firstC = ([], [firstC, secondC], 0) := by
  unfold takeR
  rw [if_neg (by rw [new_first]; simp), if_pos ready_first]
  show ((runL 1 (tickR [] 0) [secondC]).2, firstC :: (runL 1 (tickR [] 0) [secondC]).1, (0 : Int)) = _
  rw [run_second]

theorem BufH.below {F : Nat → Prop} {w w' : World} {v : Value} {room : Int} {H : List Ch} (h : BufH F w v room H) (hb : Below w.heap.size w w') : BufH F w' v room H := by
  obtain ⟨D, h1, h2⟩ := h
  exact ⟨D, h1.below hb, h2⟩

set_option maxRecDepth 100000 in
set_option maxHeartbeats 2000000 in
theorem first_any (w : World) : Calls Try.prog 17 #[] w fun e w' => e = .returned (chV firstC (.slice none 0 0)) ∧ Below w.heap.size w w' := by
  go_enter Try.func17, Try.ntmps17
  go_wp2
  (try simp only [Exit.inBlock, Exit.then])
  refine bodyPost_ret (v := chV firstC (.slice none 0 0)) ?res rfl ?post
  case res => exact results_cell_row rfl _ _ w.heap.size _ _ _ _ rfl ((Below.heap_alloc _ _ _ (by simp)).trans (heap_alloc_new w _)) Try.underlying35 rfl (by kernel_rfl)
  exact ⟨rfl, ((Below.refl _ _).alloc (Nat.le_refl _) _).alloc (by simp) _⟩

set_option maxRecDepth 100000 in
set_option maxHeartbeats 2000000 in
theorem second_any (w : World) : Calls Try.prog 16 #[] w fun e w' => ∃ dv, e = .returned (chV secondC dv) ∧ IsI w' dv [1] ∧ Below w.heap.size w w' := by
  go_enter Try.func16, Try.ntmps16
  go_wp2
  (try simp only [Exit.inBlock, Exit.then])
  refine bodyPost_ret (v := chV secondC (.slice (some ⟨w.heap.size + 1, 0, none⟩) 1 1)) ?res rfl ?post
  case res => exact results_cell_row rfl _ _ w.heap.size _ _ _ _ rfl ((Below.heap_alloc _ _ _ (by simp)).trans (heap_alloc_new w _)) Try.underlying35 rfl (by kernel_rfl)
  have h1 := isI_new (w.alloc (.cells #[.int .i64 2, .int .i64 1, .int .i64 1, .slice (some ⟨w.heap.size + 1, 0, none⟩) 1 1, .int .i64 5, .int .i64 1, .int .i64 0, .int .i64 0, .int .i64 0, .int .i64 0, .int .i64 0, .string ⟨#[]⟩, .string ⟨#[97]⟩] 35)) [1] (by decide)
  rw [show (w.alloc (.cells #[.int .i64 2, .int .i64 1, .int .i64 1, .slice (some ⟨w.heap.size + 1, 0, none⟩) 1 1, .int .i64 5, .int .i64 1, .int .i64 0, .int .i64 0, .int .i64 0, .int .i64 0, .int .i64 0, .string ⟨#[]⟩, .string ⟨#[97]⟩] 35)).heap.size = w.heap.size + 1 by simp] at h1
  exact ⟨_, rfl, h1, ((Below.refl _ _).alloc (Nat.le_refl _) _).alloc (by simp) _⟩

set_option maxRecDepth 100000 in
set_option maxHeartbeats 4000000 in
theorem awake_any (w : World) : Calls Try.prog 7 #[] w fun e w' => e = .returned (.bool true) ∧ Below w.heap.size w w' := by
  go_enter Try.func7, Try.ntmps7
  go_wp2_with fail
  refine (new_any 1 _).mono ?_
  rintro e w1 ⟨h, hb1⟩
  rcases h with ⟨h, _⟩ | ⟨_, bb, mb, rfl, hL, hF1, hF2⟩
  · omega
  have HB1 : Hid (Below w.heap.size w w1) := hb1
  have HL1 : Hid (BufH (fun k => k = mb ∨ k = bb) w1 (.pointer (some ⟨bb, 0, none⟩)) 1 []) := ⟨[], hL.v, List.Perm.refl _, List.Pairwise.nil⟩
  have HF1 : Hid (∀ k, (k = mb ∨ k = bb) → w.heap.size ≤ k) := fun k hk => by rcases hk with rfl | rfl <;> assumption
  clear hL hb1 hF1 hF2
  go_wp2_with fail
  refine (second_any _).mono ?_
  rintro e w2 ⟨dv, rfl, hi2, hb2⟩
  have HI2 : Hid (IsI w2 dv [1]) := hi2
  obtain ⟨a2, c2, e2⟩ := hi2.form
  subst e2
  have HL2 : Hid (BufH (fun k => k = mb ∨ k = bb) w2 (.pointer (some ⟨bb, 0, none⟩)) 1 []) := HL1.out.below hb2
  have HB2 : Hid (Below w.heap.size w w2) := HB1.out.trans (hb2.mono HB1.out.size)
  clear hi2 hb2 HL1 HB1
  go_wp2_with fail
  refine (take_any _ _ 1 [] 2 1 1 _ 5 1 0 0 0 0 0 ⟨#[]⟩ ⟨#[97]⟩ [1] (.slice none 0 0) [] _ HL2.out (by decide) (IsI.non 0) HI2.out second_sized).mono ?_
  rintro e w3 ⟨v3, E3, F3, he3, hA3, hE3, hL3, hF3, ht3⟩
  rw [show (⟨2, 1, 1, [1], 5, 1, 0, 0, 0, 0, 0, ⟨#[]⟩, ⟨#[97]⟩⟩ : Ch) = secondC from rfl, take_second] at he3 hE3 hL3
  simp only at he3 hE3 hL3
  subst he3
  obtain rfl : E3 = [] := by simpa using hE3
  obtain ⟨a3, c3, e3⟩ := hA3.own.form
  subst e3
  have HL3 : Hid (BufH F3 w3 (.pointer (some ⟨bb, 0, none⟩)) 1 [secondC]) := hL3
  have HB3 : Hid (Below w.heap.size w w3) := HB2.out.trans (ht3.below HF1.out HB2.out.size)
  have HF3 : Hid (∀ k, F3 k → w.heap.size ≤ k) := fun k hk => (hF3 k hk).elim (HF1.out k) (fun h => Nat.le_trans HB2.out.size h)
  clear hA3 hE3 hL3 hF3 ht3 HL2 HB2 HF1 HI2
  go_wp2_with fail
  obtain ⟨D3, hD3, hP3, _⟩ := HL3.out
  have hDl3 : D3.length = 1 := by have := hP3.length_eq; simpa using this
  refine (len_any _ 1 D3 F3 _ hD3).mono ?_
  rintro e w4 ⟨rfl, hb4⟩
  rw [hDl3]
  have HL4 : Hid (BufH F3 w4 (.pointer (some ⟨bb, 0, none⟩)) 1 [secondC]) := HL3.out.below hb4
  have HB4 : Hid (Below w.heap.size w w4) := HB3.out.trans (hb4.mono HB3.out.size)
  clear hb4 HL3 HB3 hD3 hP3 hDl3
  go_wp2_with fail
  refine (first_any _).mono ?_
  rintro e w5 ⟨rfl, hb5⟩
  have HL5 : Hid (BufH F3 w5 (.pointer (some ⟨bb, 0, none⟩)) 1 [secondC]) := HL4.out.below hb5
  have HB5 : Hid (Below w.heap.size w w5) := HB4.out.trans (hb5.mono HB4.out.size)
  clear hb5 HL4 HB4
  go_wp2_with fail
  refine (take_any _ _ 1 [secondC] 1 0 1 (.slice none 0 0) 1 1 0 0 0 0 0 ⟨#[112]⟩ ⟨#[]⟩ [] (.slice none 0 0) [] _ HL5.out (by decide) (IsI.non 0) (IsI.non 0) first_sized).mono ?_
  rintro e w6 ⟨v6, E6, F6, he6, hA6, hE6, hL6, hF6, ht6⟩
  rw [show (⟨1, 0, 1, [], 1, 1, 0, 0, 0, 0, 0, ⟨#[112]⟩, ⟨#[]⟩⟩ : Ch) = firstC from rfl, take_first] at he6 hE6 hL6
  simp only at he6 hE6 hL6
  subst he6
  have hl6 : E6.length = 2 := by have := congrArg List.length hE6; simpa using this
  obtain ⟨g6, c6, e6, hcl⟩ := OwnH.at hA6.own (i := 0) (by omega)
  subst e6
  rw [hl6]
  have hk6 : E6[0].1 = firstC := by
    have : (E6.map Prod.fst)[0]'(by simp; omega) = firstC := by simp [hE6]
    simpa using this
  have q4 := (chAll hcl).2.2.2.2.1
  rw [hk6] at q4
  have HL6 : Hid (BufH F6 w6 (.pointer (some ⟨bb, 0, none⟩)) 1 []) := hL6
  have HB6 : Hid (Below w.heap.size w w6) := HB5.out.trans (ht6.below HF3.out HB5.out.size)
  clear hA6 hE6 hL6 hF6 ht6 HL5 HB5 HF3 hcl hk6 hl6
  simp only [firstC] at q4
  go_wp2_with fail
  obtain ⟨D6, hD6, hP6, _⟩ := HL6.out
  obtain rfl : D6 = [] := by simpa using hP6
  refine (len_any _ 1 [] F6 _ hD6).mono ?_
  rintro e w7 ⟨rfl, hb7⟩
  have HB7 : Hid (Below w.heap.size w w7) := HB6.out.trans (hb7.mono HB6.out.size)
  clear hb7 HB6 hD6 hP6 HL6
  rw [show ((([] : List (Ch × Value)).length : Nat) : Int) = 0 from rfl]
  go_wp2
  go_ret
  exact ⟨rfl, HB7.out⟩

end Go.Proofs.Ythndgmnckpimmaa
