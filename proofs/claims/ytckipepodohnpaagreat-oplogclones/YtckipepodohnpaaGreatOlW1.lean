/- What Clock does. -/
import Derived.Test.YtckipepodohnpaaGreatOlV5
namespace Go.Proofs.YtckipepodohnpaaGreat
open Go.RowKit
set_option linter.unusedVariables false
set_option linter.unusedSimpArgs false

theorem sizeOwn : (Tryz.prog.info? 78).map (·.size) = some 64 := by kernel_rfl
theorem index_own (own : List Value) (h : own.length = 64) (k : Nat) (hk : k < own.length) (w : World) : (Instr.index 78 (.agg own.toArray) (.int .i64 (k : Int))).run Tryz.prog w = .ok own[k] w := by
  have hs : (sizeOf 77).run Tryz.prog w = .ok 1 w := by kernel_rfl
  have ha : (isAgg 77).run Tryz.prog w = .ok false w := by kernel_rfl
  have h64 : (k : Int) < 64 := by omega
  have h0 : (0 : Int) ≤ (k : Int) := by omega
  simp [Instr.index, run_underlying Tryz.underlying78, asIntOf, part, hs, ha, h64, h0, hk, Result.andThen]
  intro h'
  omega
theorem counts_take (L : List Ch) {k : Nat} (hk : k < 64) : (counts L).take (k + 1) = (counts L).take k ++ [(cntR L (k : Int) : Int)] := by
  rw [List.take_succ_eq_append_getElem (by rw [counts_length]; exact hk)]
  simp [counts]

set_option maxRecDepth 100000 in
set_option maxHeartbeats 4000000 in
theorem clock_any (v : Value) (room : Int) (L : List Ch) (F : Nat → Prop) (w : World) (h : LogV F w v room L) :
    Calls Tryz.prog 30 #[v] w fun e w' => ∃ v', e = .returned v' ∧ OwnI w.heap.size w' v' (clockL L) ∧ Below w.heap.size w w' := by
  obtain ⟨i0, hi, hz0, hz1, hz2⟩ := info_parts infoInt
  go_enter Tryz.func30, Tryz.ntmps30
  go_wp2_with fail
  refine (orEmpty_any v room L F w h).mono ?_
  rintro e w1 ⟨lb, F', rfl, ⟨mb, ord, own, D, h1⟩, h2, hff⟩
  clear hff
  have HL : Hid (LogIs F' w1 lb room L mb ord own D) := h1
  have HB : Hid (Below w.heap.size w w1) := h2
  have hlen := h1.len
  have HR : Hid (w1.rangeAt lb 3 own) := fun j u hj => by
    obtain ⟨hj2, e2⟩ := List.getElem?_eq_some_iff.1 hj
    rw [h1.cellr hj2, e2]
  clear h h1 h2
  rename_i hKq
  refine hKq _ _ ?_
  refine wpList_plain rfl (fun K hK => ?_)
  go_simp
  refine hK _ _ ?_
  clear hK K
  refine wpList_plain rfl (fun K hK => ?_)
  go_simp
  refine hK _ _ ?_
  clear hK K
  refine wpList_load_mid rfl 78 (.tmp 9) rfl lb 3 rfl own _ HR.out Tryz.underlying78 rfl (by rw [hlen]; exact sizeOwn) ?_
  (try simp only [Act.put, List.setIfInBounds_toArray, List.set_cons_zero, List.set_cons_succ])
  go_wp2
  go_loopw [3, 5, 11] (fun ov _ iv wr => ∃ k : Nat, k ≤ 64 ∧ iv = .int .i64 (k : Int) ∧ Hid (OwnI w.heap.size wr ov ((counts L).take k)) ∧ Hid (Below w.heap.size w wr)) (fun _ _ iv _ => 64 - (intOf iv).toNat)
  case atStart => exact ⟨0, Nat.zero_le _, rfl, OwnI.nil0 _ _, HB⟩
  case round =>
    obtain ⟨k, hk, rfl, HO, HBr⟩ := hrel
    have hszr := HBr.out.size
    by_cases hlt : k < 64
    · have hko : k < own.length := by omega
      obtain ⟨a2, c2, e2⟩ := (HL.out.hown k hko).form
      have hix := index_own own hlen k hko wr
      rw [e2, stL_length] at hix
      have HC : Hid ((ofR L (k : Int)).length = cntR L (k : Int)) := rfl
      rw [HC.out] at hix
      have HT : Hid ((counts L).take (k + 1) = (counts L).take k ++ [(cntR L (k : Int) : Int)]) := counts_take L hlt
      have hll : ((counts L).take k).length = k := by rw [List.length_take, counts_length]; omega
      obtain ⟨T, hT⟩ : ∃ T, T = (counts L).take k := ⟨_, rfl⟩
      rw [← hT] at HO HT hll
      clear hT e2
      generalize cntR L (k : Int) = n1 at *
      obtain ⟨ao, co, e0⟩ := HO.out.form
      subst e0
      have k1 : (k : Int) < 64 := by omega
      have hTl : T.length ≤ 64 := by omega
      clear hll
      go_wp2_with (at_builtin; refine wpList_append_own _ rfl _ _ 32 rfl w.heap.size 3 i0 (.int .i64 0) 1 8 Tryz.underlying32 hi hz0 hz1 hz2 rfl (by decide) _ _ _ rfl (World.ownsRow.alloc HO.out _) ⟨wr.heap.size, 0, none⟩ 1 1 [.int .i64 (n1 : Int)] rfl rfl (cell_one_new _ _ _) (by simp [Value.oneCell']) (by unfold maxLen; omega) (by omega) (by simp; omega) ?_; intro v3 w3 hown3 hgrow3 hnil3)
      have hb3 : Below w.heap.size w w3 := (HBr.out.alloc (by omega) _).grown hgrow3 (by simp; omega) (fun j e => HO.out.block j e)
      go_roundw
      case rel => exact ⟨k + 1, by omega, by first | rfl | go_num, by rw [HT.out]; exact OwnI.snoc hown3, hb3⟩
      case measure => simp [intOf]; omega
    · obtain rfl : k = 64 := by omega
      have ho2 := HO.out
      rw [List.take_of_length_le (by rw [counts_length]; exact Nat.le_refl _)] at ho2
      have HO2 : Hid (OwnI w.heap.size wr _ (counts L)) := ho2
      clear ho2
      go_wp2_with fail
      refine (trim_any _ (counts L) _ (HO2.out.isI (by rw [counts_length]; omega))).mono ?_
      rintro e w4 ⟨v4, rfl, ho4, hb4⟩
      have HB4 : Hid (Below w.heap.size w w4) := HBr.out.trans (hb4.mono hszr)
      have HO4 : Hid (OwnI w.heap.size w4 v4 (clockL L)) := ho4.low hszr
      clear ho4 hb4
      go_wp2
      go_ret
      exact ⟨v4, rfl, HO4.out, HB4.out⟩

end Go.Proofs.YtckipepodohnpaaGreat
