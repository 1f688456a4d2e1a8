/- What Parse makes of any text. -/
import Derived.Test.YtaocjmipjibiaabGreatDoorChZ
import Derived.Test.YtaocjmipjibiaabGreatDoorChX
import Derived.Laws.ResultCell
namespace Go.Proofs.YtaocjmipjibiaabGreatDoor
open Go.RowKit
set_option linter.unusedVariables false
set_option linter.unusedSimpArgs false

theorem results_cell_row2 {P : Program} {fn : Func} {p u : Tmp} {ty : TypeId} (h : fn.results = #[.cell p ty, .tmp u]) (tmps : Array Value) (w : World) (g : Nat) (t : TypeId) (cs : Array Value) (fr : Nat × Nat) (d : TypeDesc)
    (hp : tmps.getD p undef = .pointer (some ⟨g, 0, none⟩)) (hg : w.heap[g]? = some (.cells cs t fr))
    (hu : P.underlying ty = some d) (hd : (match d with | .struct _ | .array _ _ => true | _ => false) = true) (hi : (P.info? ty).map (·.size) = some cs.size) {k : Value} (hk : tmps.getD u undef = k) :
    (results fn tmps).run P w = .ok (.tuple #[.agg cs, k]) w := by
  rw [results_cell_tmp h, hp, hk]
  simp [asAddr, run_loadVar_row w g t ty cs fr d hg hu hd hi]

def ParseDone (l : List UInt8) (w : World) (e : Ending) (w' : World) : Prop := ∃ (ac ar sq : Int) (dv : Value) (ds : List Int) (kd nc nr pc pr fc fr : Int) (nm vl : ByteArray) (k : Int), e = .returned (.tuple #[.agg #[.int .i64 ac, .int .i64 ar, .int .i64 sq, dv, .int .i64 kd, .int .i64 nc, .int .i64 nr, .int .i64 pc, .int .i64 pr, .int .i64 fc, .int .i64 fr, .string nm, .string vl], .int .i64 k]) ∧ ParseCh l ⟨ac, ar, sq, ds, kd, nc, nr, pc, pr, fc, fr, nm, vl⟩ k ∧ IsI w' dv ds ∧ nm.size ≤ 281474976710656 ∧ Below w.heap.size w w'
theorem ParseDone.zero {l : List UInt8} {w w' : World} {k : Int} (h : ParseCh l Ch.none k) (hb : Below w.heap.size w w') : ParseDone l w (.returned (.tuple #[.agg #[.int .i64 0, .int .i64 0, .int .i64 0, .slice none 0 0, .int .i64 0, .int .i64 0, .int .i64 0, .int .i64 0, .int .i64 0, .int .i64 0, .int .i64 0, .string ⟨#[]⟩, .string ⟨#[]⟩], .int .i64 k])) w' :=
  ⟨0, 0, 0, .slice none 0 0, [], 0, 0, 0, 0, 0, 0, 0, ⟨#[]⟩, ⟨#[]⟩, k, rfl, h, IsI.non 0, by simp [ByteArray.size], hb⟩

set_option maxRecDepth 100000 in
set_option maxHeartbeats 8000000 in
theorem parseCh_long (s : ByteArray) (hs : 262144 < s.size) (w : World) :
    Calls Tryz.prog 6 #[.string s] w fun e w' => ParseDone s.data.toList w e w' := by
  have q : (262144 : Int) < (s.size : Int) := by omega
  have HP : Hid (ParseCh s.data.toList Ch.none 3) := .inl ⟨by rw [size_list]; exact hs, rfl, rfl⟩
  have HR : Hid ((w.alloc (.cells #[.int .i64 0, .int .i64 0, .int .i64 0, .slice none 0 0, .int .i64 0, .int .i64 0, .int .i64 0, .int .i64 0, .int .i64 0, .int .i64 0, .int .i64 0, .string ⟨#[]⟩, .string ⟨#[]⟩] 26)).heap[w.heap.size]? = some (.cells #[.int .i64 0, .int .i64 0, .int .i64 0, .slice none 0 0, .int .i64 0, .int .i64 0, .int .i64 0, .int .i64 0, .int .i64 0, .int .i64 0, .int .i64 0, .string ⟨#[]⟩, .string ⟨#[]⟩] 26)) := heap_alloc_new _ _
  go_enter Tryz.func6, Tryz.ntmps6
  go_wp2
  (try simp only [Exit.inBlock, Exit.then])
  refine bodyPost_ret (v := .tuple #[.agg #[.int .i64 0, .int .i64 0, .int .i64 0, .slice none 0 0, .int .i64 0, .int .i64 0, .int .i64 0, .int .i64 0, .int .i64 0, .int .i64 0, .int .i64 0, .string ⟨#[]⟩, .string ⟨#[]⟩], .int .i64 3]) ?res rfl ?post
  case res => exact results_cell_row2 rfl _ _ w.heap.size _ _ _ _ rfl HR.out Tryz.underlying26 rfl (by kernel_rfl) rfl
  exact ParseDone.zero HP.out ((Below.refl _ _).alloc (Nat.le_refl _) _)

set_option maxRecDepth 100000 in
set_option maxHeartbeats 8000000 in
theorem parseCh_short (s : ByteArray) (hs : s.size ≤ 262144) (w : World) (he : Env w) :
    Calls Tryz.prog 6 #[.string s] w fun e w' => ParseDone s.data.toList w e w' := by
  have q : ¬ (262144 : Int) < (s.size : Int) := by omega
  have HLn : Hid (s.data.toList.length ≤ 262144) := by show _ ≤ _; rw [size_list]; exact hs
  have HB0 : Hid (Below w.heap.size w (w.alloc (.cells #[.int .i64 0, .int .i64 0, .int .i64 0, .slice none 0 0, .int .i64 0, .int .i64 0, .int .i64 0, .int .i64 0, .int .i64 0, .int .i64 0, .int .i64 0, .string ⟨#[]⟩, .string ⟨#[]⟩] 26))) := (Below.refl _ _).alloc (Nat.le_refl _) _
  have HR0 : Hid ((w.alloc (.cells #[.int .i64 0, .int .i64 0, .int .i64 0, .slice none 0 0, .int .i64 0, .int .i64 0, .int .i64 0, .int .i64 0, .int .i64 0, .int .i64 0, .int .i64 0, .string ⟨#[]⟩, .string ⟨#[]⟩] 26)).heap[w.heap.size]? = some (.cells #[.int .i64 0, .int .i64 0, .int .i64 0, .slice none 0 0, .int .i64 0, .int .i64 0, .int .i64 0, .int .i64 0, .int .i64 0, .int .i64 0, .int .i64 0, .string ⟨#[]⟩, .string ⟨#[]⟩] 26)) := heap_alloc_new _ _
  have HEnv : Hid (Env (w.alloc (.cells #[.int .i64 0, .int .i64 0, .int .i64 0, .slice none 0 0, .int .i64 0, .int .i64 0, .int .i64 0, .int .i64 0, .int .i64 0, .int .i64 0, .int .i64 0, .string ⟨#[]⟩, .string ⟨#[]⟩] 26))) := he.below HB0.out
  clear he
  go_enter Tryz.func6, Tryz.ntmps6
  go_wp2_with fail
  refine (read_any s (by omega) _ HEnv.out).mono ?_
  rintro e w1 ⟨ac, ar, sq, dv, ds, kd, nc, nr, pc, pr, fc, fr, nm, vl, rfl, hrd, hI, hnm, hb1⟩
  have HRD : Hid (∀ d, checkCh d = 0 → s.data.toList = textCh d → ((⟨ac, ar, sq, ds, kd, nc, nr, pc, pr, fc, fr, nm, vl⟩ : Ch)) = d) := fun d hd e => ReadIs.back hd (e ▸ hrd)
  have HB1 : Hid (Below w.heap.size w w1) := HB0.out.trans (hb1.mono HB0.out.size)
  have HR1 : Hid (w1.heap[w.heap.size]? = some (.cells #[.int .i64 0, .int .i64 0, .int .i64 0, .slice none 0 0, .int .i64 0, .int .i64 0, .int .i64 0, .int .i64 0, .int .i64 0, .int .i64 0, .int .i64 0, .string ⟨#[]⟩, .string ⟨#[]⟩] 26)) := row_below HR0.out hb1
  have HE1 : Hid (Env w1) := HEnv.out.below hb1
  obtain ⟨ad, cpd, edv⟩ := hI.form
  subst edv
  have BA : Hid (Below w1.heap.size w1 (w1.alloc (.cells #[.int .i64 ac, .int .i64 ar, .int .i64 sq, .slice ad ds.length cpd, .int .i64 kd, .int .i64 nc, .int .i64 nr, .int .i64 pc, .int .i64 pr, .int .i64 fc, .int .i64 fr, .string nm, .string vl] 26))) := (Below.refl _ _).alloc (Nat.le_refl _) _
  have HI1 : Hid (DpIs (w.heap.size + 1) (w1.alloc (.cells #[.int .i64 ac, .int .i64 ar, .int .i64 sq, .slice ad ds.length cpd, .int .i64 kd, .int .i64 nc, .int .i64 nr, .int .i64 pc, .int .i64 pr, .int .i64 fc, .int .i64 fr, .string nm, .string vl] 26)) (.slice ad ds.length cpd) ds) := (hI.mono (by simp)).below BA.out
  have HC1 : Hid ((w1.alloc (.cells #[.int .i64 ac, .int .i64 ar, .int .i64 sq, .slice ad ds.length cpd, .int .i64 kd, .int .i64 nc, .int .i64 nr, .int .i64 pc, .int .i64 pr, .int .i64 fc, .int .i64 fr, .string nm, .string vl] 26)).heap[w1.heap.size]? = some (.cells #[.int .i64 ac, .int .i64 ar, .int .i64 sq, .slice ad ds.length cpd, .int .i64 kd, .int .i64 nc, .int .i64 nr, .int .i64 pc, .int .i64 pr, .int .i64 fc, .int .i64 fr, .string nm, .string vl] 26)) := heap_alloc_new _ _
  have HR1b : Hid ((w1.alloc (.cells #[.int .i64 ac, .int .i64 ar, .int .i64 sq, .slice ad ds.length cpd, .int .i64 kd, .int .i64 nc, .int .i64 nr, .int .i64 pc, .int .i64 pr, .int .i64 fc, .int .i64 fr, .string nm, .string vl] 26)).heap[w.heap.size]? = some (.cells #[.int .i64 0, .int .i64 0, .int .i64 0, .slice none 0 0, .int .i64 0, .int .i64 0, .int .i64 0, .int .i64 0, .int .i64 0, .int .i64 0, .int .i64 0, .string ⟨#[]⟩, .string ⟨#[]⟩] 26)) := row_below HR1.out BA.out
  obtain ⟨gc, egc⟩ : ∃ x, x = w1.heap.size := ⟨_, rfl⟩
  have hgc : w.heap.size < gc := by rw [egc]; exact row_lt HR1.out
  rw [← egc] at HC1
  have HGC : Hid (gc = w1.heap.size) := egc
  clear egc hrd hI hb1
  go_wp2_with fail
  (try rw [← HGC.out])
  refine (textCh_any ac ar sq (.slice ad ds.length cpd) kd nc nr pc pr fc fr nm vl ds hnm _ HI1.out.isI (HE1.out.below BA.out)).mono ?_
  rintro e w2 ⟨rfl, hb2⟩
  have HC2 : Hid (w2.heap[gc]? = some (.cells #[.int .i64 ac, .int .i64 ar, .int .i64 sq, .slice ad ds.length cpd, .int .i64 kd, .int .i64 nc, .int .i64 nr, .int .i64 pc, .int .i64 pr, .int .i64 fc, .int .i64 fr, .string nm, .string vl] 26)) := row_below HC1.out hb2
  have HR2 : Hid (w2.heap[w.heap.size]? = some (.cells #[.int .i64 0, .int .i64 0, .int .i64 0, .slice none 0 0, .int .i64 0, .int .i64 0, .int .i64 0, .int .i64 0, .int .i64 0, .int .i64 0, .int .i64 0, .string ⟨#[]⟩, .string ⟨#[]⟩] 26)) := row_below HR1b.out hb2
  have HI2 : Hid (DpIs (w.heap.size + 1) w2 (.slice ad ds.length cpd) ds) := HI1.out.below hb2
  have HB2 : Hid (Below w.heap.size w w2) := HB1.out.trans ((BA.out.trans (hb2.mono BA.out.size)).mono HB1.out.size)
  obtain ⟨k_0, k_1, k_2, k_3, k_4, k_5, k_6, k_7, k_8, k_9, k_10, k_11, k_12⟩ := row_cells HC2.out
  have fz := row_free HC2.out
  obtain ⟨z_0, z_1, z_2, z_3, z_4, z_5, z_6, z_7, z_8, z_9, z_10, z_11, z_12⟩ := row_cells HR2.out
  have fr0 := row_free HR2.out
  have hgn : gc ≠ w.heap.size := by omega
  clear hb2
  by_cases hc : checkCh ⟨ac, ar, sq, ds, kd, nc, nr, pc, pr, fc, fr, nm, vl⟩ = 0
  · by_cases ht : textCh ⟨ac, ar, sq, ds, kd, nc, nr, pc, pr, fc, fr, nm, vl⟩ = s.data.toList
    · have qa : ((txt (textCh ⟨ac, ar, sq, ds, kd, nc, nr, pc, pr, fc, fr, nm, vl⟩)).toList == s.toList) = true := by rw [ByteArray.toList_eq, ByteArray.toList_eq]; rw [← ht]; simp [txt]
      have qb : ((txt (textCh ⟨ac, ar, sq, ds, kd, nc, nr, pc, pr, fc, fr, nm, vl⟩)).toList != s.toList) = false := by rw [bne, qa]; rfl
      have HP : Hid (ParseCh s.data.toList ⟨ac, ar, sq, ds, kd, nc, nr, pc, pr, fc, fr, nm, vl⟩ 0) := .inr (.inl ⟨hc, ht.symm, rfl⟩)
      clear ht
      rw [if_pos hc, hc]
      have FR : Hid ((((((((((((((w2.setCell ⟨w.heap.size, 0, none⟩ (.int .i64 ac)).setCell ⟨w.heap.size, 1, none⟩ (.int .i64 ar)).setCell ⟨w.heap.size, 2, none⟩ (.int .i64 sq)).setCell ⟨w.heap.size, 3, none⟩ (.slice ad ds.length cpd)).setCell ⟨w.heap.size, 4, none⟩ (.int .i64 kd)).setCell ⟨w.heap.size, 5, none⟩ (.int .i64 nc)).setCell ⟨w.heap.size, 6, none⟩ (.int .i64 nr)).setCell ⟨w.heap.size, 7, none⟩ (.int .i64 pc)).setCell ⟨w.heap.size, 8, none⟩ (.int .i64 pr)).setCell ⟨w.heap.size, 9, none⟩ (.int .i64 fc)).setCell ⟨w.heap.size, 10, none⟩ (.int .i64 fr)).setCell ⟨w.heap.size, 11, none⟩ (.string nm)).setCell ⟨w.heap.size, 12, none⟩ (.string vl)).heap[w.heap.size]? = some (.cells #[.int .i64 ac, .int .i64 ar, .int .i64 sq, .slice ad ds.length cpd, .int .i64 kd, .int .i64 nc, .int .i64 nr, .int .i64 pc, .int .i64 pr, .int .i64 fc, .int .i64 fr, .string nm, .string vl] 26)) := row_set13 HR2.out
      have FB : Hid (Below w.heap.size w (((((((((((((w2.setCell ⟨w.heap.size, 0, none⟩ (.int .i64 ac)).setCell ⟨w.heap.size, 1, none⟩ (.int .i64 ar)).setCell ⟨w.heap.size, 2, none⟩ (.int .i64 sq)).setCell ⟨w.heap.size, 3, none⟩ (.slice ad ds.length cpd)).setCell ⟨w.heap.size, 4, none⟩ (.int .i64 kd)).setCell ⟨w.heap.size, 5, none⟩ (.int .i64 nc)).setCell ⟨w.heap.size, 6, none⟩ (.int .i64 nr)).setCell ⟨w.heap.size, 7, none⟩ (.int .i64 pc)).setCell ⟨w.heap.size, 8, none⟩ (.int .i64 pr)).setCell ⟨w.heap.size, 9, none⟩ (.int .i64 fc)).setCell ⟨w.heap.size, 10, none⟩ (.int .i64 fr)).setCell ⟨w.heap.size, 11, none⟩ (.string nm)).setCell ⟨w.heap.size, 12, none⟩ (.string vl))) := by show Below _ _ _; refine Below.setCell ?_ (by exact Nat.le_refl _) _; refine Below.setCell ?_ (by exact Nat.le_refl _) _; refine Below.setCell ?_ (by exact Nat.le_refl _) _; refine Below.setCell ?_ (by exact Nat.le_refl _) _; refine Below.setCell ?_ (by exact Nat.le_refl _) _; refine Below.setCell ?_ (by exact Nat.le_refl _) _; refine Below.setCell ?_ (by exact Nat.le_refl _) _; refine Below.setCell ?_ (by exact Nat.le_refl _) _; refine Below.setCell ?_ (by exact Nat.le_refl _) _; refine Below.setCell ?_ (by exact Nat.le_refl _) _; refine Below.setCell ?_ (by exact Nat.le_refl _) _; refine Below.setCell ?_ (by exact Nat.le_refl _) _; refine Below.setCell ?_ (by exact Nat.le_refl _) _; exact HB2.out
      go_wp2
      (try simp only [Exit.inBlock, Exit.then])
      refine bodyPost_ret (v := .tuple #[.agg #[.int .i64 ac, .int .i64 ar, .int .i64 sq, .slice ad ds.length cpd, .int .i64 kd, .int .i64 nc, .int .i64 nr, .int .i64 pc, .int .i64 pr, .int .i64 fc, .int .i64 fr, .string nm, .string vl], .int .i64 0]) ?res1 rfl ?post1
      case res1 => exact results_cell_row2 rfl _ _ w.heap.size _ _ _ _ rfl FR.out Tryz.underlying26 rfl (by kernel_rfl) rfl
      have FI : DpIs (w.heap.size + 1) (((((((((((((w2.setCell ⟨w.heap.size, 0, none⟩ (.int .i64 ac)).setCell ⟨w.heap.size, 1, none⟩ (.int .i64 ar)).setCell ⟨w.heap.size, 2, none⟩ (.int .i64 sq)).setCell ⟨w.heap.size, 3, none⟩ (.slice ad ds.length cpd)).setCell ⟨w.heap.size, 4, none⟩ (.int .i64 kd)).setCell ⟨w.heap.size, 5, none⟩ (.int .i64 nc)).setCell ⟨w.heap.size, 6, none⟩ (.int .i64 nr)).setCell ⟨w.heap.size, 7, none⟩ (.int .i64 pc)).setCell ⟨w.heap.size, 8, none⟩ (.int .i64 pr)).setCell ⟨w.heap.size, 9, none⟩ (.int .i64 fc)).setCell ⟨w.heap.size, 10, none⟩ (.int .i64 fr)).setCell ⟨w.heap.size, 11, none⟩ (.string nm)).setCell ⟨w.heap.size, 12, none⟩ (.string vl)) (.slice ad ds.length cpd) ds := by refine DpIs.set ?_ (by omega); refine DpIs.set ?_ (by omega); refine DpIs.set ?_ (by omega); refine DpIs.set ?_ (by omega); refine DpIs.set ?_ (by omega); refine DpIs.set ?_ (by omega); refine DpIs.set ?_ (by omega); refine DpIs.set ?_ (by omega); refine DpIs.set ?_ (by omega); refine DpIs.set ?_ (by omega); refine DpIs.set ?_ (by omega); refine DpIs.set ?_ (by omega); refine DpIs.set ?_ (by omega); exact HI2.out
      exact ⟨ac, ar, sq, (.slice ad ds.length cpd), ds, kd, nc, nr, pc, pr, fc, fr, nm, vl, 0, rfl, HP.out, FI.isI, hnm, FB.out⟩
    · have qa : ((txt (textCh ⟨ac, ar, sq, ds, kd, nc, nr, pc, pr, fc, fr, nm, vl⟩)).toList == s.toList) = false := by rw [ByteArray.toList_eq, ByteArray.toList_eq]; rw [beq_eq_false_iff_ne]; exact fun e => ht (by rw [← e]; simp [txt])
      have qb : ((txt (textCh ⟨ac, ar, sq, ds, kd, nc, nr, pc, pr, fc, fr, nm, vl⟩)).toList != s.toList) = true := by rw [bne, qa]; rfl
      have HN : Hid (ParseCh s.data.toList Ch.none 2) := parse_got HLn.out HRD.out (fun h => ht h.2)
      clear ht
      rw [if_pos hc, hc]
      have FR : Hid ((((((((((((((w2.setCell ⟨w.heap.size, 0, none⟩ (.int .i64 0)).setCell ⟨w.heap.size, 1, none⟩ (.int .i64 0)).setCell ⟨w.heap.size, 2, none⟩ (.int .i64 0)).setCell ⟨w.heap.size, 3, none⟩ (.slice none 0 0)).setCell ⟨w.heap.size, 4, none⟩ (.int .i64 0)).setCell ⟨w.heap.size, 5, none⟩ (.int .i64 0)).setCell ⟨w.heap.size, 6, none⟩ (.int .i64 0)).setCell ⟨w.heap.size, 7, none⟩ (.int .i64 0)).setCell ⟨w.heap.size, 8, none⟩ (.int .i64 0)).setCell ⟨w.heap.size, 9, none⟩ (.int .i64 0)).setCell ⟨w.heap.size, 10, none⟩ (.int .i64 0)).setCell ⟨w.heap.size, 11, none⟩ (.string ⟨#[]⟩)).setCell ⟨w.heap.size, 12, none⟩ (.string ⟨#[]⟩)).heap[w.heap.size]? = some (.cells #[.int .i64 0, .int .i64 0, .int .i64 0, .slice none 0 0, .int .i64 0, .int .i64 0, .int .i64 0, .int .i64 0, .int .i64 0, .int .i64 0, .int .i64 0, .string ⟨#[]⟩, .string ⟨#[]⟩] 26)) := row_set13 HR2.out
      have FB : Hid (Below w.heap.size w (((((((((((((w2.setCell ⟨w.heap.size, 0, none⟩ (.int .i64 0)).setCell ⟨w.heap.size, 1, none⟩ (.int .i64 0)).setCell ⟨w.heap.size, 2, none⟩ (.int .i64 0)).setCell ⟨w.heap.size, 3, none⟩ (.slice none 0 0)).setCell ⟨w.heap.size, 4, none⟩ (.int .i64 0)).setCell ⟨w.heap.size, 5, none⟩ (.int .i64 0)).setCell ⟨w.heap.size, 6, none⟩ (.int .i64 0)).setCell ⟨w.heap.size, 7, none⟩ (.int .i64 0)).setCell ⟨w.heap.size, 8, none⟩ (.int .i64 0)).setCell ⟨w.heap.size, 9, none⟩ (.int .i64 0)).setCell ⟨w.heap.size, 10, none⟩ (.int .i64 0)).setCell ⟨w.heap.size, 11, none⟩ (.string ⟨#[]⟩)).setCell ⟨w.heap.size, 12, none⟩ (.string ⟨#[]⟩))) := by show Below _ _ _; refine Below.setCell ?_ (by exact Nat.le_refl _) _; refine Below.setCell ?_ (by exact Nat.le_refl _) _; refine Below.setCell ?_ (by exact Nat.le_refl _) _; refine Below.setCell ?_ (by exact Nat.le_refl _) _; refine Below.setCell ?_ (by exact Nat.le_refl _) _; refine Below.setCell ?_ (by exact Nat.le_refl _) _; refine Below.setCell ?_ (by exact Nat.le_refl _) _; refine Below.setCell ?_ (by exact Nat.le_refl _) _; refine Below.setCell ?_ (by exact Nat.le_refl _) _; refine Below.setCell ?_ (by exact Nat.le_refl _) _; refine Below.setCell ?_ (by exact Nat.le_refl _) _; refine Below.setCell ?_ (by exact Nat.le_refl _) _; refine Below.setCell ?_ (by exact Nat.le_refl _) _; exact HB2.out
      go_wp2
      (try simp only [Exit.inBlock, Exit.then])
      refine bodyPost_ret (v := .tuple #[.agg #[.int .i64 0, .int .i64 0, .int .i64 0, .slice none 0 0, .int .i64 0, .int .i64 0, .int .i64 0, .int .i64 0, .int .i64 0, .int .i64 0, .int .i64 0, .string ⟨#[]⟩, .string ⟨#[]⟩], .int .i64 2]) ?res2 rfl ?post2
      case res2 => exact results_cell_row2 rfl _ _ w.heap.size _ _ _ _ rfl FR.out Tryz.underlying26 rfl (by kernel_rfl) rfl
      exact ParseDone.zero HN.out FB.out
  · have HN : Hid (ParseCh s.data.toList Ch.none 2) := parse_got HLn.out HRD.out (fun h => hc h.1)
    have qc : (checkCh ⟨ac, ar, sq, ds, kd, nc, nr, pc, pr, fc, fr, nm, vl⟩ != 0) = true := by simp [hc]
    rw [if_neg hc]
    have FR : Hid ((((((((((((((w2.setCell ⟨w.heap.size, 0, none⟩ (.int .i64 0)).setCell ⟨w.heap.size, 1, none⟩ (.int .i64 0)).setCell ⟨w.heap.size, 2, none⟩ (.int .i64 0)).setCell ⟨w.heap.size, 3, none⟩ (.slice none 0 0)).setCell ⟨w.heap.size, 4, none⟩ (.int .i64 0)).setCell ⟨w.heap.size, 5, none⟩ (.int .i64 0)).setCell ⟨w.heap.size, 6, none⟩ (.int .i64 0)).setCell ⟨w.heap.size, 7, none⟩ (.int .i64 0)).setCell ⟨w.heap.size, 8, none⟩ (.int .i64 0)).setCell ⟨w.heap.size, 9, none⟩ (.int .i64 0)).setCell ⟨w.heap.size, 10, none⟩ (.int .i64 0)).setCell ⟨w.heap.size, 11, none⟩ (.string ⟨#[]⟩)).setCell ⟨w.heap.size, 12, none⟩ (.string ⟨#[]⟩)).heap[w.heap.size]? = some (.cells #[.int .i64 0, .int .i64 0, .int .i64 0, .slice none 0 0, .int .i64 0, .int .i64 0, .int .i64 0, .int .i64 0, .int .i64 0, .int .i64 0, .int .i64 0, .string ⟨#[]⟩, .string ⟨#[]⟩] 26)) := row_set13 HR2.out
    have FB : Hid (Below w.heap.size w (((((((((((((w2.setCell ⟨w.heap.size, 0, none⟩ (.int .i64 0)).setCell ⟨w.heap.size, 1, none⟩ (.int .i64 0)).setCell ⟨w.heap.size, 2, none⟩ (.int .i64 0)).setCell ⟨w.heap.size, 3, none⟩ (.slice none 0 0)).setCell ⟨w.heap.size, 4, none⟩ (.int .i64 0)).setCell ⟨w.heap.size, 5, none⟩ (.int .i64 0)).setCell ⟨w.heap.size, 6, none⟩ (.int .i64 0)).setCell ⟨w.heap.size, 7, none⟩ (.int .i64 0)).setCell ⟨w.heap.size, 8, none⟩ (.int .i64 0)).setCell ⟨w.heap.size, 9, none⟩ (.int .i64 0)).setCell ⟨w.heap.size, 10, none⟩ (.int .i64 0)).setCell ⟨w.heap.size, 11, none⟩ (.string ⟨#[]⟩)).setCell ⟨w.heap.size, 12, none⟩ (.string ⟨#[]⟩))) := by show Below _ _ _; refine Below.setCell ?_ (by exact Nat.le_refl _) _; refine Below.setCell ?_ (by exact Nat.le_refl _) _; refine Below.setCell ?_ (by exact Nat.le_refl _) _; refine Below.setCell ?_ (by exact Nat.le_refl _) _; refine Below.setCell ?_ (by exact Nat.le_refl _) _; refine Below.setCell ?_ (by exact Nat.le_refl _) _; refine Below.setCell ?_ (by exact Nat.le_refl _) _; refine Below.setCell ?_ (by exact Nat.le_refl _) _; refine Below.setCell ?_ (by exact Nat.le_refl _) _; refine Below.setCell ?_ (by exact Nat.le_refl _) _; refine Below.setCell ?_ (by exact Nat.le_refl _) _; refine Below.setCell ?_ (by exact Nat.le_refl _) _; refine Below.setCell ?_ (by exact Nat.le_refl _) _; exact HB2.out
    go_wp2
    (try simp only [Exit.inBlock, Exit.then])
    refine bodyPost_ret (v := .tuple #[.agg #[.int .i64 0, .int .i64 0, .int .i64 0, .slice none 0 0, .int .i64 0, .int .i64 0, .int .i64 0, .int .i64 0, .int .i64 0, .int .i64 0, .int .i64 0, .string ⟨#[]⟩, .string ⟨#[]⟩], .int .i64 2]) ?res3 rfl ?post3
    case res3 => exact results_cell_row2 rfl _ _ w.heap.size _ _ _ _ rfl FR.out Tryz.underlying26 rfl (by kernel_rfl) rfl
    exact ParseDone.zero HN.out FB.out

/-- change.Parse. -/
theorem parseCh_any (s : ByteArray) (w : World) (he : Env w) :
    Calls Tryz.prog 6 #[.string s] w fun e w' => ParseDone s.data.toList w e w' := by
  by_cases hs : s.size ≤ 262144
  · exact parseCh_short s hs w he
  · exact parseCh_long s (by omega) w

end Go.Proofs.YtaocjmipjibiaabGreatDoor
