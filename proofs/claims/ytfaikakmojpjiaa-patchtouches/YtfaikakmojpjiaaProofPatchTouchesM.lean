/- PatchTouches of package topiarylaw17 is proved at this commit: for every input (a list of steps, any) the call returns true and the arguments read as they did. No condition. -/
import Derived.Test.YtfaikakmojpjiaaPaO
import Derived.Test.YtfaikakmojpjiaaSrtB
import Derived.Test.YtfaikakmojpjiaaVtV
import Derived.Deep.AppendLies
import Derived.Test.YtfaikakmojpjiaaBasePp
namespace Go.Proofs.Ytfaikakmojpjiaa
open Go.RowKit Go.Shelf
set_option linter.unusedVariables false
set_option linter.unusedSimpArgs false

theorem kcells_len (x : St) : (stCells x).length = 2 := rfl
/-- A row of stamps of one's own is a list that came in, in the other words. -/
theorem isS_of_own {B : Nat} {w : World} {v : Value} {D : List St} (h : OwnSt B w v D) (hl : D.length ≤ 8796093022208) : S.IsS w v D := S.OwnS.isS (B := B) h hl
set_option maxRecDepth 100000 in
set_option maxHeartbeats 4000000 in
theorem touched_any {G : Nat → Prop} (L : List Pa) (v : Value) (w : World) (h : LsE paCells 9 G w v L) : Calls Try.prog 18 #[v] w fun e w' => ∃ v', e = .returned v' ∧ S.IsS w' v' (S.sortL (L.map Pa.k)) ∧ Below w.heap.size w w' := by
  obtain ⟨a1, c1, e1, hc1, hl1, r1⟩ := h
  subst e1
  obtain ⟨i0, hin, hz0, hz1, hz2⟩ := info_parts infoSk
  have HR1 := hide9 r1
  clear r1 hc1
  go_enter Try.func18, Try.ntmps18
  go_wp2
  go_loopw [3, 8] (fun sv iv wr => ∃ (i : Nat) (ao : Option Addr) (c : Nat), iv = .int .i64 (i : Int) ∧ i ≤ L.length ∧ sv = .slice ao i c ∧ Hid (OwnSt w.heap.size wr (.slice ao i c) ((L.take i).map Pa.k)) ∧ Hid (Below w.heap.size w wr)) (fun _ iv _ => L.length - (intOf iv).toNat)
  case atStart => exact ⟨0, _, _, rfl, Nat.zero_le _, rfl, OwnE.nil0 _ _, Below.refl _ _⟩
  case round =>
    obtain ⟨i, gs, cs, rfl, hil, rfl, HR, HBr⟩ := hrel
    by_cases hlt : i < L.length
    · obtain ⟨lb, lo, e9, _, hlbl, hcs⟩ := HR1.out.resolve_left (fun e => by rw [e] at hlt; simp at hlt)
      obtain ⟨p, ep⟩ : ∃ p, p = L[i] := ⟨_, rfl⟩
      have hcp : ∀ j u, (paCells p)[j]? = some u → wr.cell? ⟨lb, lo + i * 9 + j, none⟩ = some u := fun j u hj => (HBr.out.cell (p := ⟨lb, _, none⟩) hlbl).trans (hcs i hlt j u (by rw [← ep]; exact hj))
      subst e9
      have hsn : (L.take (i + 1)).map Pa.k = (L.take i).map Pa.k ++ [p.k] := (by rw [List.take_succ_eq_append_getElem hlt, List.map_append, ep]; rfl)
      have hDl : ((L.take i).map Pa.k).length = i := (by rw [List.length_map, List.length_take]; omega)
      obtain ⟨D, eD⟩ : ∃ D, D = (L.take i).map Pa.k := ⟨_, rfl⟩
      rw [← eD] at hsn hDl HR
      have Hsn := hide9 hsn
      have HDl := hide9 hDl
      have q0 : wr.cell? ⟨lb, lo + i * 9, none⟩ = some (.int .i64 p.kd) := hcp 0 _ rfl
      have q1 : wr.cell? ⟨lb, lo + i * 9 + 1, none⟩ = some (.int .i64 p.k.1) := hcp 1 _ rfl
      have q2 : wr.cell? ⟨lb, lo + i * 9 + 2, none⟩ = some (.int .i64 p.k.2) := hcp 2 _ rfl
      have q3 : wr.cell? ⟨lb, lo + i * 9 + 3, none⟩ = some (.int .i64 p.pa.1) := hcp 3 _ rfl
      have q4 : wr.cell? ⟨lb, lo + i * 9 + 4, none⟩ = some (.int .i64 p.pa.2) := hcp 4 _ rfl
      have q5 : wr.cell? ⟨lb, lo + i * 9 + 5, none⟩ = some (.int .i64 p.af.1) := hcp 5 _ rfl
      have q6 : wr.cell? ⟨lb, lo + i * 9 + 6, none⟩ = some (.int .i64 p.af.2) := hcp 6 _ rfl
      have q7 : wr.cell? ⟨lb, lo + i * 9 + 7, none⟩ = some (.string p.nm) := hcp 7 _ rfl
      have q8 : wr.cell? ⟨lb, lo + i * 9 + 8, none⟩ = some (.string p.vl) := hcp 8 _ rfl
      obtain ⟨w4, ew4⟩ : ∃ X, X = (wr.alloc (.cells #[.int .i64 p.kd, .int .i64 p.k.1, .int .i64 p.k.2, .int .i64 p.pa.1, .int .i64 p.pa.2, .int .i64 p.af.1, .int .i64 p.af.2, .string p.nm, .string p.vl] 25)).alloc (.cells #[.int .i64 p.k.1, .int .i64 p.k.2] 23) := ⟨_, rfl⟩
      have Hw4 := hide9 ew4
      have hb4 : Below wr.heap.size wr w4 := (by rw [ew4]; exact ((Below.refl _ _).alloc (Nat.le_refl _) _).alloc (by simp) _)
      have hT4 : w4.heap[wr.heap.size + 1]? = some (.cells #[.int .i64 p.k.1, .int .i64 p.k.2] 23) := (by
        rw [ew4]
        have h9 := heap_alloc_new (wr.alloc (.cells #[.int .i64 p.kd, .int .i64 p.k.1, .int .i64 p.k.2, .int .i64 p.pa.1, .int .i64 p.pa.2, .int .i64 p.af.1, .int .i64 p.af.2, .string p.nm, .string p.vl] 25)) (.cells #[.int .i64 p.k.1, .int .i64 p.k.2] 23)
        rw [show (wr.alloc (.cells #[.int .i64 p.kd, .int .i64 p.k.1, .int .i64 p.k.2, .int .i64 p.pa.1, .int .i64 p.pa.2, .int .i64 p.af.1, .int .i64 p.af.2, .string p.nm, .string p.vl] 25)).heap.size = wr.heap.size + 1 by simp] at h9
        exact h9)
      have hbx : (wr.alloc (.cells #[.int .i64 p.kd, .int .i64 p.k.1, .int .i64 p.k.2, .int .i64 p.pa.1, .int .i64 p.pa.2, .int .i64 p.af.1, .int .i64 p.af.2, .string p.nm, .string p.vl] 25)).heap[wr.heap.size]? = some (.cells #[.int .i64 p.kd, .int .i64 p.k.1, .int .i64 p.k.2, .int .i64 p.pa.1, .int .i64 p.pa.2, .int .i64 p.af.1, .int .i64 p.af.2, .string p.nm, .string p.vl] 25) := heap_alloc_new _ _
      have x1 : (wr.alloc (.cells #[.int .i64 p.kd, .int .i64 p.k.1, .int .i64 p.k.2, .int .i64 p.pa.1, .int .i64 p.pa.2, .int .i64 p.af.1, .int .i64 p.af.2, .string p.nm, .string p.vl] 25)).cell? ⟨wr.heap.size, 1, none⟩ = some (.int .i64 p.k.1) := (by rw [cell_of_row _ _ _ _ _ _ hbx]; rfl)
      have x2 : (wr.alloc (.cells #[.int .i64 p.kd, .int .i64 p.k.1, .int .i64 p.k.2, .int .i64 p.pa.1, .int .i64 p.pa.2, .int .i64 p.af.1, .int .i64 p.af.2, .string p.nm, .string p.vl] 25)).cell? ⟨wr.heap.size, 2, none⟩ = some (.int .i64 p.k.2) := (by rw [cell_of_row _ _ _ _ _ _ hbx]; rfl)
      have HT4 := hide9 hT4
      have HR4 := hide9 (OwnE.below HR.out hb4)
      have HB4 : Hid (Below w.heap.size w w4) := HBr.out.trans (hb4.mono HBr.out.size)
      have k1 : (i : Int) < (L.length : Int) := by omega
      have k0 : (0 : Int) ≤ (i : Int) := by omega
      clear ew4 hb4 hT4 HR eD hsn hDl hcs hcp ep hbx
      go_wp2_with (at_builtin; refine Stp.to ?_)
      refine Stp.of ?_
      rw [← Hw4.out]
      clear q0 q1 q2 q3 q4 q5 q6 q7 q8 x1 x2 Hw4
      refine wpList_append_lies w4 rfl _ _ 42 rfl w.heap.size 23 i0 (.agg #[.int .i64 0, .int .i64 0]) 2 16 Try.underlying42 hin hz0 hz1 hz2 rfl (by decide) (.slice gs i cs) i (flatE stCells D) rfl (by have h9 : w4.ownsRow w.heap.size 23 2 (.slice gs i cs) D.length (flatE stCells D) := HR4.out; rw [HDl.out] at h9; exact h9) ⟨wr.heap.size + 1, 0, none⟩ 1 1 (stCells p.k) rfl rfl (World.news_of_block HT4.out) (fun y hy => by simp [stCells] at hy; rcases hy with rfl | rfl <;> rfl) (by decide) (by unfold maxLen; omega) (by omega) HB4.out.size w4.heap.size rfl ?_
      intro g5 c5 w5 hown5 hgr5 hat5 hlt5
      have HB5 : Hid (Below w.heap.size w w5) := HB4.out.trans ((Touch.of_grown (F := fun k => (Value.slice gs i cs).ownBlock = some k) hgr5 (fun k e _ => e)).below (fun k q => (OwnE.lt HR4.out k q).1) HB4.out.size)
      have HR5 : Hid (OwnSt w.heap.size w5 (.slice (some ⟨g5, 0, none⟩) (i + 1) c5) ((L.take (i + 1)).map Pa.k)) := (by show OwnSt _ _ _ _; rw [Hsn.out]; exact OwnE.snoc rfl (by rw [HDl.out]; exact hown5))
      clear hown5 hgr5 hat5 hlt5 HR4 HB4 HT4
      go_wp2
      go_roundw
      case rel => exact ⟨i + 1, _, c5, by go_num, by omega, rfl, HR5, HB5⟩
      case measure => simp [intOf]; omega
    · obtain rfl : i = L.length := by omega
      have k1 : ¬ (L.length : Int) < (L.length : Int) := by omega
      have hs := HBr.out.size
      have HF := hide9 HR.out
      rw [List.take_length] at HF
      clear HR
      go_wp2_with fail
      refine (S.sort_any _ (L.map Pa.k) _ (isS_of_own HF.out (by rw [List.length_map]; exact hl1))).mono ?_
      rintro e w5 ⟨v5, rfl, h5, hb5⟩
      have HV := hide9 h5
      have HB5 : Hid (Below w.heap.size w w5) := HBr.out.trans (hb5.mono HBr.out.size)
      clear h5 hb5 HF
      have hlen : (S.sortL (L.map Pa.k)).length ≤ 8796093022208 := by
        have h8 := S.sortL_length (L.map Pa.k) (L.map Pa.k).length (Nat.le_refl _)
        rw [List.take_length, List.length_map] at h8
        omega
      have HLn := hide9 hlen
      clear hlen
      go_wp2
      go_ret
      exact ⟨_, rfl, S.OwnS.isS HV.out HLn.out, HB5.out⟩

set_option maxRecDepth 100000 in
set_option maxHeartbeats 4000000 in
theorem refTouched_any {G : Nat → Prop} (L : List Pa) (v : Value) (w : World) (h : LsE paCells 9 G w v L) : Calls Try.prog 19 #[v] w fun e w' => ∃ v', e = .returned v' ∧ S.IsS w' v' (S.sortL (L.map Pa.k)) ∧ Below w.heap.size w w' := by
  obtain ⟨a1, c1, e1, hc1, hl1, r1⟩ := h
  subst e1
  have HR1 := hide9 r1
  clear r1 hc1
  go_enter Try.func19, Try.ntmps19
  go_wp2
  go_loopw [3, 4] (fun ov iv wr => ∃ (i : Nat) (ao : Option Addr) (co : Nat), i ≤ L.length ∧ iv = .int .i64 (i : Int) ∧ ov = .slice ao (S.sortL ((L.map Pa.k).take i)).length co ∧ Hid (S.IsS wr (.slice ao (S.sortL ((L.map Pa.k).take i)).length co) (S.sortL ((L.map Pa.k).take i))) ∧ Hid (Below w.heap.size w wr)) (fun _ iv _ => L.length - (intOf iv).toNat)
  case atStart => exact ⟨0, _, _, Nat.zero_le _, rfl, rfl, S.isS_empty _ _, (Below.refl _ _).alloc (Nat.le_refl _) _⟩
  case round =>
    obtain ⟨i, ao, co, hil, rfl, rfl, HO, HBr⟩ := hrel
    by_cases hlt : i < L.length
    · obtain ⟨lb, lo, e9, _, hlbl, hcs⟩ := HR1.out.resolve_left (fun e => by rw [e] at hlt; simp at hlt)
      obtain ⟨p, ep⟩ : ∃ p, p = L[i] := ⟨_, rfl⟩
      have hcp : ∀ j u, (paCells p)[j]? = some u → wr.cell? ⟨lb, lo + i * 9 + j, none⟩ = some u := fun j u hj => (HBr.out.cell (p := ⟨lb, _, none⟩) hlbl).trans (hcs i hlt j u (by rw [← ep]; exact hj))
      subst e9
      have hl8 : i < (L.map Pa.k).length := by rw [List.length_map]; exact hlt
      have NX : Hid (S.sortL ((L.map Pa.k).take (i + 1)) = S.putL (S.sortL ((L.map Pa.k).take i)) (p.k.1, p.k.2)) := by
        have h9 := S.sortL_next (L.map Pa.k) i hl8
        rw [List.getElem_map, ← ep] at h9
        exact h9
      have hlen := S.sortL_length (L.map Pa.k) i (Nat.le_of_lt hl8)
      have q1 : wr.cell? ⟨lb, lo + i * 9 + 1, none⟩ = some (.int .i64 p.k.1) := hcp 1 _ rfl
      have q2 : wr.cell? ⟨lb, lo + i * 9 + 2, none⟩ = some (.int .i64 p.k.2) := hcp 2 _ rfl
      have k1 : (i : Int) < (L.length : Int) := by omega
      have k0 : (0 : Int) ≤ (i : Int) := by omega
      have hlm : L.length ≤ 8796093022208 := hl1
      obtain ⟨D, eD⟩ : ∃ D, D = S.sortL ((L.map Pa.k).take i) := ⟨_, rfl⟩
      rw [← eD] at NX hlen HO ⊢
      have hln : D.length < 8796093022208 := by omega
      have HLn := hide9 hln
      clear eD hcs hcp ep hl8 hln hlen
      go_wp2_with fail
      refine (S.put_any _ D _ _ _ HO.out HLn.out).mono ?_
      rintro e w2 ⟨v2, rfl, h2, hb2⟩
      have HV : Hid (S.IsS w2 v2 (S.putL D (p.k.1, p.k.2))) := h2
      obtain ⟨a2, c2, e2⟩ := h2.form
      have HB2 : Hid (Below w.heap.size w w2) := HBr.out.trans (hb2.mono HBr.out.size)
      clear h2 hb2
      subst e2
      go_wp2
      go_roundw
      case rel => exact ⟨i + 1, a2, c2, by omega, by go_num, by rw [NX.out], by rw [NX.out]; exact HV, HB2⟩
      case measure => simp [intOf]; omega
    · obtain rfl : i = L.length := by omega
      have k1 : ¬ (L.length : Int) < (L.length : Int) := by omega
      have e : (L.map Pa.k).take L.length = L.map Pa.k := List.take_of_length_le (by rw [List.length_map]; exact Nat.le_refl _)
      rw [e] at HO ⊢
      clear e
      go_wp2
      go_ret
      exact ⟨_, rfl, HO.out, HBr.out⟩

end Go.Proofs.Ytfaikakmojpjiaa

namespace Go.Proofs.Ytfaikakmojpjiaa
open Go.RowKit
set_option linter.unusedVariables false
set_option linter.unusedSimpArgs false

set_option maxRecDepth 100000 in
set_option maxHeartbeats 4000000 in
theorem patchTouches_ls (L : List Pa) (v : Value) (w : World) (h : LsE paCells 9 (fun _ => True) w v L) : Calls Try.prog 5 #[v] w fun e w' => e = .returned (.bool true) ∧ Below w.heap.size w w' := by
  have HI := hide9 h
  have HB : Hid (Below w.heap.size w w) := Below.refl _ _
  obtain ⟨D, eD⟩ : ∃ D, D = S.sortL (L.map Pa.k) := ⟨_, rfl⟩
  have HD := hide9 eD
  obtain ⟨a1, c1, e1⟩ := LsE.form h
  subst e1
  clear h eD
  go_enter Try.func5, Try.ntmps5
  go_wp2_with fail
  refine (touched_any L _ _ HI.out).mono ?_
  rintro e w1 ⟨va, rfl, ha, hb⟩
  rw [← HD.out] at ha
  obtain ⟨aa, ca, ea⟩ := S.IsS.form ha
  subst ea
  have Ha := hide9 ha
  replace HI := hide9 (HI.out.below hb)
  replace HB : Hid (Below w.heap.size w w1) := HB.out.trans (hb.mono HB.out.size)
  clear ha hb
  go_wp2_with fail
  refine (refTouched_any L _ _ HI.out).mono ?_
  rintro e w2 ⟨vq, rfl, hq, hb⟩
  rw [← HD.out] at hq
  obtain ⟨aq, cq, eq⟩ := S.IsS.form hq
  subst eq
  have Hq := hide9 hq
  replace HI := hide9 (HI.out.below hb)
  replace Ha := hide9 (Ha.out.below hb)
  replace HB : Hid (Below w.heap.size w w2) := HB.out.trans (hb.mono HB.out.size)
  clear hq hb
  go_wp2_with fail
  refine (S.same_any _ _ D D _ Ha.out Hq.out).mono ?_
  rintro e w3 ⟨rfl, hb⟩
  rw [show decide (D = D) = true from decide_eq_true rfl]
  replace HB : Hid (Below w.heap.size w w3) := HB.out.trans (hb.mono HB.out.size)
  clear hb
  go_wp2_with fail
  refine (awake_pa _).mono ?_
  rintro e w4 ⟨rfl, hb⟩
  replace HB : Hid (Below w.heap.size w w4) := HB.out.trans (hb.mono HB.out.size)
  clear hb
  go_wp2
  (try rw [Exit.noGoto_ret])
  go_ret
  exact ⟨rfl, HB.out⟩
theorem patchTouches_any (v : Value) (L : List Pa) (w : World) (h : IsPp w v L) : Calls Try.prog 5 #[v] w fun e w' => e = .returned (.bool true) ∧ Below w.heap.size w w' := patchTouches_ls L v w h.1

end Go.Proofs.Ytfaikakmojpjiaa

namespace Go.Proofs.Ytfaikakmojpjiaa
open Go.ChangeShapes Go.WideShapes Go.ChangeAt Go.RowKit
open Go.ChangeMaps (open_string shut_string)
set_option linter.unusedVariables false

set_option maxRecDepth 100000 in
theorem patchTouches_lifted (os : Os) (started : os.Started) (H : Type) (enc : TypeId × Value → H) :
    ReturnsInHanded {} Try.checked os 5 .any (Rows.patchTouchesSpec.pre6 enc Try.prog Try.f5 Rows.patchTouchesRow.domain false) (Rows.patchTouchesSpec.post enc Try.prog Try.f5 false true false false) := by
  refine returnsInHanded_of_change_sized (C := Try.checked) ownI started (by kernel_rfl) Try.func5
    (ChangeSpec.witness6 (enc := enc) (C := Try.checked) false ⟨#[], #[.slice none 0 0], []⟩ 8 (by kernel_rfl) (by kernel_rfl) (by kernel_rfl) (by kernel_rfl)) ?_
  intro W base args ds gs before hval0 hW _ hsz0 _
  have hval : ∀ (j : Nat) t v, Try.f5.params[j]? = some t → args[j]? = some v → Value.okWide Try.prog W .any base t v := hval0
  have hW' := hW
  obtain ⟨p, q, hA0, hV, rfl, hfz, hnd⟩ := hW
  have hA : DataW.TrodAll enc Try.prog W 0 (fun _ => true) true Try.f5.params.toList args.toList ds p := hA0
  rw [Try.params5] at hA hval
  obtain ⟨v0, d0, rfl, rfl, h0⟩ := trodAll_one hA
  obtain ⟨rfl, rfl⟩ := trodVars_none hV
  have hk0 := h0
  have hsz : (DataW.weightsEach Try.prog (Try.f5.params.toList ++ Rows.patchTouchesSpec.plain.varTypes Try.prog) (_ ++ _)).all (· ≤ reachBytes) = true := hsz0
  rw [Try.params5] at hsz
  have hw0 : ∀ n ∈ d0.weights Try.prog 34, n ≤ reachBytes := fun n hn => by
    have h1 := List.all_eq_true.1 hsz n (DataW.weights_mem_each (j := 0) rfl rfl n hn)
    simpa using h1
  obtain ⟨D0, is0⟩ := open_patchesV (hval 0 34 v0 rfl rfl) h0 hw0
  have hlt0 : ∀ x ∈ p, x.block < W.heap.size := fun x hx => by simpa using hW'.lt x (by simp [hx])
  clear hA0 hval0
  refine (patchTouches_any v0 D0 W is0).mono fun e W' ⟨he, bel⟩ => ?_
  subst he
  exact ⟨_, rfl, _, _, _, [], _, [], hW', trodAll_mk1 (shut_bool Try.underlying4 _), trodAll_mk1 (Below.trod laidOutI (by kernel_rfl) (of_decide_eq_true (by kernel_rfl)) hk0 bel hlt0), rfl, bel.frame _, fun h => by cases h⟩

theorem patchTouches_holds : Rows.PatchTouchesSaid :=
  OpenClaim.holds_of_wide 5 Try.f5 rfl rfl rfl rfl rfl rfl rfl ⟨rfl, rfl, rfl, rfl, rfl⟩ rfl rfl rfl rfl rfl (by kernel_rfl) Try.func5 (by kernel_rfl)
    (of_decide_eq_true (by kernel_rfl)) (by unfold Func.isWrapper; first | (rw [if_pos (by decide +kernel)]; kernel_rfl) | (rw [if_neg (by decide +kernel)]; exact ⟨rfl, rfl⟩))
    (fun os started H enc _ => patchTouches_lifted os started H enc)
#print axioms patchTouches_holds
end Go.Proofs.Ytfaikakmojpjiaa
