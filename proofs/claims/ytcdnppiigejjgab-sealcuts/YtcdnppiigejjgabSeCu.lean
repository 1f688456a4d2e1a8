/- SealCuts: a frame that is cut short, or has bytes behind it, is refused. -/
import Derived.Test.YtcdnppiigejjgabPlainV
namespace Go.Proofs.Ytcdnppiigejjgab
open Go.RowKit
set_option linter.unusedVariables false

theorem growBy_le (need : Nat) : ∀ rounds c, c ≤ need + (need + 768) / 4 → Builtin.growBy need rounds c ≤ need + (need + 768) / 4 := by
  intro rounds
  induction rounds with
  | zero => intro c h; exact h
  | succ r ih =>
    intro c h
    unfold Builtin.growBy
    split
    · exact h
    · exact ih _ (by omega)
theorem next_fits {need old : Nat} (h : old < need) (hb : need ≤ 180000000000000) : Builtin.nextslicecap need old * 1 ≤ 281474976710656 := by
  unfold Builtin.nextslicecap
  split
  · omega
  · split
    · omega
    · have := growBy_le need 4 old (by omega)
      omega
/-- 'append(out, b...)' past what the library's law allows: out is no nil. -/
theorem run_appL {w : World} {B : Nat} {g cap : Nat} {D p : List UInt8} {ad : Addr} {c : Nat} (ty : TypeId) (hown : OwnB B w (.slice (some ⟨g, 0, none⟩) D.length cap) D) (hB : B ≤ w.heap.size) (hv : IsB w (.slice (some ad) p.length c) p) (hl : D.length + p.length ≤ 180000000000000) :
    ∃ v' w', (Builtin.append_ #[22, 22] ty #[.slice (some ⟨g, 0, none⟩) D.length cap, .slice (some ad) p.length c]).run Try.prog w = .ok v' w' ∧ OwnB B w' v' (D ++ p) ∧ w.grownBy w' (some g) := by
  obtain ⟨i0, hi, hz0, hz1, hz2⟩ := info_parts infoByte
  obtain ⟨a1, c1, e, hc1, hl1, r1⟩ := hv
  cases e
  have hnews : ∀ j u, (cellsB p)[j]? = some u → w.cell? (ad.add j) = some u := by
    intro j u hj
    rcases r1 with rfl | ⟨b, o, e, g⟩
    · simp [cellsB] at hj
    · cases e
      exact g.news j u hj
  have hln : (cellsB p).length = p.length * i0.size := by rw [hz1]; exact cellsB_length p
  have hlo : (cellsB D).length = D.length * i0.size := by rw [hz1]; exact cellsB_length D
  have hcells := hown.cells (g := g) rfl
  rcases hown.2 with ⟨e, _⟩ | ⟨g', cap', cur, e, hbg, hg, hnc, hcm, hcs, htake⟩
  · cases e
  · cases e
    by_cases hroom : D.length + p.length ≤ cap
    · have hfit : D.length * i0.size + (cellsB p).length ≤ cur.size := by rw [hln, hcs, hz1, ← Nat.add_mul]; exact Nat.mul_le_mul_right _ hroom
      have hr := run_append_room (P := Try.prog) w 22 ty 5 i0 Try.underlying22 hi g D.length cap cur hg ad p.length c (cellsB p) hln hnews (cellsB_one p) hroom hfit
      refine ⟨_, _, hr, OwnB.more (n := D.length + p.length) (cs := cellsB D ++ cellsB p) ⟨by simp [cellsB], .inr ⟨g, cap, _, rfl, hbg, setRow_heap w g cur _ 5 _ hg, hroom, hcm, ?_, ?_⟩⟩ rfl rfl, ⟨rfl, rfl, rfl, by simp, fun k _ hk => setRow_other w g k _ (fun e => hk (by simp [e]))⟩⟩
      · simp only [List.size_toArray, List.length_append, List.length_take, List.length_drop, Array.length_toList]
        omega
      · rw [hz1, htake]
        rw [show (D.length + p.length) * 1 = (cellsB D ++ cellsB p).length by simp [cellsB]]
        exact List.take_left
    · have hr := run_append_grow (P := Try.prog) w 22 ty 5 i0 (.int .u8 0) Try.underlying22 hi hz0 ⟨g, 0, none⟩ D.length cap (cellsB D) hlo hcells ad p.length c (cellsB p) hln hnews (by omega) (by omega) (by rw [hz2]; exact next_fits (by omega) hl)
      have hge := grownCap_ge w (D.length + p.length) cap 5
      have hcm2 := grownCap_le_maxLen w (D.length + p.length) cap 5 (by unfold maxLen; omega)
      refine ⟨_, _, hr, OwnB.more (n := D.length + p.length) (cs := cellsB D ++ cellsB p) ⟨by simp [cellsB], .inr ⟨w.heap.size, _, _, rfl, hB, heap_alloc_new w.drew _, hge, hcm2, ?_, ?_⟩⟩ rfl rfl, ⟨rfl, rfl, rfl, by simp, fun k hk _ => heap_alloc_old w.drew _ hk⟩⟩
      · have hzz : (Value.int IntKind.u8 0).cells.size = 1 := rfl
        simp only [Array.size_append, List.size_toArray, size_zeroCells, hzz, cellsB_length]
        omega
      · simp only [Array.toList_append, List.append_assoc]
        rw [← List.append_assoc, show (D.length + p.length) * 1 = (cellsB D ++ cellsB p).length by simp [cellsB]]
        exact List.take_left

/-- The same at a list of operations, b any slice of bytes. -/
theorem wpList_appL {w : World} {ops : Array Oper} {rest : List Oper} {o : Oper} {a : Act} {Q : Exit → Act → World → Prop} (hgd : o.guard = none) (s x : Operand)
    (ho : o.op = .call { callee := .builtin .append, args := #[s, x], argTypes := #[22, 22] })
    (B g cap : Nat) (D : List UInt8) (hs : a.eval s = .slice (some ⟨g, 0, none⟩) D.length cap) (hown : OwnB B w (.slice (some ⟨g, 0, none⟩) D.length cap) D) (hB : B ≤ w.heap.size) (vx : Value) (p : List UInt8) (hx : a.eval x = vx) (hv : IsB w vx p) (hl : D.length + p.length ≤ 180000000000000) (hD : D.length ≤ 140737488355328)
    (h : ∀ v' w', OwnB B w' v' (D ++ p) → w.grownBy w' (some g) → wpList Try.prog ops Q rest (a.put o.dst v') w') : wpList Try.prog ops Q (o :: rest) a w := by
  by_cases hp : p.length = 0
  · obtain rfl : p = [] := List.eq_nil_of_length_eq_zero hp
    exact wpList_appB hgd s x ho B _ D hs hown hB vx [] hx hv (by simpa using hD) h
  · obtain ⟨a1, c1, rfl, hc1, hl1, r1⟩ := hv
    cases a1 with
    | none => exact absurd (by rcases r1 with h | ⟨b, o, h, _⟩; exact congrArg List.length h; cases h) hp
    | some ad =>
      obtain ⟨v', w', hr, h1, h2⟩ := run_appL o.type hown hB ⟨some ad, c1, rfl, hc1, hl1, r1⟩ hl
      refine wpList_plain hgd fun K hK => ?_
      unfold Oper.wp
      simp [execOp, ho, resolve, invoke, builtin, hs, hx, hr, Result.andThen]
      exact hK _ _ (h _ _ h1 h2)

theorem sealL_three (load : List UInt8) (h : load.length ≤ 65536) : sealL 3 load = (frameL 3 load, 0) := by unfold sealL; rw [if_pos (by omega), if_pos h]; rfl
theorem sealL_long (load : List UInt8) (h : ¬ load.length ≤ 65536) : sealL 3 load = ([], 3) := by unfold sealL; rw [if_pos (by omega), if_neg h]
theorem OwnB.someF {B : Nat} {w : World} {v : Value} {D : List UInt8} (h : OwnB B w v D) (hd : D ≠ []) : ∃ g cap, v = .slice (some ⟨g, 0, none⟩) D.length cap ∧ B ≤ g := by
  rcases h.2 with ⟨rfl, hn⟩ | ⟨g, cap, cur, rfl, hg, _⟩
  · exact absurd (List.eq_nil_of_length_eq_zero hn) hd
  · exact ⟨g, cap, rfl, hg⟩
theorem OwnB.cap_le {B : Nat} {w : World} {g cap : Nat} {n : Nat} {D : List UInt8} (h : OwnB B w (.slice (some ⟨g, 0, none⟩) n cap) D) : n ≤ cap := by
  rcases h.2 with ⟨e, _⟩ | ⟨g', cap', cur, e, _, _, hnc, _⟩
  · cases e
  · injection e with _ e1 e2; subst e1 e2; exact hnc

set_option maxRecDepth 100000 in
set_option maxHeartbeats 4000000 in
theorem sealCuts_walk (v : Value) (load : List UInt8) (cut : Int) (u : Value) (more : List UInt8) (w : World) (h1 : IsB w v load) (hcut : (Lit.int IntKind.i64 cut).wf = true) (h2 : IsB w u more) (hm : more.length ≤ 140737488351232) :
    Calls Try.prog 3 #[v, .int .i64 cut, u] w fun e w' => e = .returned (.bool true) ∧ Below w.heap.size w w' := by
  have H1 : Hid (IsB w v load) := h1
  have H2 : Hid (IsB w u more) := h2
  obtain ⟨a1, c1, rfl, hc1, hl1, r1⟩ := h1
  obtain ⟨a2, c2, rfl, hc2, hl2, r2⟩ := h2
  clear r1 r2 hcut
  by_cases hl : load.length ≤ 65536
  · have HS : Hid (sealL 3 load = (frameL 3 load, 0)) := sealL_three load hl
    have hfl := frameL_length 3 load
    have HFL : Hid ((frameL 3 load).length = load.length + 9) := hfl
    have HOS : Hid (openL (frameL 3 load) = (3, load, 0)) := open_seal (by omega) (by omega) hl
    have HCU : Hid (∀ c, c < (frameL 3 load).length → openL ((frameL 3 load).take c) = (0, [], 2)) := fun c hc => cut_open hl hc
    have HMO : Hid (more ≠ [] → openL (frameL 3 load ++ more) = (0, [], 2)) := fun h => more_open hl h
    have HFN : Hid (frameL 3 load ≠ []) := by intro e; rw [e] at hfl; simp at hfl
    generalize frameL 3 load = F at *
    go_enter Try.func3, Try.ntmps3
    go_wp2_with fail
    refine (seal_any 3 _ load _ H1.out).mono ?_
    rintro e w1 ⟨v1, rfl, ho1, hb1⟩
    rw [HS.out] at ho1 ⊢
    simp only at ho1 ⊢
    have HB1 : Hid (Below w.heap.size w w1) := hb1
    obtain ⟨g, cap, rfl, hg⟩ := ho1.someF HFN.out
    have hgc := ho1.cap_le
    have HO1 : Hid (OwnB w.heap.size w1 (.slice (some ⟨g, 0, none⟩) F.length cap) F) := ho1
    have hn1 : F.length ≤ 65545 := by omega
    have hn2 : 9 ≤ F.length := by omega
    have HI1 : Hid (IsB w1 (.slice (some ⟨g, 0, none⟩) F.length cap) F) := ho1.isB (by omega)
    clear ho1 hb1 hfl
    -- WHICH
    by_cases hneg : cut < 0
    · have HHD : Hid (IsB w1 (.slice (some ⟨g, 0, none⟩) 0 cap) (F.take 0)) := HI1.out.head 0 (by omega)
      have HCC : Hid (openL (F.take 0) = (0, [], 2)) := HCU.out 0 (by omega)
      go_wp2_with fail
      refine (open_any _ (F.take 0) _ HHD.out).mono ?_
      rintro e w2 ⟨v2, rfl, ho2, hb2⟩
      rw [HCC.out] at ho2 ⊢
      simp only at ho2 ⊢
      have HB2 : Hid (Below w.heap.size w w2) := HB1.out.trans (hb2.mono HB1.out.size)
      have HI2 : Hid (IsB w2 (.slice (some ⟨g, 0, none⟩) F.length cap) F) := HI1.out.below hb2
      clear ho2 hb2
      go_wp2_with (first
        | (at_builtin; refine wpList_copyE rfl _ _ rfl _ F rfl rfl HI2.out (by omega) ?_; intro v3 w3 ho3 hb3; obtain ⟨g3, cap3, rfl, hg3⟩ := ho3.someF HFN.out; have HO3 : Hid (OwnB w2.heap.size w3 (.slice (some ⟨g3, 0, none⟩) F.length cap3) F) := ho3; have HB23 : Hid (Below w2.heap.size w2 w3) := hb3; have HB3 : Hid (Below w.heap.size w w3) := HB2.out.trans (hb3.mono HB2.out.size); have hs3 := HB23.out.size; clear ho3 hb3)
        | (at_builtin; refine wpList_appL rfl _ _ rfl w2.heap.size g3 cap3 F rfl HO3.out hs3 _ more rfl (H2.out.below HB3.out) (by omega) (by omega) ?_; intro v4 w4 ho4 hg4; have HO4 : Hid (OwnB w2.heap.size w4 v4 (F ++ more)) := ho4; have HB4 : Hid (Below w.heap.size w w4) := HB3.out.grown hg4 HB3.out.size (fun k e => by cases e; have := HB2.out.size; omega); clear ho4 hg4))
      refine (open_any _ (F ++ more) _ (HO4.out.isB (by rw [List.length_append]; omega))).mono ?_
      rintro e w5 ⟨v5, rfl, ho5, hb5⟩
      have HB5 : Hid (Below w.heap.size w w5) := HB4.out.trans (hb5.mono HB4.out.size)
      clear ho5 hb5
      by_cases hmo : more = []
      · have HOM : Hid (openL (F ++ more) = (3, load, 0)) := by show _ = _; rw [hmo, List.append_nil]; exact HOS.out
        have q3 : more.length = 0 := by rw [hmo]; rfl
        rw [HOM.out, q3]
        simp only
        clear hmo
        go_wp2_with (go_at_call 5; refine (awake_any _).mono ?_; rintro e w6 ⟨rfl, hb6⟩)
        go_ret
        exact ⟨rfl, HB5.out.trans (hb6.mono HB5.out.size)⟩
      · have q3 : (0 : Int) < (more.length : Int) := by have := List.length_pos_iff.2 hmo; omega
        rw [HMO.out hmo]
        simp only
        clear hmo
        go_wp2_with (go_at_call 5; refine (awake_any _).mono ?_; rintro e w6 ⟨rfl, hb6⟩)
        go_ret
        exact ⟨rfl, HB5.out.trans (hb6.mono HB5.out.size)⟩
    · obtain ⟨k, rfl⟩ := Int.eq_ofNat_of_zero_le (show 0 ≤ cut by omega)
      have q0 : ¬ ((k : Int) < 0) := by omega
      by_cases hbig : F.length ≤ k
      · have q1 : (F.length : Int) ≤ (k : Int) := by omega
        have HHD : Hid (IsB w1 (.slice (some ⟨g, 0, none⟩) 0 cap) (F.take 0)) := HI1.out.head 0 (by omega)
        have HCC : Hid (openL (F.take 0) = (0, [], 2)) := HCU.out 0 (by omega)
        go_wp2_with fail
        refine (open_any _ (F.take 0) _ HHD.out).mono ?_
        rintro e w2 ⟨v2, rfl, ho2, hb2⟩
        rw [HCC.out] at ho2 ⊢
        simp only at ho2 ⊢
        have HB2 : Hid (Below w.heap.size w w2) := HB1.out.trans (hb2.mono HB1.out.size)
        have HI2 : Hid (IsB w2 (.slice (some ⟨g, 0, none⟩) F.length cap) F) := HI1.out.below hb2
        clear ho2 hb2
        go_wp2_with (first
          | (at_builtin; refine wpList_copyE rfl _ _ rfl _ F rfl rfl HI2.out (by omega) ?_; intro v3 w3 ho3 hb3; obtain ⟨g3, cap3, rfl, hg3⟩ := ho3.someF HFN.out; have HO3 : Hid (OwnB w2.heap.size w3 (.slice (some ⟨g3, 0, none⟩) F.length cap3) F) := ho3; have HB23 : Hid (Below w2.heap.size w2 w3) := hb3; have HB3 : Hid (Below w.heap.size w w3) := HB2.out.trans (hb3.mono HB2.out.size); have hs3 := HB23.out.size; clear ho3 hb3)
          | (at_builtin; refine wpList_appL rfl _ _ rfl w2.heap.size g3 cap3 F rfl HO3.out hs3 _ more rfl (H2.out.below HB3.out) (by omega) (by omega) ?_; intro v4 w4 ho4 hg4; have HO4 : Hid (OwnB w2.heap.size w4 v4 (F ++ more)) := ho4; have HB4 : Hid (Below w.heap.size w w4) := HB3.out.grown hg4 HB3.out.size (fun k e => by cases e; have := HB2.out.size; omega); clear ho4 hg4))
        refine (open_any _ (F ++ more) _ (HO4.out.isB (by rw [List.length_append]; omega))).mono ?_
        rintro e w5 ⟨v5, rfl, ho5, hb5⟩
        have HB5 : Hid (Below w.heap.size w w5) := HB4.out.trans (hb5.mono HB4.out.size)
        clear ho5 hb5
        by_cases hmo : more = []
        · have HOM : Hid (openL (F ++ more) = (3, load, 0)) := by show _ = _; rw [hmo, List.append_nil]; exact HOS.out
          have q3 : more.length = 0 := by rw [hmo]; rfl
          rw [HOM.out, q3]
          simp only
          clear hmo
          go_wp2_with (go_at_call 5; refine (awake_any _).mono ?_; rintro e w6 ⟨rfl, hb6⟩)
          go_ret
          exact ⟨rfl, HB5.out.trans (hb6.mono HB5.out.size)⟩
        · have q3 : (0 : Int) < (more.length : Int) := by have := List.length_pos_iff.2 hmo; omega
          rw [HMO.out hmo]
          simp only
          clear hmo
          go_wp2_with (go_at_call 5; refine (awake_any _).mono ?_; rintro e w6 ⟨rfl, hb6⟩)
          go_ret
          exact ⟨rfl, HB5.out.trans (hb6.mono HB5.out.size)⟩
      · have q1 : ¬ (F.length : Int) ≤ (k : Int) := by omega
        have q2 : (k : Int) ≤ (cap : Int) := by omega
        have q4 : (0 : Int) ≤ (k : Int) := by omega
        have HHD : Hid (IsB w1 (.slice (some ⟨g, 0, none⟩) k cap) (F.take k)) := HI1.out.head k (by omega)
        have HCC : Hid (openL (F.take k) = (0, [], 2)) := HCU.out k (by omega)
        go_wp2_with fail
        refine (open_any _ (F.take k) _ HHD.out).mono ?_
        rintro e w2 ⟨v2, rfl, ho2, hb2⟩
        rw [HCC.out] at ho2 ⊢
        simp only at ho2 ⊢
        have HB2 : Hid (Below w.heap.size w w2) := HB1.out.trans (hb2.mono HB1.out.size)
        have HI2 : Hid (IsB w2 (.slice (some ⟨g, 0, none⟩) F.length cap) F) := HI1.out.below hb2
        clear ho2 hb2
        go_wp2_with (first
          | (at_builtin; refine wpList_copyE rfl _ _ rfl _ F rfl rfl HI2.out (by omega) ?_; intro v3 w3 ho3 hb3; obtain ⟨g3, cap3, rfl, hg3⟩ := ho3.someF HFN.out; have HO3 : Hid (OwnB w2.heap.size w3 (.slice (some ⟨g3, 0, none⟩) F.length cap3) F) := ho3; have HB23 : Hid (Below w2.heap.size w2 w3) := hb3; have HB3 : Hid (Below w.heap.size w w3) := HB2.out.trans (hb3.mono HB2.out.size); have hs3 := HB23.out.size; clear ho3 hb3)
          | (at_builtin; refine wpList_appL rfl _ _ rfl w2.heap.size g3 cap3 F rfl HO3.out hs3 _ more rfl (H2.out.below HB3.out) (by omega) (by omega) ?_; intro v4 w4 ho4 hg4; have HO4 : Hid (OwnB w2.heap.size w4 v4 (F ++ more)) := ho4; have HB4 : Hid (Below w.heap.size w w4) := HB3.out.grown hg4 HB3.out.size (fun k e => by cases e; have := HB2.out.size; omega); clear ho4 hg4))
        refine (open_any _ (F ++ more) _ (HO4.out.isB (by rw [List.length_append]; omega))).mono ?_
        rintro e w5 ⟨v5, rfl, ho5, hb5⟩
        have HB5 : Hid (Below w.heap.size w w5) := HB4.out.trans (hb5.mono HB4.out.size)
        clear ho5 hb5
        by_cases hmo : more = []
        · have HOM : Hid (openL (F ++ more) = (3, load, 0)) := by show _ = _; rw [hmo, List.append_nil]; exact HOS.out
          have q3 : more.length = 0 := by rw [hmo]; rfl
          rw [HOM.out, q3]
          simp only
          clear hmo
          go_wp2_with (go_at_call 5; refine (awake_any _).mono ?_; rintro e w6 ⟨rfl, hb6⟩)
          go_ret
          exact ⟨rfl, HB5.out.trans (hb6.mono HB5.out.size)⟩
        · have q3 : (0 : Int) < (more.length : Int) := by have := List.length_pos_iff.2 hmo; omega
          rw [HMO.out hmo]
          simp only
          clear hmo
          go_wp2_with (go_at_call 5; refine (awake_any _).mono ?_; rintro e w6 ⟨rfl, hb6⟩)
          go_ret
          exact ⟨rfl, HB5.out.trans (hb6.mono HB5.out.size)⟩
  · have HS : Hid (sealL 3 load = ([], 3)) := sealL_long load hl
    have q1 : (65536 : Int) < (load.length : Int) := by omega
    go_enter Try.func3, Try.ntmps3
    go_wp2_with fail
    refine (seal_any 3 _ load _ H1.out).mono ?_
    rintro e w1 ⟨v1, rfl, ho1, hb1⟩
    rw [HS.out] at ho1 ⊢
    simp only at ho1 ⊢
    have HB1 : Hid (Below w.heap.size w w1) := hb1
    clear ho1 hb1
    go_wp2_with (go_at_call 5; refine (awake_any _).mono ?_; rintro e w5 ⟨rfl, hb5⟩)
    go_ret
    exact ⟨rfl, HB1.out.trans (hb5.mono HB1.out.size)⟩

end Go.Proofs.Ytcdnppiigejjgab
