/- What Take tells. -/
import Derived.Test.YthndgmnckpimmaaCaF
namespace Go.Proofs.Ythndgmnckpimmaa
open Go.RowKit
set_option linter.unusedVariables false
set_option linter.unusedSimpArgs false

instance (c d : Ch) : Decidable (ltC c d) := by unfold ltC; infer_instance
/-- A change among those that are held. -/
def insC : List Ch → Ch → List Ch
  | [], c => [c]
  | d :: t, c => if ltC c d then c :: d :: t else d :: insC t c
/-- What Take tells: what is held then, what comes, the error. -/
def newH (H : List Ch) (kn : List Int) (c : Ch) : Int := if checkL kn ≠ 0 then checkL kn else if checkCh c ≠ 0 then checkCh c else if (ownC H c.ar c.seq).isSome = true ∨ withinB c kn = true then 5 else 0
def takeR (room : Int) (H : List Ch) (kn : List Int) (c : Ch) : List Ch × List Ch × Int :=
  if newH H kn c ≠ 0 then (H, [], newH H kn c) else if readyB kn c = true then ((runL H.length (tickR kn c.ar) H).2, c :: (runL H.length (tickR kn c.ar) H).1, 0) else if room ≤ (H.length : Int) then (H, [], 6) else (insC H c, [], 0)
theorem insC_perm (c : Ch) : ∀ L : List Ch, (insC L c).Perm (c :: L)
  | [] => List.Perm.refl _
  | d :: t => by
    unfold insC
    split
    · exact List.Perm.refl _
    · exact ((insC_perm c t).cons d).trans (List.Perm.swap c d t)
theorem insC_srt {c : Ch} : ∀ {L : List Ch}, SrtC L → (∀ x ∈ L, ¬ (x.ar = c.ar ∧ x.seq = c.seq)) → SrtC (insC L c)
  | [], _, _ => List.pairwise_singleton _ _
  | d :: t, h, hn => by
    have h0 := h
    unfold SrtC at h
    rw [List.pairwise_cons] at h
    unfold insC
    split
    · rename_i hlt
      refine List.pairwise_cons.2 ⟨fun x hx => ?_, h0⟩
      rcases List.mem_cons.1 hx with rfl | hx
      · exact hlt
      · have := h.1 x hx
        unfold ltC at *
        omega
    · rename_i hlt
      refine List.pairwise_cons.2 ⟨fun x hx => ?_, insC_srt h.2 fun x hx => hn x (List.mem_cons_of_mem _ hx)⟩
      rcases List.mem_cons.1 ((insC_perm c t).mem_iff.1 hx) with rfl | hx
      · have := hn d (List.mem_cons_self ..)
        unfold ltC at *
        omega
      · exact h.1 x hx
theorem own_get {D : List (Ch × Value)} {H : List Ch} (hp : (D.map Prod.fst).Perm H) (r s : Int) : (ownC H r s).isSome = (getP D r s).isSome := by
  rw [Bool.eq_iff_iff]
  unfold ownC getP
  simp only [List.find?_isSome]
  constructor
  · rintro ⟨x, hx, h⟩
    obtain ⟨y, hy, rfl⟩ := List.mem_map.1 (hp.mem_iff.2 hx)
    exact ⟨y, hy, h⟩
  · rintro ⟨y, hy, h⟩
    exact ⟨y.1, hp.mem_iff.1 (List.mem_map_of_mem hy), h⟩
theorem newH_eq {D : List (Ch × Value)} {H : List Ch} (hp : (D.map Prod.fst).Perm H) (kn : List Int) (c : Ch) : newE D kn c = newH H kn c := by
  unfold newE newH
  rw [own_get hp]
theorem newH_ok {H : List Ch} {kn : List Int} {c : Ch} (h : newH H kn c = 0) : OkC kn ∧ checkCh c = 0 ∧ ownC H c.ar c.seq = none ∧ withinB c kn = false := by
  unfold newH at h
  split at h
  · contradiction
  · rename_i h1
    split at h
    · contradiction
    · rename_i h2
      split at h
      · cases h
      · rename_i h3
        rw [not_or] at h3
        refine ⟨(checkL_ok kn).1 (Classical.not_not.1 h1), Classical.not_not.1 h2, ?_, by simpa using h3.2⟩
        simpa using h3.1
/-- A buffer that holds these, in order. -/
def BufH (F : Nat → Prop) (w : World) (v : Value) (room : Int) (H : List Ch) : Prop := ∃ D, BufV F w v room D ∧ (D.map Prod.fst).Perm H ∧ SrtC H
/-- What Take leaves. -/
def TakeP (F : Nat → Prop) (w : World) (v : Value) (room : Int) (R : List Ch × List Ch × Int) (e : Ending) (w' : World) : Prop := ∃ v' E F', e = .returned (.tuple #[v', .int .i64 R.2.2]) ∧ AccH w.heap.size v' E w' ∧ E.map Prod.fst = R.2.1 ∧ BufH F' w' v room R.1 ∧ (∀ k, F' k → F k ∨ w.heap.size ≤ k) ∧ Touch F w w'
/-- As TakeP; what came out lies apart from what the buffer holds. -/
def TakeQ (F : Nat → Prop) (w : World) (v : Value) (room : Int) (R : List Ch × List Ch × Int) (e : Ending) (w' : World) : Prop := ∃ v' E F', e = .returned (.tuple #[v', .int .i64 R.2.2]) ∧ AccH w.heap.size v' E w' ∧ E.map Prod.fst = R.2.1 ∧ BufH F' w' v room R.1 ∧ (∀ k, F' k → F k ∨ w.heap.size ≤ k) ∧ Touch F w w' ∧ (E = [] ∨ ∃ N, w.heap.size ≤ N ∧ AccH N v' E w' ∧ ∀ k, F' k → k < N)
theorem TakeQ.p {F : Nat → Prop} {w : World} {v : Value} {room : Int} {R : List Ch × List Ch × Int} {e : Ending} {w' : World} : TakeQ F w v room R e w' → TakeP F w v room R e w' := fun ⟨v', E, F', h1, h2, h3, h4, h5, h6, _⟩ => ⟨v', E, F', h1, h2, h3, h4, h5, h6⟩

theorem runL_sub : ∀ (n : Nat) (kn : List Int) (L : List Ch), (runL n kn L).2.Sublist L
  | 0, kn, L => List.Sublist.refl _
  | n + 1, kn, L => by
    cases h : L.find? (readyB kn) with
    | none => rw [runL_none h]; exact List.Sublist.refl _
    | some x => rw [runL_some h]; exact (runL_sub n _ _).trans List.filter_sublist
theorem takeR_nil (kn : List Int) (c : Ch) : (takeR 0 [] kn c).1 = [] := by
  unfold takeR
  split
  · rfl
  · split
    · rfl
    · rw [if_pos (by simp)]
theorem take_fin {F F' : Nat → Prop} {w w' : World} {v : Value} {room : Int} {H : List Ch} {D0 D' : List (Ch × Value)} {kn : List Int} {c : Ch} {bb mb : Nat} (hv : BufV F w v room D0) (hp : (D0.map Prod.fst).Perm H) (hvb : v = .pointer none ∨ v = .pointer (some ⟨bb, 0, none⟩)) (hb : BufIs F' w' bb room mb D') (hpm : (D'.map Prod.fst).Perm (takeR room H kn c).1) (hs : SrtC (takeR room H kn c).1) : ∃ F'', BufH F'' w' v room (takeR room H kn c).1 ∧ ∀ k, F'' k → F' k := by
  rcases hv with ⟨bb0, mb0, e, h⟩ | ⟨e, e2, e3, h⟩
  · rcases hvb with e1 | e1
    · rw [e] at e1; cases e1
    · exact ⟨F', ⟨D', .inl ⟨bb, mb, e1, hb⟩, hpm, hs⟩, fun k hk => hk⟩
  · subst e2 e3
    have eH : H = [] := by simpa using hp.symm
    subst eH
    rw [takeR_nil]
    exact ⟨fun _ => False, ⟨[], .inr ⟨e, rfl, rfl, fun k hk => hk.elim⟩, List.Perm.refl _, List.Pairwise.nil⟩, fun k hk => hk.elim⟩
/-- What stands while Take goes on. -/
structure TakS (F F1 : Nat → Prop) (w : World) (v : Value) (bb : Nat) (room : Int) (mb : Nat) (D : List (Ch × Value)) (W : World) : Prop where
  buf : BufIs F1 W bb room mb D
  sub : ∀ k, F1 k → F k ∨ w.heap.size ≤ k
  vb : v = .pointer none ∨ v = .pointer (some ⟨bb, 0, none⟩)
  bel : Below w.heap.size w W
theorem TakS.below {F F1 : Nat → Prop} {w : World} {v : Value} {bb : Nat} {room : Int} {mb : Nat} {D : List (Ch × Value)} {W W' : World} (h : TakS F F1 w v bb room mb D W) (hb : Below W.heap.size W W') : TakS F F1 w v bb room mb D W' := ⟨h.buf.below hb, h.sub, h.vb, h.bel.trans (hb.mono h.bel.size)⟩

set_option maxRecDepth 100000 in
set_option maxHeartbeats 8000000 in
theorem take_anyQ (F : Nat → Prop) (v : Value) (room : Int) (H : List Ch) (ac ar sq : Int) (dv : Value) (kd nc nr pc pr fc fr : Int) (nm vl : ByteArray) (ds : List Int) (kv : Value) (kn : List Int) (w : World) (h : BufH F w v room H) (hl : H.length ≤ 4095) (hk : IsI w kv kn) (hd : IsI w dv ds) (hs : Sized ⟨ac, ar, sq, ds, kd, nc, nr, pc, pr, fc, fr, nm, vl⟩) :
    Calls Try.prog 10 #[v, kv, .agg #[.int .i64 ac, .int .i64 ar, .int .i64 sq, dv, .int .i64 kd, .int .i64 nc, .int .i64 nr, .int .i64 pc, .int .i64 pr, .int .i64 fc, .int .i64 fr, .string nm, .string vl]] w fun e w' => TakeQ F w v room (takeR room H kn ⟨ac, ar, sq, ds, kd, nc, nr, pc, pr, fc, fr, nm, vl⟩) e w' := by
  obtain ⟨D, hv, hp, hso⟩ := h
  obtain ⟨a0, c0, e0⟩ := hk.form
  subst e0
  obtain ⟨a1, c1, e1⟩ := hd.form
  subst e1
  have HP : Hid ((D.map Prod.fst).Perm H ∧ SrtC H) := ⟨hp, hso⟩
  have HV : Hid (BufV F w v room D) := hv
  have HIk : Hid (IsI w (.slice a0 kn.length c0) kn) := hk
  have HId : Hid (IsI w (.slice a1 ds.length c1) ds) := hd
  have HSz : Hid (Sized ⟨ac, ar, sq, ds, kd, nc, nr, pc, pr, fc, fr, nm, vl⟩) := hs
  clear hv hp hso hk hd hs
  go_enter Try.func10, Try.ntmps10
  obtain ⟨W0, eW⟩ : ∃ X, X = w.alloc (.cells #[.int .i64 ac, .int .i64 ar, .int .i64 sq, .slice a1 ds.length c1, .int .i64 kd, .int .i64 nc, .int .i64 nr, .int .i64 pc, .int .i64 pr, .int .i64 fc, .int .i64 fr, .string nm, .string vl] 35) := ⟨_, rfl⟩
  have HK0 : Hid (KeptC w w.heap.size [.int .i64 ac, .int .i64 ar, .int .i64 sq, .slice a1 ds.length c1, .int .i64 kd, .int .i64 nc, .int .i64 nr, .int .i64 pc, .int .i64 pr, .int .i64 fc, .int .i64 fr, .string nm, .string vl] W0) := by rw [eW]; exact KeptC.start w [.int .i64 ac, .int .i64 ar, .int .i64 sq, .slice a1 ds.length c1, .int .i64 kd, .int .i64 nc, .int .i64 nr, .int .i64 pc, .int .i64 pr, .int .i64 fc, .int .i64 fr, .string nm, .string vl] 35
  go_wp2_with fail
  rw [← eW]
  clear eW
  refine (orEmpty_any v room D F _ (HV.out.below HK0.out.2.2)).mono ?_
  rintro e w1 ⟨bb, mb, F1, rfl, h1, hb1, hF1, hvb⟩
  have HK1 : Hid (KeptC w w.heap.size [.int .i64 ac, .int .i64 ar, .int .i64 sq, .slice a1 ds.length c1, .int .i64 kd, .int .i64 nc, .int .i64 nr, .int .i64 pc, .int .i64 pr, .int .i64 fc, .int .i64 fr, .string nm, .string vl] w1) := HK0.out.step hb1
  have HT1 : Hid (TakS F F1 w v bb room mb D w1) := ⟨h1, fun k hk => (hF1 k hk).imp id (fun h => Nat.le_trans HK0.out.2.2.size h), hvb, HK1.out.2.2⟩
  clear h1 hb1 hF1 hvb HK0
  obtain ⟨k_0, k_1, k_2, k_3, k_4, k_5, k_6, k_7, k_8, k_9, k_10, k_11, k_12⟩ := HK1.out.all
  go_wp2_with fail
  refine (checkNew_any F1 bb room mb D ac ar sq (.slice a1 ds.length c1) kd nc nr pc pr fc fr nm vl ds (.slice a0 kn.length c0) kn _ HT1.out.buf (HIk.out.below HK1.out.2.2) (HId.out.below HK1.out.2.2) HSz.out.1).mono ?_
  rintro e w2 ⟨rfl, hb2⟩
  have HK2 : Hid (KeptC w w.heap.size [.int .i64 ac, .int .i64 ar, .int .i64 sq, .slice a1 ds.length c1, .int .i64 kd, .int .i64 nc, .int .i64 nr, .int .i64 pc, .int .i64 pr, .int .i64 fc, .int .i64 fr, .string nm, .string vl] w2) := HK1.out.step hb2
  have HT2 : Hid (TakS F F1 w v bb room mb D w2) := HT1.out.below hb2
  rw [newH_eq HP.out.1]
  clear hb2 HK1 HT1 k_0 k_1 k_2 k_3 k_4 k_5 k_6 k_7 k_8 k_9 k_10 k_11 k_12
  obtain ⟨ne, ene⟩ : ∃ x, x = newH H kn ⟨ac, ar, sq, ds, kd, nc, nr, pc, pr, fc, fr, nm, vl⟩ := ⟨_, rfl⟩
  rw [← ene]
  have HNe : Hid (ne = newH H kn ⟨ac, ar, sq, ds, kd, nc, nr, pc, pr, fc, fr, nm, vl⟩) := ene
  clear ene
  by_cases hne : ne = 0
  · subst hne
    have HOk : Hid (OkC kn ∧ checkCh ⟨ac, ar, sq, ds, kd, nc, nr, pc, pr, fc, fr, nm, vl⟩ = 0 ∧ ownC H ar sq = none ∧ withinB ⟨ac, ar, sq, ds, kd, nc, nr, pc, pr, fc, fr, nm, vl⟩ kn = false) := newH_ok (c := ⟨ac, ar, sq, ds, kd, nc, nr, pc, pr, fc, fr, nm, vl⟩) HNe.out.symm
    obtain ⟨k_0, k_1, k_2, k_3, k_4, k_5, k_6, k_7, k_8, k_9, k_10, k_11, k_12⟩ := HK2.out.all
    go_wp2_with fail
    refine (isReady_any ac ar sq (.slice a1 ds.length c1) kd nc nr pc pr fc fr nm vl ds _ kn _ (HIk.out.below HK2.out.2.2) (HId.out.below HK2.out.2.2) HOk.out.1).mono ?_
    rintro e w3 ⟨rfl, hb3⟩
    have HK3 : Hid (KeptC w w.heap.size [.int .i64 ac, .int .i64 ar, .int .i64 sq, .slice a1 ds.length c1, .int .i64 kd, .int .i64 nc, .int .i64 nr, .int .i64 pc, .int .i64 pr, .int .i64 fc, .int .i64 fr, .string nm, .string vl] w3) := HK2.out.step hb3
    have HT3 : Hid (TakS F F1 w v bb room mb D w3) := HT2.out.below hb3
    clear hb3 HK2 HT2 k_0 k_1 k_2 k_3 k_4 k_5 k_6 k_7 k_8 k_9 k_10 k_11 k_12
    obtain ⟨rb, erb⟩ : ∃ b, b = readyB kn ⟨ac, ar, sq, ds, kd, nc, nr, pc, pr, fc, fr, nm, vl⟩ := ⟨_, rfl⟩
    rw [← erb]
    have HRb : Hid (rb = readyB kn ⟨ac, ar, sq, ds, kd, nc, nr, pc, pr, fc, fr, nm, vl⟩) := erb
    clear erb
    have hDl : D.length ≤ 4095 := by have := HP.out.1.length_eq; simp at this; omega
    cases rb
    · obtain ⟨k_0, k_1, k_2, k_3, k_4, k_5, k_6, k_7, k_8, k_9, k_10, k_11, k_12⟩ := HK3.out.all
      have q0 := HT3.out.buf.cell0
      have q1 := HT3.out.buf.cell1
      have hln : ∀ nq, (Builtin.len_ #[74] 3 #[.map (some mb)]).run Try.prog (w3.drewN nq) = .ok (.int .i64 (D.length : Int)) (w3.drewN nq) := fun nq => len_pl (HT3.out.buf.hmap.keep rfl)
      by_cases hrm : room ≤ (D.length : Int)
      · have hnd : decide (room ≤ (D.length : Int)) = true := by simp [hrm]
        go_wp2_with fail
        go_quiet (fail)
        have eT : takeR room H kn ⟨ac, ar, sq, ds, kd, nc, nr, pc, pr, fc, fr, nm, vl⟩ = (H, [], 6) := by
          unfold takeR
          have hl2 := HP.out.1.length_eq
          rw [List.length_map] at hl2
          rw [if_neg (by rw [← HNe.out]; simp), if_neg (by rw [← HRb.out]; simp), if_pos (by rw [← hl2]; exact hrm)]
        have hb4 : Below w3.heap.size w3 (w3.drewN nq) := below_drewN (Below.refl _ _) nq
        have HT4 : Hid (TakS F F1 w v bb room mb D (w3.drewN nq)) := HT3.out.below hb4
        obtain ⟨F'', r1, r2⟩ := take_fin (kn := kn) (c := ⟨ac, ar, sq, ds, kd, nc, nr, pc, pr, fc, fr, nm, vl⟩) HV.out HP.out.1 HT4.out.vb HT4.out.buf (by rw [eT]; exact HP.out.1) (by rw [eT]; exact HP.out.2)
        have HR : Hid (TakeQ F w v room (takeR room H kn ⟨ac, ar, sq, ds, kd, nc, nr, pc, pr, fc, fr, nm, vl⟩) (.returned (.tuple #[.slice none 0 0, .int .i64 6])) (w3.drewN nq)) := ⟨.slice none 0 0, [], F'', by rw [eT], AccH.nil _ _ HT4.out.bel.size, by rw [eT]; rfl, r1, fun k hk => HT4.out.sub k (r2 k hk), Touch.of_below HT4.out.bel, .inl rfl⟩
        clear eT r1 r2 hb4
        go_wp2
        go_ret2
        exact HR.out
      · have hnd : decide (room ≤ (D.length : Int)) = false := by simp [hrm]
        go_wp2_with fail
        go_quiet (fail)
        have hb4 : Below w3.heap.size w3 (w3.drewN nq) := below_drewN (Below.refl _ _) nq
        obtain ⟨W4, eW4⟩ : ∃ X, X = w3.drewN nq := ⟨_, rfl⟩
        rw [← eW4] at hb4 ⊢
        have HT4 : Hid (TakS F F1 w v bb room mb D W4) := HT3.out.below hb4
        have HK4 : Hid (KeptC w w.heap.size [.int .i64 ac, .int .i64 ar, .int .i64 sq, .slice a1 ds.length c1, .int .i64 kd, .int .i64 nc, .int .i64 nr, .int .i64 pc, .int .i64 pr, .int .i64 fc, .int .i64 fr, .string nm, .string vl] W4) := HK3.out.step hb4
        have hgn : getP D ar sq = none := by
          have h1 := own_get HP.out.1 ar sq
          rw [HOk.out.2.2.1] at h1
          simpa using h1.symm
        have HGn : Hid (getP D ar sq = none) := hgn
        clear hgn hln eW4 hb4 k_0 k_1 k_2 k_3 k_4 k_5 k_6 k_7 k_8 k_9 k_10 k_11 k_12 q0 q1
        obtain ⟨k_0, k_1, k_2, k_3, k_4, k_5, k_6, k_7, k_8, k_9, k_10, k_11, k_12⟩ := HK4.out.all
        go_wp2_with fail
        refine (put_any F1 bb room mb D ac ar sq (.slice a1 ds.length c1) kd nc nr pc pr fc fr nm vl ds _ HT4.out.buf (HId.out.below HK4.out.2.2) ⟨HOk.out.2.1, HSz.out⟩ HGn.out).mono ?_
        rintro e w5 ⟨⟨v5, rfl⟩, F5, dv5, q1, q2, q3, q4⟩
        have HR : Hid (TakeQ F w v room (takeR room H kn ⟨ac, ar, sq, ds, kd, nc, nr, pc, pr, fc, fr, nm, vl⟩) (.returned (.tuple #[.slice none 0 0, .int .i64 0])) w5) := by
          have eT : takeR room H kn ⟨ac, ar, sq, ds, kd, nc, nr, pc, pr, fc, fr, nm, vl⟩ = (insC H ⟨ac, ar, sq, ds, kd, nc, nr, pc, pr, fc, fr, nm, vl⟩, [], 0) := by
            unfold takeR
            have hl2 := HP.out.1.length_eq
            rw [List.length_map] at hl2
            rw [if_neg (by rw [← HNe.out]; simp), if_neg (by rw [← HRb.out]; simp), if_neg (by rw [← hl2]; omega)]
          have hpi : ((D ++ [((⟨ac, ar, sq, ds, kd, nc, nr, pc, pr, fc, fr, nm, vl⟩ : Ch), dv5)]).map Prod.fst).Perm (insC H ⟨ac, ar, sq, ds, kd, nc, nr, pc, pr, fc, fr, nm, vl⟩) := by
            rw [List.map_append]
            exact (List.perm_append_comm.trans (HP.out.1.cons _)).trans (insC_perm _ _).symm
          have hsi : SrtC (insC H ⟨ac, ar, sq, ds, kd, nc, nr, pc, pr, fc, fr, nm, vl⟩) := insC_srt HP.out.2 fun x hx => by
            obtain ⟨y, hy, rfl⟩ := List.mem_map.1 (HP.out.1.mem_iff.2 hx)
            exact getP_none HGn.out y hy
          obtain ⟨F'', r1, r2⟩ := take_fin (kn := kn) (c := ⟨ac, ar, sq, ds, kd, nc, nr, pc, pr, fc, fr, nm, vl⟩) HV.out HP.out.1 HT4.out.vb q1 (by rw [eT]; exact hpi) (by rw [eT]; exact hsi)
          exact ⟨.slice none 0 0, [], F'', by rw [eT], AccH.nil _ _ (Nat.le_trans HT4.out.bel.size q4.size), by rw [eT]; rfl, r1, fun k hk => (q3 k (r2 k hk)).elim (HT4.out.sub k) (fun h => .inr (Nat.le_trans HT4.out.bel.size h)), (Touch.of_below HT4.out.bel).trans q4 fun j hj => HT4.out.sub j hj, .inl rfl⟩
        clear q1 q2 q3 q4 k_0 k_1 k_2 k_3 k_4 k_5 k_6 k_7 k_8 k_9 k_10 k_11 k_12
        go_wp2
        go_ret2
        exact HR.out
    · obtain ⟨k_0, k_1, k_2, k_3, k_4, k_5, k_6, k_7, k_8, k_9, k_10, k_11, k_12⟩ := HK3.out.all
      go_wp2_with fail
      refine (release_any F1 bb room mb D ac ar sq (.slice a1 ds.length c1) kd nc nr pc pr fc fr nm vl ds _ kn H _ HT3.out.buf hDl (HIk.out.below HK3.out.2.2) HOk.out.1 (HId.out.below HK3.out.2.2) ⟨HOk.out.2.1, HSz.out⟩ HRb.out.symm HP.out.1 HP.out.2).mono ?_
      rintro e w4 ⟨v4, rfl, hr4⟩
      have HR : Hid (∃ E F', AccH w.heap.size v4 E w4 ∧ E.map Prod.fst = (takeR room H kn ⟨ac, ar, sq, ds, kd, nc, nr, pc, pr, fc, fr, nm, vl⟩).2.1 ∧ BufH F' w4 v room (takeR room H kn ⟨ac, ar, sq, ds, kd, nc, nr, pc, pr, fc, fr, nm, vl⟩).1 ∧ (∀ k, F' k → F k ∨ w.heap.size ≤ k) ∧ Touch F w w4 ∧ (E = [] ∨ ∃ N, w.heap.size ≤ N ∧ AccH N v4 E w4 ∧ ∀ k, F' k → k < N)) := by
        have eT : takeR room H kn ⟨ac, ar, sq, ds, kd, nc, nr, pc, pr, fc, fr, nm, vl⟩ = ((runL H.length (tickR kn ar) H).2, ⟨ac, ar, sq, ds, kd, nc, nr, pc, pr, fc, fr, nm, vl⟩ :: (runL H.length (tickR kn ar) H).1, 0) := by
          unfold takeR
          rw [if_neg (by rw [← HNe.out]; simp), if_pos HRb.out.symm]
        obtain ⟨E, D', q1, q2, q3, q4, q5⟩ := hr4
        obtain ⟨F'', r1, r2⟩ := take_fin (kn := kn) (c := ⟨ac, ar, sq, ds, kd, nc, nr, pc, pr, fc, fr, nm, vl⟩) HV.out HP.out.1 HT3.out.vb q3 (by rw [eT]; exact q4) (by rw [eT]; exact List.Pairwise.sublist (runL_sub _ _ _) HP.out.2)
        exact ⟨E, F'', q1.low HT3.out.bel.size, by rw [eT]; exact q2, r1, fun k hk => HT3.out.sub k (r2 k hk), (Touch.of_below HT3.out.bel).trans q5 fun j hj => HT3.out.sub j hj, .inr ⟨w3.heap.size, HT3.out.bel.size, q1, fun k hk => HT3.out.buf.lt k (r2 k hk)⟩⟩
      have HZ : Hid ((takeR room H kn ⟨ac, ar, sq, ds, kd, nc, nr, pc, pr, fc, fr, nm, vl⟩).2.2 = 0) := by
        show _ = _
        unfold takeR
        rw [if_neg (by rw [← HNe.out]; simp), if_pos HRb.out.symm]
      obtain ⟨av, nv, cv, ev⟩ : ∃ a n c, v4 = .slice a n c := by
        obtain ⟨E, _, q1, _⟩ := hr4
        obtain ⟨a, c, e⟩ := q1.own.form
        exact ⟨a, _, c, e⟩
      subst ev
      clear hr4 k_0 k_1 k_2 k_3 k_4 k_5 k_6 k_7 k_8 k_9 k_10 k_11 k_12
      go_wp2
      go_ret2
      obtain ⟨E, F', q⟩ := HR.out
      exact ⟨.slice av nv cv, E, F', by rw [HZ.out]; rfl, q⟩
  · have hne2 : (ne == 0) = false := by simp [hne]
    go_wp2
    go_ret2
    have eT : takeR room H kn ⟨ac, ar, sq, ds, kd, nc, nr, pc, pr, fc, fr, nm, vl⟩ = (H, [], ne) := by
      unfold takeR
      rw [if_pos (by rw [← HNe.out]; exact hne), ← HNe.out]
    obtain ⟨F'', r1, r2⟩ := take_fin (kn := kn) (c := ⟨ac, ar, sq, ds, kd, nc, nr, pc, pr, fc, fr, nm, vl⟩) HV.out HP.out.1 HT2.out.vb HT2.out.buf (by rw [eT]; exact HP.out.1) (by rw [eT]; exact HP.out.2)
    exact ⟨.slice none 0 0, [], F'', by rw [eT]; rfl, AccH.nil _ _ HT2.out.bel.size, by rw [eT]; rfl, r1, fun k hk => HT2.out.sub k (r2 k hk), Touch.of_below HT2.out.bel, .inl rfl⟩

theorem take_any (F : Nat → Prop) (v : Value) (room : Int) (H : List Ch) (ac ar sq : Int) (dv : Value) (kd nc nr pc pr fc fr : Int) (nm vl : ByteArray) (ds : List Int) (kv : Value) (kn : List Int) (w : World) (h : BufH F w v room H) (hl : H.length ≤ 4095) (hk : IsI w kv kn) (hd : IsI w dv ds) (hs : Sized ⟨ac, ar, sq, ds, kd, nc, nr, pc, pr, fc, fr, nm, vl⟩) :
    Calls Try.prog 10 #[v, kv, .agg #[.int .i64 ac, .int .i64 ar, .int .i64 sq, dv, .int .i64 kd, .int .i64 nc, .int .i64 nr, .int .i64 pc, .int .i64 pr, .int .i64 fc, .int .i64 fr, .string nm, .string vl]] w fun e w' => TakeP F w v room (takeR room H kn ⟨ac, ar, sq, ds, kd, nc, nr, pc, pr, fc, fr, nm, vl⟩) e w' :=
  (take_anyQ F v room H ac ar sq dv kd nc nr pc pr fc fr nm vl ds kv kn w h hl hk hd hs).mono fun _ _ h => h.p

end Go.Proofs.Ythndgmnckpimmaa
