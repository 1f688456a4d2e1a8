/- The document's Others; the walk of LisRising. -/
import Derived.Test.YtjnccmkhhnaaiaaLiI
import Derived.Test.YtjnccmkhhnaaiaaLiG
namespace Go.Proofs.Ytjnccmkhhnaaiaa
open Go.RowKit
set_option linter.unusedVariables false

theorem grownBy.same (w : World) (r : Option Nat) : w.grownBy w r := ⟨rfl, rfl, rfl, Nat.le_refl _, fun k _ _ => rfl⟩
theorem OwnI.more {B : Nat} {w : World} {v : Value} {D E : List Int} {n : Nat} {cs : List Value} (h : w.ownsRow B 3 1 v n cs) (hn : n = D.length + E.length) (hc : cs = cellsI D ++ cellsI E) : OwnI B w v (D ++ E) := by
  subst hn hc
  unfold OwnI
  have e : cellsI (D ++ E) = cellsI D ++ cellsI E := by simp [cellsI]
  rw [e, List.length_append]
  exact h
/-- append(out, b...), out a row of the call's own, b any slice of numbers. -/
theorem wpList_appI {w : World} {ops : Array Oper} {rest : List Oper} {o : Oper} {a : Act} {Q : Exit → Act → World → Prop} (hgd : o.guard = none) (s x : Operand)
    (ho : o.op = .call { callee := .builtin .append, args := #[s, x], argTypes := #[22, 22] })
    (B : Nat) (v : Value) (D : List Int) (hs : a.eval s = v) (hown : OwnI B w v D) (hB : B ≤ w.heap.size) (vx : Value) (p : List Int) (hx : a.eval x = vx) (hv : IsI w vx p) (hl : D.length + p.length ≤ 17592186044416)
    (h : ∀ v' w', OwnI B w' v' (D ++ p) → w.grownBy w' v.ownBlock → wpList Try.prog ops Q rest (a.put o.dst v') w') : wpList Try.prog ops Q (o :: rest) a w := by
  obtain ⟨i0, hi, hz0, hz1, hz2⟩ := info_parts infoInt
  obtain ⟨a1, c1, rfl, hc1, hl1, r1⟩ := hv
  cases a1 with
  | none =>
    obtain rfl : p = [] := by rcases r1 with h | ⟨b, o, h, _⟩; exact h; cases h
    have hcl : ∀ ty, (Builtin.append_ #[22, 22] ty #[v, .slice none 0 c1]).run Try.prog w = .ok v w := fun ty => by
      rcases hown.2 with ⟨rfl, h0⟩ | ⟨g, cap, cur, rfl, _, _, hnc, _⟩
      · simp [Builtin.append_, run_underlying Try.underlying22, sizeOf, typeInfo, hi, Builtin.lenOf, Builtin.firstCells]
      · simp [Builtin.append_, run_underlying Try.underlying22, sizeOf, typeInfo, hi, Builtin.lenOf, Builtin.firstCells, hnc, storeCells]
    refine wpList_plain hgd fun K hK => ?_
    unfold Oper.wp
    simp only [List.length_nil] at hx
    simp [execOp, ho, resolve, invoke, builtin, hs, hx, hcl, Result.andThen]
    exact hK _ _ (h _ _ (by rw [List.append_nil]; exact hown) (grownBy.same _ _))
  | some ad =>
    refine wpList_append_own _ hgd s x 22 ho B 3 i0 (.int .i64 0) 1 8 Try.underlying22 hi hz0 hz1 hz2 rfl (by decide) _ _ _ hs hown ad p.length c1 (cellsI p) hx (cellsI_length p) ?_ (cellsI_one p) (by unfold maxLen; omega) (by omega) hB ?_
    · intro j u hj
      rcases r1 with rfl | ⟨b, o, e, g⟩
      · simp [cellsI] at hj
      · cases e
        exact g.news j u hj
    · intro v3 w3 hown3 hgrow _
      exact h v3 w3 (OwnI.more hown3 rfl rfl) hgrow

set_option maxHeartbeats 1000000 in
/-- cut: 500 numbers at most. -/
theorem cut_any (v : Value) (d : List Int) (w : World) (h1 : IsI w v d) :
    Calls Try.prog 12 #[v] w fun e w' => ∃ v', e = .returned v' ∧ IsI w v' (d.take 500) ∧ w' = w := by
  have H1 := hide9 h1
  obtain ⟨a1, c1, rfl, hc1, hl1, r1⟩ := h1
  by_cases hl : 500 < d.length
  · obtain ⟨b, o, rfl, g⟩ := r1.resolve_left (by intro e; subst e; simp at hl)
    have hlen : (d.take 500).length = 500 := by simp; omega
    have HI : Hid (IsI w (.slice (some ⟨b, o, none⟩) 500 c1) (d.take 500)) := ⟨_, c1, by rw [hlen], by omega, by omega, .inr ⟨b, o, rfl, g.take 500⟩⟩
    have k1 : (500 : Int) < (d.length : Int) := by omega
    have k2 : (500 : Int) ≤ (c1 : Int) := by omega
    have k3 : 500 ≤ c1 := by omega
    clear g r1 hlen
    go_enter Try.func12, Try.ntmps12
    go_wp2
    go_ret
    exact ⟨_, rfl, HI.out, rfl⟩
  · have k1 : ¬ (500 : Int) < (d.length : Int) := by omega
    clear r1
    go_enter Try.func12, Try.ntmps12
    go_wp2
    go_ret
    exact ⟨_, rfl, by rw [List.take_of_length_le (by omega)]; exact H1.out, rfl⟩

set_option maxHeartbeats 2000000 in
/-- The document's Others. -/
theorem refOthers_any (v : Value) (d : List Int) (w : World) (h1 : IsI w v d) :
    Calls Try.prog 18 #[v] w fun e w' => ∃ v', e = .returned v' ∧ OwnI w.heap.size w' v' (othL d) ∧ Below w.heap.size w w' := by
  obtain ⟨i0, hi, hz0, hz1, hz2⟩ := info_parts infoInt
  have H1 := hide9 h1
  obtain ⟨a1, c1, rfl, hc1, hl1, r1⟩ := h1
  clear r1
  go_enter Try.func18, Try.ntmps18
  go_wp2_with fail
  refine (refRising_any _ d _ H1.out).mono ?_
  rintro e w1 ⟨v1, rfl, hr, hb⟩
  have hrl := ris_len d
  have HR := hide9 (hr.isI (by omega))
  have HB := hide9 hb
  clear hr hb
  have HO0 := hide9 (OwnI.empty w1 _ (Nat.le_refl _))
  have HB0 : Hid (Below w1.heap.size w1 (w1.alloc (.cells #[] 3))) := (Below.refl _ _).alloc (Nat.le_refl _) _
  obtain ⟨A, eA⟩ : ∃ A, A = risL d := ⟨_, rfl⟩
  rw [← eA] at HR hrl
  have E1 := hide9 eA
  clear eA
  obtain ⟨a3, c3, e3, hc3, _, r3⟩ := HR.out
  subst e3
  have R3 := hide9 r3
  clear r3
  go_wp2
  go_loopw [4, 5] (fun out iv wr => ∃ (i : Nat) (left : Int) (P D : List Int), i ≤ d.length ∧ iv = .int .i64 (i : Int) ∧ D.length ≤ i ∧ Hid (D ++ oth (rstL d i left) (d.length - i) i = othL d) ∧ Hid (P ++ rstL d i left = A ∧ ∀ p ∈ P, p < (i : Int)) ∧ Hid (OwnI w1.heap.size wr out D) ∧ Hid (Below w1.heap.size w1 wr)) (fun _ iv _ => d.length - (intOf iv).toNat)
  case atStart => exact ⟨0, lngL d, [], [], Nat.zero_le _, rfl, Nat.le_refl _, by (show _ = _; rfl), ⟨by rw [E1.out]; rfl, by simp⟩, HO0, HB0⟩
  case round =>
    clear HO0 HB0
    obtain ⟨i, left, P, D, hk, rfl, hDi, HD, HP, HO, HBr⟩ := hrel
    have hsz := HBr.out.size
    obtain ⟨ao, co, e0⟩ := HO.out.form
    subst e0
    by_cases hlt : i < d.length
    · have k1 : (i : Int) < (d.length : Int) := by omega
      have hf : d.length - i = (d.length - (i + 1)) + 1 := by omega
      have HN : Hid (∃ (left' : Int) (P' : List Int), ((P' ++ rstL d (i + 1) left' = A ∧ ∀ p ∈ P', p < ((i + 1 : Nat) : Int))) ∧ (if (i : Int) ∈ A then D ++ oth (rstL d (i + 1) left') (d.length - (i + 1)) (i + 1) = othL d else (D ++ [(i : Int)]) ++ oth (rstL d (i + 1) left') (d.length - (i + 1)) (i + 1) = othL d)) := (by
        obtain ⟨hP, hPl⟩ := HP.out
        have hD := HD.out
        by_cases hb : bgA d i = left
        · rw [rstL_yes hlt hb] at hP hD
          rw [hf, oth_yes] at hD
          refine ⟨left - 1, P ++ [(i : Int)], ⟨by simpa using hP, fun p hp => ?_⟩, ?_⟩
          · rcases List.mem_append.1 hp with h | h
            · have := hPl p h; omega
            · simp at h; omega
          · rw [if_pos (by rw [← hP]; simp)]; exact hD
        · rw [rstL_no hlt hb] at hP hD
          have hni : ∀ p ∈ rstL d (i + 1) left, p ≠ (i : Int) := fun p hp e => by have := rst_mem hp; omega
          rw [hf, oth_no (fun p hp => hni p (List.mem_of_head? hp))] at hD
          refine ⟨left, P, ⟨hP, fun p hp => by have := hPl p hp; omega⟩, ?_⟩
          rw [if_neg (by rw [← hP]; intro h; rcases List.mem_append.1 h with h | h; (have := hPl _ h; omega); exact hni _ h rfl)]
          simpa using hD)
      clear HD HP hf
      go_wp2
      go_loopw [6, 7] (fun is kv wr2 => ∃ k : Nat, k ≤ A.length ∧ kv = .int .i64 (k : Int) ∧ is = .bool (decide ((i : Int) ∈ A.take k)) ∧ wr2 = wr) (fun _ kv _ => A.length - (intOf kv).toNat)
      case atStart => exact ⟨0, Nat.zero_le _, rfl, by simp, rfl⟩
      case round =>
        obtain ⟨k, hka, rfl, rfl, rfl⟩ := hrel
        by_cases hlk : k < A.length
        · have j1 : (k : Int) < (A.length : Int) := by omega
          have j0 : (0 : Int) ≤ (k : Int) := by omega
          obtain ⟨b, o, rfl, g⟩ := R3.out.resolve_left (by intro e; rw [e] at hlk; simp at hlk)
          have x1 := (g.below HBr.out) k hlk
          obtain ⟨x, ex⟩ : ∃ x, x = A[k] := ⟨_, rfl⟩
          have ht : A.take (k + 1) = A.take k ++ [x] := by rw [ex]; exact List.take_succ_eq_append_getElem hlk
          rw [← ex] at x1
          clear g ex
          by_cases hm : (i : Int) ∈ A.take k
          · have q1 : decide ((i : Int) ∈ A.take k) = true := decide_eq_true hm
            have HM : Hid (decide ((i : Int) ∈ A.take (k + 1)) = true) := by show _ = _; rw [ht]; simp [hm]
            clear hm ht
            rw [q1]
            clear q1
            go_wp2
            go_roundw
            case rel => exact ⟨k + 1, by omega, by go_num, by rw [HM.out], by first | rfl | trivial⟩
            case measure => simp [intOf]; omega
          · have q1 : decide ((i : Int) ∈ A.take k) = false := decide_eq_false hm
            have HM : Hid (decide ((i : Int) ∈ A.take (k + 1)) = (x == (i : Int))) := by show _ = _; rw [ht]; simp [hm]; exact decide_eq_decide.2 eq_comm
            clear hm ht
            rw [q1]
            clear q1
            go_wp2
            go_roundw
            case rel => exact ⟨k + 1, by omega, by go_num, by rw [HM.out], by first | rfl | trivial⟩
            case measure => simp [intOf]; omega
        · obtain rfl : k = A.length := by omega
          rw [List.take_length]
          have j1 : ¬ (A.length : Int) < (A.length : Int) := by omega
          obtain ⟨left', P', HP', HD'⟩ := HN.out
          have HP2 := hide9 HP'
          clear HN HP'
          by_cases hm : (i : Int) ∈ A
          · have q1 : decide ((i : Int) ∈ A) = true := decide_eq_true hm
            rw [if_pos hm] at HD'
            have HD2 := hide9 HD'
            clear HD' hm
            rw [q1]
            clear q1
            go_wp2
            go_roundw
            case rel => exact ⟨i + 1, left', P', D, by omega, by go_num, by omega, HD2, HP2, HO, HBr⟩
            case measure => simp [intOf]; omega
          · have q1 : decide ((i : Int) ∈ A) = false := decide_eq_false hm
            rw [if_neg hm] at HD'
            have HD2 := hide9 HD'
            clear HD' hm
            rw [q1]
            clear q1
            go_wp2_with (at_builtin; refine wpList_append_own _ rfl _ _ 22 rfl w1.heap.size 3 i0 (.int .i64 0) 1 8 Try.underlying22 hi hz0 hz1 hz2 rfl (by decide) _ _ _ rfl (World.ownsRow.alloc HO.out _) ⟨wr.heap.size, 0, none⟩ 1 1 [.int .i64 (i : Int)] rfl rfl (cell_one_new _ _ _) (fun x hx => by simp at hx; subst hx; rfl) (by unfold maxLen; omega) (by omega) (by simp; omega) ?_; intro v' w3 hown' hgrow3 hnil3)
            go_roundw
            case rel => exact ⟨i + 1, left', P', D ++ [(i : Int)], by omega, by go_num, by simp; omega, HD2, HP2, OwnI.snoc hown', (HBr.out.alloc (by omega) _).grown hgrow3 (by simp; omega) (fun j e => HO.out.block j e)⟩
            case measure => simp [intOf]; omega
    · have HE : Hid (D = othL d) := by show _ = _; have := HD.out; rw [show d.length - i = 0 by omega, rstL_end (by omega)] at this; simpa [oth] using this
      have hs := HB.out.size
      go_wp2
      go_ret
      exact ⟨_, rfl, by rw [← HE.out]; exact ⟨HO.out.1, HO.out.2.imp id fun ⟨g2, c2, cur, hv, hg2, rest⟩ => ⟨g2, c2, cur, hv, by omega, rest⟩⟩, HB.out.trans (HBr.out.mono hs)⟩

set_option maxHeartbeats 2000000 in
theorem lisRising_walk (v1 : Value) (d0 : List Int) (w : World) (h1 : IsI w v1 d0) :
    Calls Try.prog 4 #[v1] w fun e w' => e = .returned (.bool true) ∧ Below w.heap.size w w' := by
  have H0 := hide9 h1
  clear h1
  go_enter Try.func4, Try.ntmps4
  go_wp2_with fail
  refine (cut_any _ d0 _ H0.out).mono ?_
  rintro e w9 ⟨v2, rfl, hI, hw⟩
  subst hw
  have hln : (d0.take 500).length ≤ 500 := by simp; omega
  obtain ⟨d, ed⟩ : ∃ d, d = d0.take 500 := ⟨_, rfl⟩
  rw [← ed] at hI hln
  clear ed H0
  have H1 := hide9 hI
  obtain ⟨a1, c1, e1⟩ := hI.form
  subst e1
  clear hI
  obtain ⟨W1, eW⟩ : ∃ X, X = w9.alloc (.cells #[] 3) := ⟨_, rfl⟩
  have HO0 : Hid (OwnI w9.heap.size W1 (.slice (some ⟨w9.heap.size, 0, none⟩) 0 0) []) := by rw [eW]; exact OwnI.empty w9 _ (Nat.le_refl _)
  have hb1 : Below w9.heap.size w9 W1 := by rw [eW]; exact (Below.refl _ _).alloc (Nat.le_refl _) _
  have H2 := hide9 (H1.out.below hb1)
  have B1 := hide9 hb1
  have HE := hide9 eW
  have z1 := hb1.size
  clear eW hb1
  go_wp2_with (at_builtin; rw [← HE.out]; refine wpList_appI rfl _ _ rfl w9.heap.size _ [] rfl HO0.out z1 _ d rfl H2.out (by simp; omega) ?_; intro v3 w2 ho2 hg2; have HG : Hid (OwnI w9.heap.size w2 v3 d ∧ Below w9.heap.size w9 w2) := ⟨ho2, B1.out.grown hg2 z1 (fun j e => HO0.out.block j e)⟩; clear ho2 hg2)
  clear HO0 HE B1 z1 H2
  have G1 := hide9 (HG.out.1.isI (by omega))
  have B1 := hide9 HG.out.2
  have L1 := hide9 (H1.out.below HG.out.2)
  clear HG
  have hrl := ris_len d
  have hol : (othL d).length ≤ d.length := oth_len _ _ _
  have tl := hide9 (ris_ris d).2
  refine (refRising_any _ d _ L1.out).mono ?_
  rintro e w3 ⟨v4, rfl, ho, hb⟩
  have V4 := hide9 (ho.isI (by omega))
  have G2 := hide9 (G1.out.below hb)
  have L2 := hide9 (L1.out.below hb)
  have B2 := hide9 (B1.out.trans (hb.mono B1.out.size))
  clear ho hb G1 L1 B1
  go_wp2_with fail
  refine (rising_any _ d _ G2.out).mono ?_
  rintro e w4 ⟨v5, rfl, ho, hb⟩
  have V5 := hide9 (ho.isI (by omega))
  have V6 := hide9 (V4.out.below hb)
  have G1 := hide9 (G2.out.below hb)
  have L1 := hide9 (L2.out.below hb)
  have B1 := hide9 (B2.out.trans (hb.mono B2.out.size))
  obtain ⟨a4, c4, e4⟩ := V6.out.form
  subst e4
  clear ho hb G2 L2 B2 V4
  go_wp2_with fail
  refine (sameI_any _ _ (risL d) (risL d) _ V5.out V6.out).mono ?_
  rintro e w5 ⟨rfl, hb⟩
  rw [decide_eq_true rfl]
  have G2 := hide9 (G1.out.below hb)
  have L2 := hide9 (L1.out.below hb)
  have B2 := hide9 (B1.out.trans (hb.mono B1.out.size))
  clear hb G1 L1 B1 V5 V6
  go_wp2_with fail
  refine (long_any _ d _ G2.out).mono ?_
  rintro e w6 ⟨rfl, hb⟩
  rw [← tl.out]
  have q1 : (((risL d).length : Int) == ((risL d).length : Int)) = true := by simp
  have G1 := hide9 (G2.out.below hb)
  have L1 := hide9 (L2.out.below hb)
  have B1 := hide9 (B2.out.trans (hb.mono B2.out.size))
  clear hb G2 L2 B2
  go_wp2_with fail
  refine (others_any _ d _ G1.out).mono ?_
  rintro e w7 ⟨v6, rfl, ho, hb⟩
  have V5 := hide9 (ho.isI (by omega))
  have G2 := hide9 (G1.out.below hb)
  have L2 := hide9 (L1.out.below hb)
  have B2 := hide9 (B1.out.trans (hb.mono B1.out.size))
  clear ho hb G1 L1 B1
  go_wp2_with fail
  refine (refOthers_any _ d _ L2.out).mono ?_
  rintro e w8 ⟨v7, rfl, ho, hb⟩
  have V6 := hide9 (ho.isI (by omega))
  have V7 := hide9 (V5.out.below hb)
  have G1 := hide9 (G2.out.below hb)
  have L1 := hide9 (L2.out.below hb)
  have B1 := hide9 (B2.out.trans (hb.mono B2.out.size))
  clear ho hb G2 L2 B2 V5
  go_wp2_with fail
  refine (sameI_any _ _ (othL d) (othL d) _ V7.out V6.out).mono ?_
  rintro e w10 ⟨rfl, hb⟩
  rw [decide_eq_true rfl]
  have G2 := hide9 (G1.out.below hb)
  have L2 := hide9 (L1.out.below hb)
  have B2 := hide9 (B1.out.trans (hb.mono B1.out.size))
  clear hb G1 L1 B1 V6 V7
  go_wp2_with fail
  refine (sameI_any _ _ d d _ G2.out L2.out).mono ?_
  rintro e w11 ⟨rfl, hb⟩
  rw [decide_eq_true rfl]
  have B1 := hide9 (B2.out.trans (hb.mono B2.out.size))
  clear hb G2 L2 B2
  go_wp2_with fail
  refine (awake_any _).mono ?_
  rintro e w12 ⟨rfl, hb⟩
  have B2 := hide9 (B1.out.trans (hb.mono B1.out.size))
  clear hb
  go_wp2
  go_ret
  exact ⟨rfl, B2.out⟩

end Go.Proofs.Ytjnccmkhhnaaiaa
