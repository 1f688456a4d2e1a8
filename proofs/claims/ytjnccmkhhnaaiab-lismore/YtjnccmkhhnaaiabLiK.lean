/- The walk of LisMore. -/
import Derived.Test.YtjnccmkhhnaaiabLiW
import Derived.Test.YtjnccmkhhnaaiabPlainLm
namespace Go.Proofs.Ytjnccmkhhnaaiab
open Go.RowKit
set_option linter.unusedVariables false

theorem grownBy.same (w : World) (r : Option Nat) : w.grownBy w r := ⟨rfl, rfl, rfl, Nat.le_refl _, fun k _ _ => rfl⟩
theorem OwnI.more {B : Nat} {w : World} {v : Value} {D E : List Int} {n : Nat} {cs : List Value} (h : w.ownsRow B 3 1 v n cs) (hn : n = D.length + E.length) (hc : cs = cellsI D ++ cellsI E) : OwnI B w v (D ++ E) := by
  subst hn hc
  unfold OwnI
  have e : cellsI (D ++ E) = cellsI D ++ cellsI E := by simp [cellsI]
  rw [e, List.length_append]
  exact h
/-- append(out, b...), out a row of the call's own, b any slice of numbers. -/
theorem wpList_appI {w : World} {ops : Array Oper} {rest : List Oper} {o : Oper} {a : Act} {Q : Exit → Act → World → Prop} (hgd : o.guard = none) (s x : Operand)
    (ho : o.op = .call { callee := .builtin .append, args := #[s, x], argTypes := #[22, 22] })
    (B : Nat) (v : Value) (D : List Int) (hs : a.eval s = v) (hown : OwnI B w v D) (hB : B ≤ w.heap.size) (vx : Value) (p : List Int) (hx : a.eval x = vx) (hv : IsI w vx p) (hl : D.length + p.length ≤ 17592186044416)
    (h : ∀ v' w', OwnI B w' v' (D ++ p) → w.grownBy w' v.ownBlock → wpList Try.prog ops Q rest (a.put o.dst v') w') : wpList Try.prog ops Q (o :: rest) a w := by
  obtain ⟨i0, hi, hz0, hz1, hz2⟩ := info_parts infoInt
  obtain ⟨a1, c1, rfl, hc1, hl1, r1⟩ := hv
  cases a1 with
  | none =>
    obtain rfl : p = [] := by rcases r1 with h | ⟨b, o, h, _⟩; exact h; cases h
    have hcl : ∀ ty, (Builtin.append_ #[22, 22] ty #[v, .slice none 0 c1]).run Try.prog w = .ok v w := fun ty => by
      rcases hown.2 with ⟨rfl, h0⟩ | ⟨g, cap, cur, rfl, _, _, hnc, _⟩
      · simp [Builtin.append_, run_underlying Try.underlying22, sizeOf, typeInfo, hi, Builtin.lenOf, Builtin.firstCells]
      · simp [Builtin.append_, run_underlying Try.underlying22, sizeOf, typeInfo, hi, Builtin.lenOf, Builtin.firstCells, hnc, storeCells]
    refine wpList_plain hgd fun K hK => ?_
    unfold Oper.wp
    simp only [List.length_nil] at hx
    simp [execOp, ho, resolve, invoke, builtin, hs, hx, hcl, Result.andThen]
    exact hK _ _ (h _ _ (by rw [List.append_nil]; exact hown) (grownBy.same _ _))
  | some ad =>
    refine wpList_append_own _ hgd s x 22 ho B 3 i0 (.int .i64 0) 1 8 Try.underlying22 hi hz0 hz1 hz2 rfl (by decide) _ _ _ hs hown ad p.length c1 (cellsI p) hx (cellsI_length p) ?_ (cellsI_one p) (by unfold maxLen; omega) (by omega) hB ?_
    · intro j u hj
      rcases r1 with rfl | ⟨b, o, e, g⟩
      · simp [cellsI] at hj
      · cases e
        exact g.news j u hj
    · intro v3 w3 hown3 hgrow _
      exact h v3 w3 (OwnI.more hown3 rfl rfl) hgrow
/-- Are the first k numbers all below n? -/
def topB (d : List Int) (n : Int) : Nat → Bool
  | 0 => true
  | k + 1 => topB d n k && decide (atD d k < n)
theorem topB_all {d : List Int} {n : Int} : ∀ {k : Nat}, topB d n k = true → ∀ i, i < k → atD d i < n
  | k + 1, h, i, hi => by
    simp only [topB, Bool.and_eq_true, decide_eq_true_eq] at h
    rcases Nat.lt_or_ge i k with h1 | h1
    · exact topB_all h.1 i h1
    · obtain rfl : i = k := by omega
      exact h.2

set_option maxHeartbeats 2000000 in
theorem lisMore_walk (v1 : Value) (d : List Int) (n : Int) (w : World) (h1 : IsI w v1 d) (hlen : d.length ≤ 17592186043904) (_ : (Lit.int .i64 n).wf = true) :
    Calls Try.prog 3 #[v1, .int .i64 n] w fun e w' => e = .returned (.bool true) ∧ Below w.heap.size w w' := by
  obtain ⟨i0, hi, hz0, hz1, hz2⟩ := info_parts infoInt
  have H1 := hide9 h1
  obtain ⟨a1, c1, rfl, hc1, hl1, r1⟩ := h1
  have R1 := hide9 r1
  clear r1
  go_enter Try.func3, Try.ntmps3
  go_wp2
  go_loopw [5, 6] (fun tv iv wr => ∃ i : Nat, i ≤ d.length ∧ iv = .int .i64 (i : Int) ∧ tv = .bool (topB d n i) ∧ wr = w) (fun _ iv _ => d.length - (intOf iv).toNat)
  case atStart => exact ⟨0, Nat.zero_le _, rfl, rfl, rfl⟩
  case round =>
    obtain ⟨i, hk, rfl, rfl, rfl⟩ := hrel
    by_cases hlt : i < d.length
    · have k1 : (i : Int) < (d.length : Int) := by omega
      have k0 : (0 : Int) ≤ (i : Int) := by omega
      obtain ⟨b, o, rfl, g⟩ := R1.out.resolve_left (by intro e; subst e; simp at hlt)
      have x1 := g i hlt
      rw [atD_eq hlt] at x1
      have ht : topB d n (i + 1) = (topB d n i && decide (atD d i < n)) := rfl
      have HT := hide9 ht
      clear g ht
      cases htb : topB d n i
      · rw [htb, Bool.false_and] at HT
        clear htb
        go_wp2
        go_roundw
        case rel => exact ⟨i + 1, by omega, by go_num, by rw [HT.out], by first | rfl | trivial⟩
        case measure => simp [intOf]; omega
      · rw [htb, Bool.true_and] at HT
        clear htb
        go_wp2
        go_roundw
        case rel => exact ⟨i + 1, by omega, by go_num, by rw [HT.out], by first | rfl | trivial⟩
        case measure => simp [intOf]; omega
    · obtain rfl : i = d.length := by omega
      have k1 : ¬ (d.length : Int) < (d.length : Int) := by omega
      have HTop : Hid (topB d n d.length = true → lngL (d ++ [n]) = lngL d + 1) := fun h => lng_top (topB_all h)
      have HMo := hide9 (lng_more d n)
      obtain ⟨tb, etb⟩ : ∃ tb, tb = topB d n d.length := ⟨_, rfl⟩
      rw [← etb] at HTop ⊢
      clear etb
      obtain ⟨W1, eW⟩ : ∃ X, X = wr.alloc (.cells #[] 3) := ⟨_, rfl⟩
      have HO0 : Hid (OwnI wr.heap.size W1 (.slice (some ⟨wr.heap.size, 0, none⟩) 0 0) []) := by rw [eW]; exact OwnI.empty wr _ (Nat.le_refl _)
      have hb1 : Below wr.heap.size wr W1 := by rw [eW]; exact (Below.refl _ _).alloc (Nat.le_refl _) _
      have H2 := hide9 (H1.out.below hb1)
      have B1 := hide9 hb1
      have HE := hide9 eW
      have z1 := hb1.size
      clear eW hb1
      go_wp2_with (first
        | (at_builtin; rw [← HE.out]; refine wpList_appI rfl _ _ rfl wr.heap.size _ [] rfl HO0.out z1 _ d rfl H2.out (by simp; omega) ?_; intro v3 w2 ho2 hg2; have HG : Hid (OwnI wr.heap.size w2 v3 d ∧ Below wr.heap.size wr w2) := ⟨ho2, B1.out.grown hg2 z1 (fun j e => HO0.out.block j e)⟩; have z2 := HG.out.2.size; clear ho2 hg2)
        | (at_builtin; refine wpList_append_own _ rfl _ _ 22 rfl wr.heap.size 3 i0 (.int .i64 0) 1 8 Try.underlying22 hi hz0 hz1 hz2 rfl (by decide) _ _ _ rfl (World.ownsRow.alloc HG.out.1 _) ⟨w2.heap.size, 0, none⟩ 1 1 [.int .i64 n] rfl rfl (cell_one_new _ _ _) (fun x hx => by simp at hx; subst hx; rfl) (by unfold maxLen; omega) (by omega) (by simp; omega) ?_; intro v4 w3 hown3 hgrow3 hnil3; have HG3 : Hid (OwnI wr.heap.size w3 v4 (d ++ [n]) ∧ Below wr.heap.size wr w3) := ⟨OwnI.snoc hown3, (HG.out.2.alloc (by omega) _).grown hgrow3 (by simp; omega) (fun j e => HG.out.1.block j e)⟩; clear hown3 hgrow3 hnil3)
        | fail)
      clear HO0 HE B1 z1 H2 HG
      have V1 := hide9 (HG3.out.1.isI (by simp; omega))
      have L1 := hide9 (H1.out.below HG3.out.2)
      have B1 := hide9 HG3.out.2
      obtain ⟨a4, c4, e4⟩ := HG3.out.1.form
      subst e4
      clear HG3
      refine (long_any _ d _ L1.out).mono ?_
      rintro e w4 ⟨rfl, hb⟩
      have V2 := hide9 (V1.out.below hb)
      have B2 := hide9 (B1.out.trans (hb.mono B1.out.size))
      rw [show (d ++ [n]).length = d.length + 1 by simp] at V2
      clear hb V1 L1 B1
      go_wp2_with fail
      refine (long_any _ (d ++ [n]) _ V2.out).mono ?_
      rintro e w5 ⟨rfl, hb⟩
      have B3 := hide9 (B2.out.trans (hb.mono B2.out.size))
      clear hb V2 B2
      have hA0 := lngL_nonneg d
      have hA1 : lngL d ≤ d.length := by have := (ris_ris d).2; have := ris_len d; omega
      obtain ⟨A, eA⟩ : ∃ A, A = lngL d := ⟨_, rfl⟩
      obtain ⟨B, eB⟩ : ∃ B, B = lngL (d ++ [n]) := ⟨_, rfl⟩
      rw [← eA, ← eB] at HTop HMo
      rw [← eA] at hA0 hA1
      rw [← eA, ← eB]
      clear eA eB
      have n1 : IntKind.i64.wrap (A + 1) = A + 1 := by rw [IntKind.wrap_i64]; omega
      by_cases hAB : B = A
      · subst hAB
        have htb : tb = false := by
          cases tb with
          | false => rfl
          | true => have := HTop.out rfl; omega
        subst htb
        have q1 : (B == B) = true := by simp
        go_wp2_with fail
        refine (awake_any _).mono ?_
        rintro e w6 ⟨rfl, hb⟩
        have B4 := hide9 (B3.out.trans (hb.mono B3.out.size))
        clear hb
        go_wp2
        go_ret
        exact ⟨rfl, B4.out⟩
      · have q2 : B = A + 1 := HMo.out.resolve_left hAB
        subst q2
        have q3 : (A + 1 == A) = false := by simp; omega
        have q4 : (A + 1 == A + 1) = true := by simp
        clear hAB
        cases tb
        · go_wp2_with fail
          refine (awake_any _).mono ?_
          rintro e w6 ⟨rfl, hb⟩
          have B4 := hide9 (B3.out.trans (hb.mono B3.out.size))
          clear hb
          go_wp2
          go_ret
          exact ⟨rfl, B4.out⟩
        · go_wp2_with fail
          refine (awake_any _).mono ?_
          rintro e w6 ⟨rfl, hb⟩
          have B4 := hide9 (B3.out.trans (hb.mono B3.out.size))
          clear hb
          go_wp2
          go_ret
          exact ⟨rfl, B4.out⟩

end Go.Proofs.Ytjnccmkhhnaaiab
