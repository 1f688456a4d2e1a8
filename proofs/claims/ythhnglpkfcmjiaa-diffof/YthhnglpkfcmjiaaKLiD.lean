/- Long, Rising, Others: the program's. -/
import Derived.Test.YthhnglpkfcmjiaaKLiC
namespace Go.Proofs.Ythhnglpkfcmjiaa
open Go.RowKit
set_option linter.unusedVariables false
/-- All places from i on, f of them, but those that stand at the head of the part in their turn. -/
def oth : List Int → Nat → Nat → List Int
  | _, 0, _ => []
  | [], f + 1, i => (i : Int) :: oth [] f (i + 1)
  | p :: t, f + 1, i => if p = (i : Int) then oth t f (i + 1) else (i : Int) :: oth (p :: t) f (i + 1)
/-- All places that are not in the longest rising part. -/
def othL (d : List Int) : List Int := oth (risL d) d.length 0
set_option maxRecDepth 100000 in
theorem oth_yes {t : List Int} {f i : Nat} : oth ((i : Int) :: t) (f + 1) i = oth t f (i + 1) := by simp [oth]
set_option maxRecDepth 100000 in
theorem oth_no {t : List Int} {f i : Nat} (h : ∀ p, t.head? = some p → p ≠ (i : Int)) : oth t (f + 1) i = (i : Int) :: oth t f (i + 1) := by
  cases t with
  | nil => rfl
  | cons p t => simp only [oth]; rw [if_neg (h p rfl)]
set_option maxRecDepth 100000 in
theorem oth_len : ∀ (t : List Int) (f i : Nat), (oth t f i).length ≤ f
  | _, 0, _ => by simp [oth]
  | [], f + 1, i => by simp only [oth, List.length_cons]; have := oth_len [] f (i + 1); omega
  | p :: t, f + 1, i => by
    simp only [oth]
    split
    · have := oth_len t f (i + 1); omega
    · have := oth_len (p :: t) f (i + 1); simp only [List.length_cons]; omega
set_option maxRecDepth 100000 in
theorem rst_len (d : List Int) : ∀ (f i : Nat) (left : Int), (pick d f i left).length ≤ f
  | 0, _, _ => by simp [pick]
  | f + 1, i, left => by
    simp only [pick]
    split
    · have := rst_len d f (i + 1) (left - 1); simp only [List.length_cons]; omega
    · have := rst_len d f (i + 1) left; omega
set_option maxRecDepth 100000 in
theorem ris_len (d : List Int) : (risL d).length ≤ d.length := rst_len d _ _ _
set_option maxRecDepth 100000 in
set_option maxHeartbeats 2000000 in
/-- lis.Rising. -/
theorem rising_any (v : Value) (d : List Int) (w : World) (h1 : IsI w v d) :
    Calls Try.prog 75 #[v] w fun e w' => ∃ v', e = .returned v' ∧ OwnI w.heap.size w' v' (risL d) ∧ Below w.heap.size w w' := by
  obtain ⟨i0, hi, hz0, hz1, hz2⟩ := info_parts infoInt
  have H1 := hide9 h1
  obtain ⟨a1, c1, rfl, hc1, hl1, r1⟩ := h1
  clear r1
  go_enter Try.func75, Try.ntmps75
  go_wp2_with fail
  refine (lens_any _ d _ H1.out).mono ?_
  rintro e w1 ⟨g, rfl, hg, hr, hb⟩
  have HR := hide9 hr
  have HB := hide9 hb
  clear hr hb
  go_wp2
  go_loopw [4, 5, 14] (fun left out iv wr => ∃ (i : Nat) (lf : Int) (D : List Int), i ≤ d.length ∧ iv = .int .i64 (i : Int) ∧ left = .int .i64 lf ∧ D.length ≤ i ∧ lf + D.length = lngL d ∧ Hid (D ++ rstL d i lf = risL d) ∧ Hid (RowF wr g (begL d)) ∧ Hid (OwnI (g + 1) wr out D) ∧ Hid (Below w.heap.size w wr)) (fun _ _ iv _ => d.length - (intOf iv).toNat)
  case atStart => exact ⟨0, lngL d, [], Nat.zero_le _, rfl, rfl, Nat.le_refl _, by simp, by show _ = _; exact rstL_zero d, HR, OwnI.nil0 _ _, HB⟩
  case round =>
    obtain ⟨i, lf, D, hk, rfl, rfl, hDi, hlf, HD, HRr, HO, HBr⟩ := hrel
    have hsz := HBr.out.size
    have hln := lngL_nonneg d
    have hlg : lngL d ≤ 17592186044416 := by have := (ris_ris d).2; have := ris_len d; omega
    obtain ⟨ao, co, e0⟩ := HO.out.form
    subst e0
    by_cases hlt : i < d.length
    · have x1 := HRr.out.cell (i := i) (by rw [begL_length]; exact hlt)
      have k1 : (i : Int) < (d.length : Int) := by omega
      have k0 : (0 : Int) ≤ (i : Int) := by omega
      obtain ⟨b, eb⟩ : ∃ b, b = bgA d i := ⟨_, rfl⟩
      rw [show atD (begL d) i = b from eb.symm] at x1
      have n1 : IntKind.i64.wrap (lf - 1) = lf - 1 := by rw [IntKind.wrap_i64]; omega
      by_cases hx : b = lf
      · have HD2 : Hid ((D ++ [(i : Int)]) ++ rstL d (i + 1) (lf - 1) = risL d) := by show _ = _; have := HD.out; rw [rstL_yes hlt (by rw [← eb, hx])] at this; simpa using this
        rw [hx] at x1
        have hgs := HRr.out.lt
        clear hx eb
        go_wp2_with (at_builtin; refine wpList_append_own _ rfl _ _ 78 rfl (g + 1) 3 i0 (.int .i64 0) 1 8 Try.underlying78 hi hz0 hz1 hz2 rfl (by decide) _ _ _ rfl (World.ownsRow.alloc HO.out _) ⟨wr.heap.size, 0, none⟩ 1 1 [.int .i64 (i : Int)] rfl rfl (cell_one_new _ _ _) (fun x hx => by simp at hx; subst hx; rfl) (by unfold maxLen; omega) (by omega) (by simp; omega) ?_; intro v' w3 hown' hgrow3 hnil3)
        go_roundw
        case rel =>
          have h5 : OwnI (g + 1) w3 v' (D ++ [(i : Int)]) := OwnI.snoc hown'
          have hnb : ∀ j, (Value.slice ao D.length co).ownBlock = some j → g < j := fun j e => HO.out.block j e
          exact ⟨i + 1, lf - 1, D ++ [(i : Int)], by omega, by go_num, rfl, by simp; omega, by simp; omega, HD2, by (show RowF _ _ _; unfold RowF; rw [hgrow3.block g (by simp; omega) (fun e => by have := hnb g e.symm; omega)]; exact (HRr.out.below ((Below.refl _ _).alloc (Nat.le_refl _) _))), h5, (HBr.out.alloc (by omega) _).grown hgrow3 (by simp; omega) (fun j e => by have := hnb j e; omega)⟩
        case measure => simp [intOf]; omega
      · have HD2 : Hid (D ++ rstL d (i + 1) lf = risL d) := by show _ = _; have := HD.out; rw [rstL_no hlt (by rw [← eb]; exact hx)] at this; exact this
        have q2 : (b == lf) = false := by simp [hx]
        clear hx
        go_wp2
        go_roundw
        case rel => exact ⟨i + 1, lf, D, by omega, by go_num, rfl, by omega, hlf, HD2, HRr, HO, HBr⟩
        case measure => simp [intOf]; omega
    · have HE : Hid (D = risL d) := by show _ = _; have := HD.out; rw [rstL_end (by omega)] at this; simpa using this
      go_wp2
      go_ret
      exact ⟨_, rfl, by rw [← HE.out]; exact ⟨HO.out.1, HO.out.2.imp id fun ⟨g2, c2, cur, hv, hg2, rest⟩ => ⟨g2, c2, cur, hv, by omega, rest⟩⟩, HBr.out⟩
end Go.Proofs.Ythhnglpkfcmjiaa
