/- What slices.Clone does at lists of numbers, and what Each tells: an iterator over gaps of its own copies. -/
import Derived.Test.YtjcpnjobfedejaaCkG
import Derived.Lib.ItoaMem
import Derived.WalkLawsBesides
namespace Go.Proofs.Ytjcpnjobfedejaa
open Go.RowKit Go.Shelf
set_option linter.unusedVariables false

set_option maxHeartbeats 1000000 in
set_option maxRecDepth 100000 in
theorem cloneI_nil (w : World) (cap : Nat) : Calls Try.prog 32 #[.slice none 0 cap] w fun e w' => e = .returned (.slice none 0 0) ∧ w' = w := by
  have en := fun w => Lib.run_eql_slice_nil (P := Try.prog) w 22 3 none 0 cap 0 0 Try.underlying22
  go_enter Try.func32, Try.ntmps32
  go_wp2
  go_ret
  exact ⟨rfl, rfl⟩

set_option maxHeartbeats 1000000 in
set_option maxRecDepth 100000 in
theorem cloneI_some (ad : Addr) (cap : Nat) (d : List Int) (w : World) (hr : ∀ j u, (cellsI d)[j]? = some u → (w.alloc (.cells #[] 3)).cell? (ad.add j) = some u) (hl : d.length ≤ 17592186044416) :
    Calls Try.prog 32 #[.slice (some ad) d.length cap] w fun e w' => ∃ v', e = .returned v' ∧ OwnI w.heap.size w' v' d ∧ Below w.heap.size w w' := by
  obtain ⟨i0, hi, hz0, hz1, hz2⟩ := info_parts infoInt
  have HN : Hid (∀ j u, (cellsI d)[j]? = some u → (w.alloc (.cells #[] 3)).cell? (ad.add j) = some u) := hr
  have HO : Hid (OwnI w.heap.size (w.alloc (.cells #[] 3)) (.slice (some ⟨w.heap.size, 0, none⟩) 0 0) []) := OwnI.empty w _ (Nat.le_refl _)
  clear hr
  have en := fun w => Lib.run_eql_slice_nil (P := Try.prog) w 22 3 (some ad) d.length cap 0 0 Try.underlying22
  go_enter Try.func32, Try.ntmps32
  go_wp2_with (at_builtin; refine wpList_append_own _ rfl _ _ 22 rfl w.heap.size 3 i0 (.int .i64 0) 1 8 Try.underlying22 hi hz0 hz1 hz2 rfl (by decide) _ _ _ rfl HO.out ad d.length cap (cellsI d) rfl (cellsI_length d) HN.out (cellsI_one d) (by unfold maxLen; simp; omega) (by simp; omega) (by simp) ?_; intro v' w3 hown' hgrow3 hnil3)
  go_ret
  refine ⟨_, rfl, ?_, ?_⟩
  · unfold OwnI
    simpa [cellsI] using hown'
  · exact ((Below.refl _ _).alloc (Nat.le_refl _) _).grown hgrow3 (by simp) (fun j e => HO.out.block j e)

/-- slices.Clone at lists of numbers. -/
theorem cloneI_any (v : Value) (d : List Int) (w : World) (h : IsI w v d) :
    Calls Try.prog 32 #[v] w fun e w' => ∃ v', e = .returned v' ∧ OwnI w.heap.size w' v' d ∧ Below w.heap.size w w' := by
  obtain ⟨a, cap, rfl, hc, hl, h⟩ := h
  match a with
  | none =>
    have e : d = [] := h.resolve_right (fun ⟨_, _, e, _⟩ => by cases e)
    subst e
    exact (cloneI_nil w cap).mono fun e w' ⟨he, hw⟩ => ⟨_, he, by rw [hw]; exact OwnI.nil0 _ _, by rw [hw]; exact Below.refl _ _⟩
  | some ad =>
    refine cloneI_some ad cap d w (fun j u hj => ?_) hl
    rcases h with rfl | ⟨b, o, e, hr⟩
    · simp [cellsI] at hj
    · cases e
      exact (hr.below ((Below.refl _ _).alloc (Nat.le_refl _) _)).news j u hj

/-- What Each goes over: the lists, or none where one of them is wrong. -/
def eachL (d1 d2 d : List Int) : List Int := if twoL d1 d2 = 0 then d else []
theorem eachL_ok {d1 d2 d : List Int} (h : twoL d1 d2 = 0) : eachL d1 d2 d = d := by unfold eachL; rw [if_pos h]
theorem eachL_no {d1 d2 d : List Int} (h : twoL d1 d2 ≠ 0) : eachL d1 d2 d = [] := by unfold eachL; rw [if_neg h]
theorem eachL_okC (d1 d2 : List Int) : OkC (eachL d1 d2 d1) ∧ OkC (eachL d1 d2 d2) := by
  by_cases h : twoL d1 d2 = 0
  · rw [eachL_ok h, eachL_ok h]; exact (twoL_ok d1 d2).1 h
  · rw [eachL_no h, eachL_no h]
    have : OkC [] := ⟨by simp, by simp⟩
    exact ⟨this, this⟩

/-- A list that the call owns lies in a block from B on. -/
theorem OwnI.rowIn {B : Nat} {w : World} {v : Value} {D : List Int} (h : OwnI B w v D) : ∃ a cap, v = .slice a D.length cap ∧ D.length ≤ cap ∧ (D = [] ∨ ∃ b o, a = some ⟨b, o, none⟩ ∧ (B ≤ b ∧ b < w.heap.size) ∧ IntsAt w b o D) := by
  have h0 := h
  rcases h.2 with ⟨rfl, hn⟩ | ⟨g, cap, cur, rfl, hg, hc, hcap, rest⟩
  · exact ⟨none, 0, by rw [hn], by omega, .inl (List.eq_nil_of_length_eq_zero hn)⟩
  · refine ⟨_, cap, rfl, hcap, .inr ⟨g, 0, rfl, ⟨hg, (Array.getElem?_eq_some_iff.1 hc).1⟩, fun i hi => ?_⟩⟩
    have := h0.cellAt i (by omega)
    rw [show 0 + i = i by omega, this]
    simp [cellsI, hi]

/-- What Each tells. -/
def EachIs (lo hi : Nat) (W : World) (B1 B2 : Nat) (e1 e2 : List Int) : Prop :=
  (lo ≤ B1 ∧ B1 < hi) ∧ (lo ≤ B2 ∧ B2 < hi) ∧ ∃ a1 c1 a2 c2, W.cell? ⟨B1, 0, none⟩ = some (.slice a1 e1.length c1) ∧ W.cell? ⟨B2, 0, none⟩ = some (.slice a2 e2.length c2) ∧ e1.length ≤ c1 ∧ e2.length ≤ c2 ∧
    RowIn (fun k => lo ≤ k ∧ k < hi) W a1 e1 ∧ RowIn (fun k => lo ≤ k ∧ k < hi) W a2 e2

theorem eachIs_boxes {w W : World} {lo : Nat} {a1 a2 : Option Addr} {c1 c2 : Nat} {e1 e2 : List Int} (hlo : lo ≤ w.heap.size) (h1 : e1.length ≤ c1) (h2 : e2.length ≤ c2)
    (r1 : e1 = [] ∨ ∃ b o, a1 = some ⟨b, o, none⟩ ∧ (lo ≤ b ∧ b < w.heap.size) ∧ IntsAt w b o e1) (r2 : e2 = [] ∨ ∃ b o, a2 = some ⟨b, o, none⟩ ∧ (lo ≤ b ∧ b < w.heap.size) ∧ IntsAt w b o e2)
    (hW : W = (w.alloc (.cells #[.slice a1 e1.length c1] 22)).alloc (.cells #[.slice a2 e2.length c2] 22)) :
    EachIs lo W.heap.size W w.heap.size (w.heap.size + 1) e1 e2 := by
  have hb : Below w.heap.size w W := by subst hW; exact ((Below.refl _ _).alloc (Nat.le_refl _) _).alloc (by simp) _
  have hz : W.heap.size = w.heap.size + 2 := by subst hW; simp
  have hr : ∀ {a : Option Addr} {e : List Int}, (e = [] ∨ ∃ b o, a = some ⟨b, o, none⟩ ∧ (lo ≤ b ∧ b < w.heap.size) ∧ IntsAt w b o e) → RowIn (fun k => lo ≤ k ∧ k < W.heap.size) W a e := fun h =>
    h.imp id fun ⟨b, o, e, hb', g⟩ => ⟨b, o, e, ⟨hb'.1, by omega⟩, g.below hb⟩
  refine ⟨⟨hlo, by omega⟩, ⟨by omega, by omega⟩, a1, c1, a2, c2, ?_, ?_, h1, h2, hr r1, hr r2⟩
  · subst hW; simp [go_sem, World.cell?_alloc_past]
  · subst hW; simp

set_option maxHeartbeats 1000000 in
/-- clock.Each. -/
theorem each_any (v1 v2 : Value) (d1 d2 : List Int) (w : World) (h1 : IsI w v1 d1) (h2 : IsI w v2 d2) :
    Calls Try.prog 26 #[v1, v2] w fun e w' => ∃ B1 B2, e = .returned (.func (.func 33) #[] #[.pointer (some ⟨B1, 0, none⟩), .pointer (some ⟨B2, 0, none⟩)]) ∧ EachIs w.heap.size w'.heap.size w' B1 B2 (eachL d1 d2 d1) (eachL d1 d2 d2) ∧ Below w.heap.size w w' := by
  have H1 : Hid (IsI w v1 d1) := h1
  have H2 : Hid (IsI w v2 d2) := h2
  clear h1 h2
  by_cases hok : twoL d1 d2 = 0
  · rw [eachL_ok hok, eachL_ok hok]
    go_enter Try.func26, Try.ntmps26
    go_wp2_with (go_at_call 27; refine (both_any _ _ _ _ _ H1.out H2.out).mono ?_; rintro e w' ⟨rfl, hw⟩; replace hw := hw.symm; subst hw)
    refine (cloneI_any _ d1 _ H1.out).mono ?_
    rintro e w1 ⟨x1, rfl, ho1, hb1⟩
    have J2 : Hid (IsI w1 v2 d2) := H2.out.below hb1
    have HO1 : Hid (OwnI w.heap.size w1 x1 d1) := ho1
    have HB1 : Hid (Below w.heap.size w w1) := hb1
    clear ho1 hb1
    go_wp2_with fail
    refine (cloneI_any _ d2 _ J2.out).mono ?_
    rintro e w2 ⟨x2, rfl, ho2, hb2⟩
    have HB2 : Hid (Below w.heap.size w w2) := HB1.out.trans (hb2.mono HB1.out.size)
    obtain ⟨a1, c1, e1, l1, r1⟩ := (HO1.out.below hb2).rowIn
    obtain ⟨a2, c2, e2, l2, r2⟩ := ho2.rowIn
    subst e1 e2
    have z1 := HB1.out.size
    have R1 : Hid (d1 = [] ∨ ∃ b o, a1 = some ⟨b, o, none⟩ ∧ (w.heap.size ≤ b ∧ b < w2.heap.size) ∧ IntsAt w2 b o d1) := r1
    have R2 : Hid (d2 = [] ∨ ∃ b o, a2 = some ⟨b, o, none⟩ ∧ (w.heap.size ≤ b ∧ b < w2.heap.size) ∧ IntsAt w2 b o d2) := r2.imp id fun ⟨b, o, e, h, g⟩ => ⟨b, o, e, ⟨by omega, h.2⟩, g⟩
    clear r1 r2 ho2 hb2 HO1
    go_wp2_with fail
    refine (gaps_any _ _ _ _ _ _ _).mono ?_
    rintro e w3 ⟨rfl, hw3⟩
    have hE := eachIs_boxes HB2.out.size l1 l2 R1.out R2.out hw3
    have hB3 : Below w.heap.size w w3 := by subst hw3; exact (HB2.out.alloc HB2.out.size _).alloc (by have := HB2.out.size; simp; omega) _
    have HE : Hid (EachIs w.heap.size w3.heap.size w3 w2.heap.size (w2.heap.size + 1) d1 d2) := hE
    clear hw3 hE
    go_wp2
    go_ret
    exact ⟨_, _, rfl, HE.out, hB3⟩
  · rw [eachL_no hok, eachL_no hok]
    have q : (twoL d1 d2 != 0) = true := by simp [hok]
    clear hok
    go_enter Try.func26, Try.ntmps26
    go_wp2_with (go_at_call 27; refine (both_any _ _ _ _ _ H1.out H2.out).mono ?_; rintro e w' ⟨rfl, hw⟩; replace hw := hw.symm; subst hw)
    refine (gaps_any _ _ _ _ _ _ _).mono ?_
    rintro e w3 ⟨rfl, hw3⟩
    have hE := eachIs_boxes (e1 := []) (e2 := []) (lo := w.heap.size) (Nat.le_refl _) (Nat.zero_le _) (Nat.zero_le _) (.inl rfl) (.inl rfl) hw3
    have hB3 : Below w.heap.size w w3 := by subst hw3; exact ((Below.refl _ _).alloc (Nat.le_refl _) _).alloc (by simp) _
    have HE : Hid (EachIs w.heap.size w3.heap.size w3 w.heap.size (w.heap.size + 1) [] []) := hE
    clear hw3 hE
    go_wp2
    go_ret
    exact ⟨_, _, rfl, HE.out, hB3⟩

end Go.Proofs.Ytjcpnjobfedejaa
