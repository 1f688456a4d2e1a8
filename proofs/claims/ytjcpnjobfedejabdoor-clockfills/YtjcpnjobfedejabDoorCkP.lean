/- What Gaps does, the program's and the document's; the walk of ClockGaps. -/
import Derived.Test.YtjcpnjobfedejabDoorCkH
import Derived.Test.YtjcpnjobfedejabDoorRowG
import Derived.Deep.RegionHeld3
import Derived.Deep.AppendLies
namespace Go.Proofs.YtjcpnjobfedejabDoor
open Go.RowKit Go.Shelf
set_option linter.unusedVariables false

attribute [local go_sem] Oper.semAt_some

/-- A gap's box. -/
def Box3 (W : World) (B : Nat) (x : Int × Int × Int) : Prop := W.heap[B]? = some (.cells #[.int .i64 x.1, .int .i64 x.2.1, .int .i64 x.2.2] 36 (0, 0))
theorem Box3.lt {W : World} {B : Nat} {x : Int × Int × Int} (h : Box3 W B x) : B < W.heap.size := (Array.getElem?_eq_some_iff.1 h).1
theorem Box3.cell {W : World} {B : Nat} {x : Int × Int × Int} (h : Box3 W B x) : W.cell? ⟨B, 0, none⟩ = some (.int .i64 x.1) ∧ W.cell? ⟨B, 1, none⟩ = some (.int .i64 x.2.1) ∧ W.cell? ⟨B, 2, none⟩ = some (.int .i64 x.2.2) := by
  simp [World.cell?, show W.heap[B]? = _ from h]
theorem Box3.new (W : World) (x : Int × Int × Int) : Box3 (W.alloc (.cells #[.int .i64 x.1, .int .i64 x.2.1, .int .i64 x.2.2] 36)) W.heap.size x := World.alloc_heap_new W _
theorem Box3.kept {W W' : World} {row : Option Nat} {B : Nat} {x : Int × Int × Int} (h : Box3 W B x) (hg : W.grownBy W' row) (hne : some B ≠ row) : Box3 W' B x := (hg.block B h.lt hne).trans h
theorem box3_own {β : Type} (B : Nat) (f : β → Int × Int × Int) : Own (fun s W => Box3 W B (f s)) := fun s X Y row hs hg hrow =>
  hs.kept hg (fun e' => by obtain ⟨o, ho, hc⟩ := hrow B e'.symm; rw [show X.heap[B]? = _ from hs] at ho; cases ho; cases hc)
theorem ownsRow_mono {w : World} {B B' : Nat} {e : TypeId} {size : Nat} {v : Value} {k : Nat} {xs : List Value} (h : w.ownsRow B e size v k xs) (hB : B' ≤ B) : w.ownsRow B' e size v k xs := by
  refine ⟨h.1, ?_⟩
  rcases h.2 with hn | ⟨g, cap, cur, hv, hg, rest⟩
  · exact .inl hn
  · exact .inr ⟨g, cap, cur, hv, by omega, rest⟩
theorem ownFrom_size {β : Type} (B m : Nat) : OwnFrom B (fun (_ : β) W => m ≤ W.heap.size) := fun _ _ _ _ hs hg _ => Nat.le_trans hs hg.size

set_option maxHeartbeats 4000000 in
set_option maxRecDepth 100000 in
theorem gapsList_in (n : Nat) (hn : 4 ≤ n) (v1 v2 : Value) (d1 d2 : List Int) (w : World) (h1 : IsI w v1 d1) (h2 : IsI w v2 d2) (hok : twoL d1 d2 = 0) :
    CallsIn Fence.wide n Tryd.prog 11 #[v1, v2] w fun e w' => ∃ v', e = .returned (.tuple #[v', .int .i64 0]) ∧ OwnG w.heap.size w' v' (gapsL d1 d2) ∧ Below w.heap.size w w' := by
  have hro : Fence.wide.round = none := rfl
  have h1n : 1 ≤ n := by omega
  obtain ⟨i0, hi, hz0, hz1, hz2⟩ := info_parts infoSpan
  obtain ⟨hk1, hk2⟩ := (twoL_ok d1 d2).1 hok
  have H1 : Hid (IsI w v1 d1) := h1
  have H2 : Hid (IsI w v2 d2) := h2
  obtain ⟨a1, c1, rfl, hc1, hl1, r1⟩ := h1
  obtain ⟨a2, c2, rfl, hc2, hl2, r2⟩ := h2
  have HR1 : Hid (d1 = [] ∨ ∃ b o, a1 = some ⟨b, o, none⟩ ∧ IntsAt w b o d1) := r1
  have HR2 : Hid (d2 = [] ∨ ∃ b o, a2 = some ⟨b, o, none⟩ ∧ IntsAt w b o d2) := r2
  have hgl : (gapsL d1 d2).length ≤ 64 := by have := gapsTo_length d1 d2 d1.length; have := hk1.1; unfold gapsL; omega
  clear r1 r2
  refine callsIn_of_wp_marks Tryd.func11 rfl trivial ?_ hro
  simp only [Tryd.ntmps11, List.size_toArray, List.length_cons, List.length_nil, Nat.reduceAdd, Nat.reduceSub, Array.replicate_succ, Array.replicate_zero, List.push_toArray, List.append_toArray, List.nil_append, List.cons_append]
  gi_wp2_with (first
    | (refine ⟨trivial, ?_⟩; gi_at_call 24; refine (callsIn_wide.2 (both_any _ _ _ _ _ H1.out H2.out)).mono ?_; rintro e w' ⟨rfl, hw⟩; replace hw := hw.symm; subst hw)
    | (refine ⟨trivial, ?_⟩; gi_at_call 25; refine (callsIn_wide.2 (gaps_any _ _ _ _ _ _ _)).mono ?_; rintro e w2 ⟨rfl, rfl⟩))
  have bO0 : Boxed (((w.alloc (.cells #[.slice none 0 0] 31)).alloc (.cells #[.slice a1 d1.length c1] 22)).alloc (.cells #[.slice a2 d2.length c2] 22)) w.heap.size 31 (.slice none 0 0) := ((Boxed.new w 31 (.slice none 0 0)).alloc _).alloc _
  have b10 : Boxed (((w.alloc (.cells #[.slice none 0 0] 31)).alloc (.cells #[.slice a1 d1.length c1] 22)).alloc (.cells #[.slice a2 d2.length c2] 22)) (w.heap.size + 1) 22 (.slice a1 d1.length c1) := by
    have := (Boxed.new (w.alloc (.cells #[.slice none 0 0] 31)) 22 (.slice a1 d1.length c1)).alloc (.cells #[.slice a2 d2.length c2] 22)
    simpa using this
  have b20 : Boxed (((w.alloc (.cells #[.slice none 0 0] 31)).alloc (.cells #[.slice a1 d1.length c1] 22)).alloc (.cells #[.slice a2 d2.length c2] 22)) (w.heap.size + 1 + 1) 22 (.slice a2 d2.length c2) := by
    have := Boxed.new ((w.alloc (.cells #[.slice none 0 0] 31)).alloc (.cells #[.slice a1 d1.length c1] 22)) 22 (.slice a2 d2.length c2)
    simpa using this
  have bel0 : Below w.heap.size w (((w.alloc (.cells #[.slice none 0 0] 31)).alloc (.cells #[.slice a1 d1.length c1] 22)).alloc (.cells #[.slice a2 d2.length c2] 22)) := (((Below.refl _ _).alloc (Nat.le_refl _) _).alloc (by simp) _).alloc (by simp; omega) _
  have z0 : (((w.alloc (.cells #[.slice none 0 0] 31)).alloc (.cells #[.slice a1 d1.length c1] 22)).alloc (.cells #[.slice a2 d2.length c2] 22)).heap.size = w.heap.size + 3 := by simp
  obtain ⟨W0, hW0⟩ : ∃ W0, ((w.alloc (.cells #[.slice none 0 0] 31)).alloc (.cells #[.slice a1 d1.length c1] 22)).alloc (.cells #[.slice a2 d2.length c2] 22) = W0 := ⟨_, rfl⟩
  rw [hW0] at bO0 b10 b20 bel0 z0 ⊢
  clear hW0
  obtain ⟨S, hS⟩ : ∃ S : Nat → Prop, ∀ k, S k ↔ (k < w.heap.size ∨ k = w.heap.size + 1 ∨ k = w.heap.size + 1 + 1) := ⟨_, fun _ => Iff.rfl⟩
  have HSn : Hid (∀ k, S k → k < W0.heap.size) := fun k hk => by have := (hS k).1 hk; omega
  have HSO : Hid (¬ S w.heap.size) := fun hk => by have := (hS _).1 hk; omega
  have HST : Hid (SeqStopsK Fence.wide (n - 1) Tryd.prog 32 #[.pointer (some ⟨w.heap.size + 1, 0, none⟩), .pointer (some ⟨w.heap.size + 1 + 1, 0, none⟩)] encG (KeepsS S) (fun ys => ys = gapsL d1 d2) (fun pre => pre <+: gapsL d1 d2) (gapsL d1 d2).length W0) :=
    gaps_stops (n - 1) (by omega) _ _ c1 c2 S a1 a2 d1 d2 hk1 hk2 hc1 hc2 ((hS _).2 (by omega)) ((hS _).2 (by omega)) W0 HSn.out b10.cell b20.cell (rowIn_of S HR1.out bel0 fun k hk => (hS k).2 (.inl hk)) (rowIn_of S HR2.out bel0 fun k hk => (hS k).2 (.inl hk))
  clear hS b10 b20 HR1 HR2 H1 H2
  refine wpIn_rangeFunc_ownH hro h1n (gf := 32) (lb := #[.pointer (some ⟨w.heap.size + 1, 0, none⟩), .pointer (some ⟨w.heap.size + 1 + 1, 0, none⟩)]) rfl trivial (enters_of Tryd.func32 (by kernel_rfl) rfl)
    HST.out KeepsS.trans (keepsSK_b HSn.out) (Below.refl _ _) (fun _ => rfl)
    (fun pre W => ((∃ v, Boxed W w.heap.size 31 v ∧ W.ownsRow W0.heap.size 36 3 v pre.length (flatG pre) ∧ True) ∧ Below w.heap.size w W) ∧ W0.heap.size ≤ W.heap.size)
    (fun _ _ _ => False)
    (OwnFrom.and (OwnFrom.and (Own.from (holdsRow_own W0.heap.size w.heap.size 31 36 3 (fun pre => pre.length) (fun pre => flatG pre) (fun _ _ => True)) _) (ownFrom_below (Nat.le_refl _) (by omega))) (ownFrom_size _ _))
    (fun _ _ _ _ _ hs _ _ => hs)
    ⟨⟨⟨_, bO0, World.ownsRow_nil _ _ _ _, trivial⟩, bel0⟩, Nat.le_refl _⟩
    (fun x a' W => ∃ Bx, Box3 W Bx x ∧ a' = { tmps := #[.slice a1 d1.length c1, .slice a2 d2.length c2, undef, undef, .slice none 0 0, .int .i64 0, .int .i64 0, .pointer (some ⟨w.heap.size, 0, none⟩), .pointer (some ⟨Bx, 0, none⟩), .slice a1 d1.length c1, .slice a2 d2.length c2, .int .i64 0, .int .i64 0, .bool false, undef, .slice a1 d1.length c1, .slice a2 d2.length c2, .func (.func 32) #[] #[.pointer (some ⟨w.heap.size + 1, 0, none⟩), .pointer (some ⟨w.heap.size + 1 + 1, 0, none⟩)], .agg #[.int .i64 x.1, .int .i64 x.2.1, .int .i64 x.2.2], undef, undef, undef, undef, undef], defers := [] })
    (fun x a' _ X Y row hs hg hr => by obtain ⟨Bx, h2, h3⟩ := hs; exact ⟨Bx, box3_own Bx (fun (_ : Unit) => x) () X Y row h2 hg (fun r e => (hr r e).2), h3⟩)
    ?assign ?body ?done ?stop
  case assign =>
    rintro l pre x W K ⟨⟨⟨v1, bv, hr1, _⟩, hB1⟩, hs1⟩ hK
    simp only [encG]
    gi_wp2
    exact hK _ _ ((KeepsOthers.alloc _ _).from _) (KeepsS.of_grown (World.grownBy_alloc _ _ none) (fun k hk => Nat.lt_of_lt_of_le (HSn.out k hk) hs1) (by simp)) ⟨⟨⟨v1, bv.alloc _, hr1.alloc _, trivial⟩, hB1.alloc hB1.size _⟩, by simp; omega⟩ ⟨W.heap.size, Box3.new W x, rfl⟩
  case body =>
    rintro l pre x a' W hl ⟨r, hr⟩ ⟨⟨⟨v1, bv, hr1, _⟩, hB1⟩, hs1⟩ ⟨Bx, hBx, rfl⟩ hlt
    have hc := bv.cell
    have hx := hBx.cell
    obtain ⟨hx1, hx2, hx3⟩ := hx
    have hxl := hBx.lt
    have hl2 : pre.length + 1 ≤ 64 := by omega
    gi_wp2_with (gi_at_builtin; refine wpListIn_append_own _ rfl _ _ 31 rfl W0.heap.size 36 i0 (.agg #[.int .i64 0, .int .i64 0, .int .i64 0]) 3 24 Tryd.underlying31 hi hz0 hz1 hz2 rfl (by decide) _ _ _ rfl (hr1.alloc _) ⟨W.heap.size, 0, none⟩ 1 1 [.int .i64 x.1, .int .i64 x.2.1, .int .i64 x.2.2] rfl rfl (cell_three_new _ _ _ _ _) (fun y hy => by simp at hy; rcases hy with rfl | rfl | rfl <;> rfl) (by unfold maxLen; omega) (by omega) (by simp; omega) ?_; intro v' w1 hown' hgrow _; obtain ⟨g', cap', rfl⟩ := ownsRow_succ hown'; obtain ⟨hv1, hv2, hr2, hk2, hb2⟩ := bv.appended (by decide) (ownsRow_mono hr1 (by omega : w.heap.size ≤ W0.heap.size)) hB1.size (Nat.le_refl _) (ownsRow_mono hown' (by omega)) hgrow; have hc1 := hv1.cell; have hf1 := hv1.frozen)
    have hkin : KeepsS S W (w1.setCell ⟨w.heap.size, 0, none⟩ (.slice (some ⟨g', 0, none⟩) (pre.length + 1) cap')) :=
      ((KeepsS.of_grown (World.grownBy_alloc W _ none) (fun k hk => Nat.lt_of_lt_of_le (HSn.out k hk) hs1) (by simp)).trans (KeepsS.of_grown hgrow (fun k hk => by have := HSn.out k hk; simp; omega) (fun r e hS2 => by have := (World.ownsRow.lt hr1 r e).1; have := HSn.out r hS2; omega))).trans (KeepsS.of_grown (grownBy_setCell' w1 w.heap.size _) (fun k hk => by have h3 := hgrow.size; have h4 := HSn.out k hk; simp at h3; omega) (fun r e hS2 => by cases e; exact HSO.out hS2))
    refine ⟨hk2.from _, hkin, ⟨⟨_, hv2, ?_, trivial⟩, hB1.trans hb2⟩, by have := hkin.1; omega⟩
    rw [flatG_snoc]
    simpa using hown'.kept (grownBy_setCell' w1 w.heap.size _) (.inr (hv1.not_row (by decide) hown').symm)
  case done =>
    rintro D ys W hD rfl ⟨⟨⟨v1, bv, hr1, _⟩, hB1⟩, hs1⟩ hK
    have hc := bv.cell
    gi_wp2
    refine ⟨by simp, .inl ⟨_, _, rfl, run_takeDeferred hK, ?_⟩⟩
    exact ⟨_, results_tmp2 rfl _ _ _, v1, rfl, ownsRow_putObj (ownsRow_mono hr1 (by omega)) _ hK rfl, hB1.trans (belowK_b (w := w) (Nat.le_refl _) W D _ _ (by omega) hK rfl rfl)⟩
  case stop =>
    rintro D c pre W _ _ h _
    exact h.elim

set_option maxHeartbeats 1000000 in
theorem gapsList_no (v1 v2 : Value) (d1 d2 : List Int) (w : World) (h1 : IsI w v1 d1) (h2 : IsI w v2 d2) (hok : twoL d1 d2 ≠ 0) :
    Calls Tryd.prog 11 #[v1, v2] w fun e w' => e = .returned (.tuple #[.slice none 0 0, .int .i64 (twoL d1 d2)]) ∧ Below w.heap.size w w' := by
  have H1 : Hid (IsI w v1 d1) := h1
  have H2 : Hid (IsI w v2 d2) := h2
  have q : (twoL d1 d2 != 0) = true := by simp [hok]
  clear h1 h2 hok
  go_enter Tryd.func11, Tryd.ntmps11
  go_wp2_with (go_at_call 24; refine (both_any _ _ _ _ _ H1.out H2.out).mono ?_; rintro e w' ⟨rfl, hw⟩; replace hw := hw.symm; subst hw)
  go_ret2
  exact ⟨rfl, Below.refl _ _⟩

def gapsR (a b : List Int) : List (Int × Int × Int) := if twoL a b = 0 then gapsL a b else []
theorem gapsR_ok {a b : List Int} (h : twoL a b = 0) : gapsR a b = gapsL a b := by unfold gapsR; rw [if_pos h]
theorem gapsR_no {a b : List Int} (h : twoL a b ≠ 0) : gapsR a b = [] := by unfold gapsR; rw [if_neg h]
theorem gapsR_len (a b : List Int) : (gapsR a b).length ≤ 64 := by
  by_cases h : twoL a b = 0
  · rw [gapsR_ok h]
    have h1 := ((twoL_ok a b).1 h).1.1
    have := gapsTo_length a b a.length
    unfold gapsL
    omega
  · rw [gapsR_no h]; simp

/-- clock.Gaps. -/
theorem gapsList_any (v1 v2 : Value) (d1 d2 : List Int) (w : World) (h1 : IsI w v1 d1) (h2 : IsI w v2 d2) :
    Calls Tryd.prog 11 #[v1, v2] w fun e w' => ∃ v', e = .returned (.tuple #[v', .int .i64 (twoL d1 d2)]) ∧ OwnG w.heap.size w' v' (gapsR d1 d2) ∧ Below w.heap.size w w' := by
  by_cases hok : twoL d1 d2 = 0
  · refine (callsIn_wide.1 (gapsList_in 4 (Nat.le_refl _) v1 v2 d1 d2 w h1 h2 hok)).mono ?_
    rintro e w' ⟨v', rfl, ho, hb⟩
    exact ⟨v', by rw [hok], by rw [gapsR_ok hok]; exact ho, hb⟩
  · refine (gapsList_no v1 v2 d1 d2 w h1 h2 hok).mono ?_
    rintro e w' ⟨rfl, hb⟩
    exact ⟨_, rfl, by rw [gapsR_no hok]; exact OwnG.nil0 _ _, hb⟩

end Go.Proofs.YtjcpnjobfedejabDoor
