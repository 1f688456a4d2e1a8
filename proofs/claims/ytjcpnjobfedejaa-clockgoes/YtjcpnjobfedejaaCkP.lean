/- What Gaps does, the program's and the document's; the walk of ClockGaps. -/
import Derived.Test.YtjcpnjobfedejaaCkH
import Derived.Test.YtjcpnjobfedejaaRowG
import Derived.Deep.RegionHeld3
import Derived.Deep.AppendLies
namespace Go.Proofs.Ytjcpnjobfedejaa
open Go.RowKit Go.Shelf
set_option linter.unusedVariables false

attribute [local go_sem] Oper.semAt_some

/-- A gap's box. -/
def Box3 (W : World) (B : Nat) (x : Int × Int × Int) : Prop := W.heap[B]? = some (.cells #[.int .i64 x.1, .int .i64 x.2.1, .int .i64 x.2.2] 43 (0, 0))
theorem Box3.lt {W : World} {B : Nat} {x : Int × Int × Int} (h : Box3 W B x) : B < W.heap.size := (Array.getElem?_eq_some_iff.1 h).1
theorem Box3.cell {W : World} {B : Nat} {x : Int × Int × Int} (h : Box3 W B x) : W.cell? ⟨B, 0, none⟩ = some (.int .i64 x.1) ∧ W.cell? ⟨B, 1, none⟩ = some (.int .i64 x.2.1) ∧ W.cell? ⟨B, 2, none⟩ = some (.int .i64 x.2.2) := by
  simp [World.cell?, show W.heap[B]? = _ from h]
theorem Box3.new (W : World) (x : Int × Int × Int) : Box3 (W.alloc (.cells #[.int .i64 x.1, .int .i64 x.2.1, .int .i64 x.2.2] 43)) W.heap.size x := World.alloc_heap_new W _
theorem Box3.kept {W W' : World} {row : Option Nat} {B : Nat} {x : Int × Int × Int} (h : Box3 W B x) (hg : W.grownBy W' row) (hne : some B ≠ row) : Box3 W' B x := (hg.block B h.lt hne).trans h
theorem box3_own {β : Type} (B : Nat) (f : β → Int × Int × Int) : Own (fun s W => Box3 W B (f s)) := fun s X Y row hs hg hrow =>
  hs.kept hg (fun e' => by obtain ⟨o, ho, hc⟩ := hrow B e'.symm; rw [show X.heap[B]? = _ from hs] at ho; cases ho; cases hc)
theorem ownsRow_mono {w : World} {B B' : Nat} {e : TypeId} {size : Nat} {v : Value} {k : Nat} {xs : List Value} (h : w.ownsRow B e size v k xs) (hB : B' ≤ B) : w.ownsRow B' e size v k xs := by
  refine ⟨h.1, ?_⟩
  rcases h.2 with hn | ⟨g, cap, cur, hv, hg, rest⟩
  · exact .inl hn
  · exact .inr ⟨g, cap, cur, hv, by omega, rest⟩
theorem ownFrom_size {β : Type} (B m : Nat) : OwnFrom B (fun (_ : β) W => m ≤ W.heap.size) := fun _ _ _ _ hs hg _ => Nat.le_trans hs hg.size

set_option maxHeartbeats 4000000 in
set_option maxRecDepth 100000 in
theorem gapsList_in (n : Nat) (hn : 4 ≤ n) (v1 v2 : Value) (d1 d2 : List Int) (w : World) (h1 : IsI w v1 d1) (h2 : IsI w v2 d2) (hok : twoL d1 d2 = 0) :
    CallsIn Fence.wide n Try.prog 23 #[v1, v2] w fun e w' => ∃ v', e = .returned (.tuple #[v', .int .i64 0]) ∧ OwnG w.heap.size w' v' (gapsL d1 d2) ∧ Below w.heap.size w w' := by
  have hro : Fence.wide.round = none := rfl
  have h1n : 1 ≤ n := by omega
  obtain ⟨i0, hi, hz0, hz1, hz2⟩ := info_parts infoSpan
  obtain ⟨hk1, hk2⟩ := (twoL_ok d1 d2).1 hok
  have H1 : Hid (IsI w v1 d1) := h1
  have H2 : Hid (IsI w v2 d2) := h2
  obtain ⟨a1, c1, rfl, hc1, hl1, r1⟩ := h1
  obtain ⟨a2, c2, rfl, hc2, hl2, r2⟩ := h2
  have HR1 : Hid (d1 = [] ∨ ∃ b o, a1 = some ⟨b, o, none⟩ ∧ IntsAt w b o d1) := r1
  have HR2 : Hid (d2 = [] ∨ ∃ b o, a2 = some ⟨b, o, none⟩ ∧ IntsAt w b o d2) := r2
  have hgl : (gapsL d1 d2).length ≤ 64 := by have := gapsTo_length d1 d2 d1.length; have := hk1.1; unfold gapsL; omega
  clear r1 r2
  refine callsIn_of_wp_marks Try.func23 rfl trivial ?_ hro
  simp only [Try.ntmps23, List.size_toArray, List.length_cons, List.length_nil, Nat.reduceAdd, Nat.reduceSub, Array.replicate_succ, Array.replicate_zero, List.push_toArray, List.append_toArray, List.nil_append, List.cons_append]
  gi_wp2_with (first
    | (refine ⟨trivial, ?_⟩; gi_at_call 27; refine (callsIn_wide.2 (both_any _ _ _ _ _ H1.out H2.out)).mono ?_; rintro e w' ⟨rfl, hw⟩; replace hw := hw.symm; subst hw)
    | (refine ⟨trivial, ?_⟩; gi_at_call 31; refine (callsIn_wide.2 (gaps_any _ _ _ _ _ _ _)).mono ?_; rintro e w2 ⟨rfl, rfl⟩))
  have bO0 : Boxed (((w.alloc (.cells #[.slice none 0 0] 35)).alloc (.cells #[.slice a1 d1.length c1] 22)).alloc (.cells #[.slice a2 d2.length c2] 22)) w.heap.size 35 (.slice none 0 0) := ((Boxed.new w 35 (.slice none 0 0)).alloc _).alloc _
  have b10 : Boxed (((w.alloc (.cells #[.slice none 0 0] 35)).alloc (.cells #[.slice a1 d1.length c1] 22)).alloc (.cells #[.slice a2 d2.length c2] 22)) (w.heap.size + 1) 22 (.slice a1 d1.length c1) := by
    have := (Boxed.new (w.alloc (.cells #[.slice none 0 0] 35)) 22 (.slice a1 d1.length c1)).alloc (.cells #[.slice a2 d2.length c2] 22)
    simpa using this
  have b20 : Boxed (((w.alloc (.cells #[.slice none 0 0] 35)).alloc (.cells #[.slice a1 d1.length c1] 22)).alloc (.cells #[.slice a2 d2.length c2] 22)) (w.heap.size + 1 + 1) 22 (.slice a2 d2.length c2) := by
    have := Boxed.new ((w.alloc (.cells #[.slice none 0 0] 35)).alloc (.cells #[.slice a1 d1.length c1] 22)) 22 (.slice a2 d2.length c2)
    simpa using this
  have bel0 : Below w.heap.size w (((w.alloc (.cells #[.slice none 0 0] 35)).alloc (.cells #[.slice a1 d1.length c1] 22)).alloc (.cells #[.slice a2 d2.length c2] 22)) := (((Below.refl _ _).alloc (Nat.le_refl _) _).alloc (by simp) _).alloc (by simp; omega) _
  have z0 : (((w.alloc (.cells #[.slice none 0 0] 35)).alloc (.cells #[.slice a1 d1.length c1] 22)).alloc (.cells #[.slice a2 d2.length c2] 22)).heap.size = w.heap.size + 3 := by simp
  obtain ⟨W0, hW0⟩ : ∃ W0, ((w.alloc (.cells #[.slice none 0 0] 35)).alloc (.cells #[.slice a1 d1.length c1] 22)).alloc (.cells #[.slice a2 d2.length c2] 22) = W0 := ⟨_, rfl⟩
  rw [hW0] at bO0 b10 b20 bel0 z0 ⊢
  clear hW0
  obtain ⟨S, hS⟩ : ∃ S : Nat → Prop, ∀ k, S k ↔ (k < w.heap.size ∨ k = w.heap.size + 1 ∨ k = w.heap.size + 1 + 1) := ⟨_, fun _ => Iff.rfl⟩
  have HSn : Hid (∀ k, S k → k < W0.heap.size) := fun k hk => by have := (hS k).1 hk; omega
  have HSO : Hid (¬ S w.heap.size) := fun hk => by have := (hS _).1 hk; omega
  have HST : Hid (SeqStopsK Fence.wide (n - 1) Try.prog 33 #[.pointer (some ⟨w.heap.size + 1, 0, none⟩), .pointer (some ⟨w.heap.size + 1 + 1, 0, none⟩)] encG (KeepsS S) (fun ys => ys = gapsL d1 d2) (fun pre => pre <+: gapsL d1 d2) (gapsL d1 d2).length W0) :=
    gaps_stops (n - 1) (by omega) _ _ c1 c2 S a1 a2 d1 d2 hk1 hk2 hc1 hc2 ((hS _).2 (by omega)) ((hS _).2 (by omega)) W0 HSn.out b10.cell b20.cell (rowIn_of S HR1.out bel0 fun k hk => (hS k).2 (.inl hk)) (rowIn_of S HR2.out bel0 fun k hk => (hS k).2 (.inl hk))
  clear hS b10 b20 HR1 HR2 H1 H2
  refine wpIn_rangeFunc_ownH hro h1n (gf := 33) (lb := #[.pointer (some ⟨w.heap.size + 1, 0, none⟩), .pointer (some ⟨w.heap.size + 1 + 1, 0, none⟩)]) rfl trivial (enters_of Try.func33 (by kernel_rfl) rfl)
    HST.out KeepsS.trans (keepsSK_b HSn.out) (Below.refl _ _) (fun _ => rfl)
    (fun pre W => ((∃ v, Boxed W w.heap.size 35 v ∧ W.ownsRow W0.heap.size 43 3 v pre.length (flatG pre) ∧ True) ∧ Below w.heap.size w W) ∧ W0.heap.size ≤ W.heap.size)
    (fun _ _ _ => False)
    (OwnFrom.and (OwnFrom.and (Own.from (holdsRow_own W0.heap.size w.heap.size 35 43 3 (fun pre => pre.length) (fun pre => flatG pre) (fun _ _ => True)) _) (ownFrom_below (Nat.le_refl _) (by omega))) (ownFrom_size _ _))
    (fun _ _ _ _ _ hs _ _ => hs)
    ⟨⟨⟨_, bO0, World.ownsRow_nil _ _ _ _, trivial⟩, bel0⟩, Nat.le_refl _⟩
    (fun x a' W => ∃ Bx, Box3 W Bx x ∧ a' = { tmps := #[.slice a1 d1.length c1, .slice a2 d2.length c2, undef, undef, .slice none 0 0, .int .i64 0, .int .i64 0, .pointer (some ⟨w.heap.size, 0, none⟩), .pointer (some ⟨Bx, 0, none⟩), .slice a1 d1.length c1, .slice a2 d2.length c2, .int .i64 0, .int .i64 0, .bool false, undef, .slice a1 d1.length c1, .slice a2 d2.length c2, .func (.func 33) #[] #[.pointer (some ⟨w.heap.size + 1, 0, none⟩), .pointer (some ⟨w.heap.size + 1 + 1, 0, none⟩)], .agg #[.int .i64 x.1, .int .i64 x.2.1, .int .i64 x.2.2], undef, undef, undef, undef, undef], defers := [] })
    (fun x a' _ X Y row hs hg hr => by obtain ⟨Bx, h2, h3⟩ := hs; exact ⟨Bx, box3_own Bx (fun (_ : Unit) => x) () X Y row h2 hg (fun r e => (hr r e).2), h3⟩)
    ?assign ?body ?done ?stop
  case assign =>
    rintro l pre x W K ⟨⟨⟨v1, bv, hr1, _⟩, hB1⟩, hs1⟩ hK
    simp only [encG]
    gi_wp2
    exact hK _ _ ((KeepsOthers.alloc _ _).from _) (KeepsS.of_grown (World.grownBy_alloc _ _ none) (fun k hk => Nat.lt_of_lt_of_le (HSn.out k hk) hs1) (by simp)) ⟨⟨⟨v1, bv.alloc _, hr1.alloc _, trivial⟩, hB1.alloc hB1.size _⟩, by simp; omega⟩ ⟨W.heap.size, Box3.new W x, rfl⟩
  case body =>
    rintro l pre x a' W hl ⟨r, hr⟩ ⟨⟨⟨v1, bv, hr1, _⟩, hB1⟩, hs1⟩ ⟨Bx, hBx, rfl⟩ hlt
    have hc := bv.cell
    have hx := hBx.cell
    obtain ⟨hx1, hx2, hx3⟩ := hx
    have hxl := hBx.lt
    have hl2 : pre.length + 1 ≤ 64 := by omega
    gi_wp2_with (gi_at_builtin; refine wpListIn_append_own _ rfl _ _ 35 rfl W0.heap.size 43 i0 (.agg #[.int .i64 0, .int .i64 0, .int .i64 0]) 3 24 Try.underlying35 hi hz0 hz1 hz2 rfl (by decide) _ _ _ rfl (hr1.alloc _) ⟨W.heap.size, 0, none⟩ 1 1 [.int .i64 x.1, .int .i64 x.2.1, .int .i64 x.2.2] rfl rfl (cell_three_new _ _ _ _ _) (fun y hy => by simp at hy; rcases hy with rfl | rfl | rfl <;> rfl) (by unfold maxLen; omega) (by omega) (by simp; omega) ?_; intro v' w1 hown' hgrow _; obtain ⟨g', cap', rfl⟩ := ownsRow_succ hown'; obtain ⟨hv1, hv2, hr2, hk2, hb2⟩ := bv.appended (by decide) (ownsRow_mono hr1 (by omega : w.heap.size ≤ W0.heap.size)) hB1.size (Nat.le_refl _) (ownsRow_mono hown' (by omega)) hgrow; have hc1 := hv1.cell; have hf1 := hv1.frozen)
    have hkin : KeepsS S W (w1.setCell ⟨w.heap.size, 0, none⟩ (.slice (some ⟨g', 0, none⟩) (pre.length + 1) cap')) :=
      ((KeepsS.of_grown (World.grownBy_alloc W _ none) (fun k hk => Nat.lt_of_lt_of_le (HSn.out k hk) hs1) (by simp)).trans (KeepsS.of_grown hgrow (fun k hk => by have := HSn.out k hk; simp; omega) (fun r e hS2 => by have := (World.ownsRow.lt hr1 r e).1; have := HSn.out r hS2; omega))).trans (KeepsS.of_grown (grownBy_setCell' w1 w.heap.size _) (fun k hk => by have h3 := hgrow.size; have h4 := HSn.out k hk; simp at h3; omega) (fun r e hS2 => by cases e; exact HSO.out hS2))
    refine ⟨hk2.from _, hkin, ⟨⟨_, hv2, ?_, trivial⟩, hB1.trans hb2⟩, by have := hkin.1; omega⟩
    rw [flatG_snoc]
    simpa using hown'.kept (grownBy_setCell' w1 w.heap.size _) (.inr (hv1.not_row (by decide) hown').symm)
  case done =>
    rintro D ys W hD rfl ⟨⟨⟨v1, bv, hr1, _⟩, hB1⟩, hs1⟩ hK
    have hc := bv.cell
    gi_wp2
    refine ⟨by simp, .inl ⟨_, _, rfl, run_takeDeferred hK, ?_⟩⟩
    exact ⟨_, results_tmp2 rfl _ _ _, v1, rfl, ownsRow_putObj (ownsRow_mono hr1 (by omega)) _ hK rfl, hB1.trans (belowK_b (w := w) (Nat.le_refl _) W D _ _ (by omega) hK rfl rfl)⟩
  case stop =>
    rintro D c pre W _ _ h _
    exact h.elim

set_option maxHeartbeats 1000000 in
theorem gapsList_no (v1 v2 : Value) (d1 d2 : List Int) (w : World) (h1 : IsI w v1 d1) (h2 : IsI w v2 d2) (hok : twoL d1 d2 ≠ 0) :
    Calls Try.prog 23 #[v1, v2] w fun e w' => e = .returned (.tuple #[.slice none 0 0, .int .i64 (twoL d1 d2)]) ∧ Below w.heap.size w w' := by
  have H1 : Hid (IsI w v1 d1) := h1
  have H2 : Hid (IsI w v2 d2) := h2
  have q : (twoL d1 d2 != 0) = true := by simp [hok]
  clear h1 h2 hok
  go_enter Try.func23, Try.ntmps23
  go_wp2_with (go_at_call 27; refine (both_any _ _ _ _ _ H1.out H2.out).mono ?_; rintro e w' ⟨rfl, hw⟩; replace hw := hw.symm; subst hw)
  go_ret2
  exact ⟨rfl, Below.refl _ _⟩

def gapsR (a b : List Int) : List (Int × Int × Int) := if twoL a b = 0 then gapsL a b else []
theorem gapsR_ok {a b : List Int} (h : twoL a b = 0) : gapsR a b = gapsL a b := by unfold gapsR; rw [if_pos h]
theorem gapsR_no {a b : List Int} (h : twoL a b ≠ 0) : gapsR a b = [] := by unfold gapsR; rw [if_neg h]
theorem gapsR_len (a b : List Int) : (gapsR a b).length ≤ 64 := by
  by_cases h : twoL a b = 0
  · rw [gapsR_ok h]
    have h1 := ((twoL_ok a b).1 h).1.1
    have := gapsTo_length a b a.length
    unfold gapsL
    omega
  · rw [gapsR_no h]; simp

/-- clock.Gaps. -/
theorem gapsList_any (v1 v2 : Value) (d1 d2 : List Int) (w : World) (h1 : IsI w v1 d1) (h2 : IsI w v2 d2) :
    Calls Try.prog 23 #[v1, v2] w fun e w' => ∃ v', e = .returned (.tuple #[v', .int .i64 (twoL d1 d2)]) ∧ OwnG w.heap.size w' v' (gapsR d1 d2) ∧ Below w.heap.size w w' := by
  by_cases hok : twoL d1 d2 = 0
  · refine (callsIn_wide.1 (gapsList_in 4 (Nat.le_refl _) v1 v2 d1 d2 w h1 h2 hok)).mono ?_
    rintro e w' ⟨v', rfl, ho, hb⟩
    exact ⟨v', by rw [hok], by rw [gapsR_ok hok]; exact ho, hb⟩
  · refine (gapsList_no v1 v2 d1 d2 w h1 h2 hok).mono ?_
    rintro e w' ⟨rfl, hb⟩
    exact ⟨_, rfl, by rw [gapsR_no hok]; exact OwnG.nil0 _ _, hb⟩

set_option maxHeartbeats 1000000 in
theorem refGaps_no (v1 v2 : Value) (d1 d2 : List Int) (w : World) (h1 : IsI w v1 d1) (h2 : IsI w v2 d2) (hok : twoL d1 d2 ≠ 0) :
    Calls Try.prog 24 #[v1, v2] w fun e w' => e = .returned (.tuple #[.slice none 0 0, .int .i64 (twoL d1 d2)]) ∧ Below w.heap.size w w' := by
  have H1 : Hid (IsI w v1 d1) := h1
  have H2 : Hid (IsI w v2 d2) := h2
  have q : (twoL d1 d2 != 0) = true := by simp [hok]
  clear h1 h2 hok
  go_enter Try.func24, Try.ntmps24
  go_wp2_with (go_at_call 28; refine (two_any _ _ _ _ _ H1.out H2.out).mono ?_; rintro e w' ⟨rfl, hw⟩; replace hw := hw.symm; subst hw)
  go_ret2
  exact ⟨rfl, Below.refl _ _⟩

set_option maxHeartbeats 2000000 in
set_option maxRecDepth 100000 in
/-- The document's Gaps, of right clocks. -/
theorem refGaps_ok (v1 v2 : Value) (d1 d2 : List Int) (w : World) (h1 : IsI w v1 d1) (h2 : IsI w v2 d2) (hok : twoL d1 d2 = 0) :
    Calls Try.prog 24 #[v1, v2] w fun e w' => ∃ v', e = .returned (.tuple #[v', .int .i64 0]) ∧ OwnG w.heap.size w' v' (gapsL d1 d2) ∧ Below w.heap.size w w' := by
  obtain ⟨i0, hi, hz0, hz1, hz2⟩ := info_parts infoSpan
  obtain ⟨hk1, hk2⟩ := (twoL_ok d1 d2).1 hok
  have HK1 : Hid (OkC d1) := hk1
  have HK2 : Hid (OkC d2) := hk2
  have l1 := hk1.1
  have l2 := hk2.1
  clear hk1 hk2
  have H1 : Hid (IsI w v1 d1) := h1
  have H2 : Hid (IsI w v2 d2) := h2
  obtain ⟨a1, c1, rfl, hc1, hl1, r1⟩ := h1
  have HR : Hid (d1 = [] ∨ ∃ b o, a1 = some ⟨b, o, none⟩ ∧ IntsAt w b o d1) := r1
  clear r1
  obtain ⟨a2, c2, e2⟩ := h2.form
  subst e2
  clear h2
  have HO0 : Hid (OwnG w.heap.size (w.alloc (.cells #[] 43)) (.slice (some ⟨w.heap.size, 0, none⟩) 0 0) (gapsTo d1 d2 0)) := OwnG.empty w _ (Nat.le_refl _)
  have HB0 : Hid (Below w.heap.size w (w.alloc (.cells #[] 43))) := (Below.refl _ _).alloc (Nat.le_refl _) _
  go_enter Try.func24, Try.ntmps24
  go_wp2_with (go_at_call 28; refine (two_any _ _ _ _ _ H1.out H2.out).mono ?_; rintro e w' ⟨rfl, hw⟩; replace hw := hw.symm; subst hw)
  go_loopw [6, 7] (fun out i wr => ∃ k : Nat, k ≤ d1.length ∧ i = .int .i64 (k : Int) ∧ Hid (OwnG w.heap.size wr out (gapsTo d1 d2 k)) ∧ Hid (Below w.heap.size w wr)) (fun _ i _ => d1.length - (intOf i).toNat)
  case atStart => exact ⟨0, Nat.zero_le _, rfl, HO0, HB0⟩
  case round =>
    obtain ⟨k, hk, rfl, HO, HB⟩ := hrel
    have hsz := HB.out.size
    obtain ⟨ao, co, e0⟩ := HO.out.form
    subst e0
    by_cases hlt : k < d1.length
    · obtain ⟨b1, o1, rfl, g1⟩ := HR.out.resolve_left (by intro e; subst e; simp at hlt)
      have HG : Hid (IntsAt w b1 o1 d1) := g1
      have x1 := (g1.below HB.out) k hlt
      rw [← getD_at hlt] at x1
      clear g1
      have k1 : (k : Int) < (d1.length : Int) := by omega
      have k0 : (0 : Int) ≤ (k : Int) := by omega
      obtain ⟨b11, b12⟩ := HK1.out.getD k
      obtain ⟨b21, b22⟩ := HK2.out.getD k
      have hgl := gapsTo_length d1 d2 k
      have HT : Hid (gapsTo d1 d2 (k + 1) = gapsTo d1 d2 k ++ if d2.getD k 0 < d1.getD k 0 then [((k : Int), d2.getD k 0 + 1, d1.getD k 0)] else []) := gapsTo_succ d1 d2 k
      have HA : Hid (∀ W', Below w.heap.size w W' → Calls Try.prog 12 #[.slice a2 d2.length c2, .int .i64 (k : Int)] W' fun e w' => e = .returned (.int .i64 (d2.getD k 0)) ∧ w' = W') := fun W' hb => by
        have := refAt_any (.slice a2 d2.length c2) d2 (k : Int) W' (H2.out.below hb)
        rw [atL_nat] at this
        exact this
      have HX : Hid (∀ W', Below w.heap.size w W' → W'.cell? ⟨b1, o1 + k, none⟩ = some (.int .i64 (d1.getD k 0))) := fun W' hb => by
        rw [getD_at hlt]; exact (HG.out.below hb) k hlt
      generalize d1.getD k 0 = p at *
      generalize d2.getD k 0 = q at *
      generalize hL : (gapsTo d1 d2 k).length = L at *
      by_cases hqp : q < p
      · have HT2 : Hid (gapsTo d1 d2 (k + 1) = gapsTo d1 d2 k ++ [((k : Int), q + 1, p)]) := by show _ = _; rw [HT.out, if_pos hqp]
        go_wp2
        go_quiet ((go_at_call 12; exact Calls.quiet_of_same (HA.out _ (below_drewN HB.out _))))
        go_wp2
        have hbd : Below w.heap.size w (wr.drewN nq).drew := (below_drewN HB.out nq).drew
        have HOd : Hid (OwnG w.heap.size (wr.drewN nq).drew (.slice ao L co) (gapsTo d1 d2 k)) := HO.out
        have zd : (wr.drewN nq).drew.heap.size = wr.heap.size := rfl
        have HBd : Hid (Below w.heap.size w (wr.drewN nq).drew) := hbd
        clear hbd
        generalize hWd : (wr.drewN nq).drew = Wd at HOd zd HBd
        refine wp_region_held_drew (S := fun W' => W'.cell? ⟨b1, o1 + k, none⟩ = some (.int .i64 p) ∧ Below w.heap.size w W') (by kernel_rfl) (by rw [hWd]; exact ⟨HX.out _ HBd.out, HBd.out⟩) (fun hHeld => ?_)
        rw [hWd] at hHeld ⊢
        refine wpAnyH_take (i := 0) (oi := ⟨some 30, _, _, _, _, _⟩) (v := ?va0) rfl (by kernel_rfl) (by kernel_rfl) (by kernel_rfl) (fun _ _ _ h => h) (Or.inl ⟨by rfl, ?hya0⟩) hHeld ?resta0
        case hya0 => (intro w hSw; (try dsimp only at hSw); go_simp; try with_reducible rfl)
        simp only [Act.put, List.setIfInBounds_toArray, List.set_cons_zero, List.set_cons_succ]
        refine wpAnyH_take (i := 1) (oi := ⟨some 31, _, _, _, _, _⟩) (v := ?va1) rfl (by kernel_rfl) (by kernel_rfl) (by kernel_rfl) (fun _ _ _ h => h) (Or.inl ⟨by rfl, ?hya1⟩) hHeld ?resta1
        case hya1 => (intro w hSw; (try dsimp only at hSw); go_simp; try with_reducible rfl)
        simp only [Act.put, List.setIfInBounds_toArray, List.set_cons_zero, List.set_cons_succ]
        refine wpAnyH_take (i := 2) (oi := ⟨some 32, _, _, _, _, _⟩) (v := ?va2) rfl (by kernel_rfl) (by kernel_rfl) (by kernel_rfl) (fun _ _ _ h => h) (Or.inl ⟨by rfl, ?hya2⟩) hHeld ?resta2
        case hya2 => (intro w hSw; (try dsimp only at hSw); go_simp; try with_reducible rfl)
        simp only [Act.put, List.setIfInBounds_toArray, List.set_cons_zero, List.set_cons_succ]
        refine wpAnyH_take (i := 3) (oi := ⟨some 33, _, _, _, _, _⟩) (v := ?va3) rfl (by kernel_rfl) (by kernel_rfl) (by kernel_rfl) (fun _ _ _ h => h) (Or.inl ⟨by rfl, ?hya3⟩) hHeld ?resta3
        case hya3 => (intro w hSw; (try dsimp only at hSw); go_simp; try with_reducible rfl)
        simp only [Act.put, List.setIfInBounds_toArray, List.set_cons_zero, List.set_cons_succ]
        refine wpAnyH_take (i := 6) (oi := ⟨some 36, _, _, _, _, _⟩) (v := ?va6) rfl (by kernel_rfl) (by kernel_rfl) (by kernel_rfl) (fun _ _ _ h => h) (Or.inl ⟨by rfl, ?hya6⟩) hHeld ?resta6
        case hya6 => (intro w hSw; (try dsimp only at hSw); go_simp; try with_reducible rfl)
        simp only [Act.put, List.setIfInBounds_toArray, List.set_cons_zero, List.set_cons_succ]
        refine wpAnyH_take (i := 7) (oi := ⟨some 37, _, _, _, _, _⟩) (v := ?va7) rfl (by kernel_rfl) (by kernel_rfl) (by kernel_rfl) (fun _ _ _ h => h) (Or.inl ⟨by rfl, ?hya7⟩) hHeld ?resta7
        case hya7 => (intro w hSw; (try dsimp only at hSw); go_simp; try with_reducible rfl)
        simp only [Act.put, List.setIfInBounds_toArray, List.set_cons_zero, List.set_cons_succ]
        refine wpAnyH_take (i := 8) (oi := ⟨some 38, _, _, _, _, _⟩) (v := ?va8) rfl (by kernel_rfl) (by kernel_rfl) (by kernel_rfl) (fun _ _ _ h => h) (Or.inl ⟨by rfl, ?hya8⟩) hHeld ?resta8
        case hya8 => (intro w hSw; (try dsimp only at hSw); go_simp; try with_reducible rfl)
        simp only [Act.put, List.setIfInBounds_toArray, List.set_cons_zero, List.set_cons_succ]
        refine wpAnyH_take (i := 9) (oi := ⟨some 39, _, _, _, _, _⟩) (v := ?va9) rfl (by kernel_rfl) (by kernel_rfl) (by kernel_rfl) (fun _ _ _ h => h) (Or.inl ⟨by rfl, ?hya9⟩) hHeld ?resta9
        case hya9 => (intro w hSw; (try dsimp only at hSw); go_simp; try with_reducible rfl)
        simp only [Act.put, List.setIfInBounds_toArray, List.set_cons_zero, List.set_cons_succ]
        refine wpAnyH_ready (rs := [4]) (by kernel_rfl) (by simp) ?_
        refine AllReadyH.cons (o := ⟨some 34, _, _, _, _, _⟩) rfl (fun K hK => ?_) AllReadyH.nil
        go_simp
        refine (HA.out _ HBd.out).mono ?_
        rintro e w' ⟨rfl, hw⟩
        replace hw := hw.symm
        subst hw
        (try go_wp2_with fail)
        refine hK.out _ _ (hHeld) (fun hHeld2 => ?_)
        clear hK K hHeld
        have hHeld := hHeld2
        clear hHeld2
        (try simp only [Act.put, List.setIfInBounds_toArray, List.set_cons_zero, List.set_cons_succ])
        refine wpAnyH_take (i := 5) (oi := ⟨some 35, _, _, _, _, _⟩) (v := ?va5) rfl (by kernel_rfl) (by kernel_rfl) (by kernel_rfl) (fun _ _ _ h => h) (Or.inl ⟨by rfl, ?hya5⟩) hHeld ?resta5
        case hya5 => (intro w hSw; (try dsimp only at hSw); go_simp; try with_reducible rfl)
        simp only [Act.put, List.setIfInBounds_toArray, List.set_cons_zero, List.set_cons_succ]
        refine wpAnyH_take (i := 10) (oi := ⟨some 40, _, _, _, _, _⟩) (v := ?va10) rfl (by kernel_rfl) (by kernel_rfl) (by kernel_rfl) (fun _ _ _ h => h) (Or.inl ⟨by rfl, ?hya10⟩) hHeld ?resta10
        case hya10 => (intro w hSw; (try dsimp only at hSw); go_simp; try with_reducible rfl)
        simp only [Act.put, List.setIfInBounds_toArray, List.set_cons_zero, List.set_cons_succ]
        refine wpAnyH_ready (rs := [11]) (by kernel_rfl) (by simp) ?_
        refine AllReadyH.cons (o := ⟨some 41, _, _, _, _, _⟩) rfl (fun K hK => ?_) AllReadyH.nil
        go_simp
        rw [IntWalk.i64_in (q + 1) (by omega)]
        have HBa : Hid (Below w.heap.size w (Wd.alloc (.cells #[.int .i64 (k : Int), .int .i64 (q + 1), .int .i64 p] 43))) := HBd.out.alloc (by omega) _
        refine hK.out _ _ (⟨HX.out _ HBa.out, HBa.out⟩) (fun hHeld2 => ?_)
        clear hK K hHeld
        have hHeld := hHeld2
        clear hHeld2
        (try simp only [Act.put, List.setIfInBounds_toArray, List.set_cons_zero, List.set_cons_succ])
        refine wpAnyH_ready (rs := [12]) (by kernel_rfl) (by simp) ?_
        refine AllReadyH.cons (o := ⟨some 42, _, _, _, _, _⟩) rfl (fun K hK => ?_) AllReadyH.nil
        have hnw : ∀ j u, [Value.int .i64 (k : Int), .int .i64 (q + 1), .int .i64 p][j]? = some u → (Wd.alloc (.cells #[.int .i64 (k : Int), .int .i64 (q + 1), .int .i64 p] 43)).cell? ((⟨wr.heap.size, 0, none⟩ : Addr).add j) = some u := by
          have := cell_three_new Wd (.int .i64 (k : Int)) (.int .i64 (q + 1)) (.int .i64 p) 43
          rw [zd] at this
          exact this
        refine step_append_lies _ (by rfl) _ _ 35 (by rfl) w.heap.size 43 i0 (.agg #[.int .i64 0, .int .i64 0, .int .i64 0]) 3 24 Try.underlying35 hi hz0 hz1 hz2 rfl (by decide) (.slice ao L co) (gapsTo d1 d2 k).length (flatG (gapsTo d1 d2 k)) (by rfl) (World.ownsRow.alloc HOd.out _) ⟨wr.heap.size, 0, none⟩ 1 1 [.int .i64 (k : Int), .int .i64 (q + 1), .int .i64 p] (by rfl) rfl hnw (fun x hx => by simp at hx; rcases hx with rfl | rfl | rfl <;> rfl) (by decide) (by rw [hL]; unfold maxLen; omega) (by rw [hL]; omega) (by simp; omega) (wr.heap.size + 1) (by simp [zd]) ?_
        intro g cap w3 hown' hgrow3 hat3 hlt3
        have HB3 : Hid (Below w.heap.size w w3) := HBa.out.grown hgrow3 (by simp; omega) (fun j e => OwnG.block HOd.out j e)
        have HO3 : Hid (OwnG w.heap.size w3 (.slice (some ⟨g, 0, none⟩) ((gapsTo d1 d2 k).length + 1) cap) (gapsTo d1 d2 (k + 1))) := by show OwnG _ _ _ _; rw [HT2.out]; exact OwnG.snoc hown'
        clear hown' hgrow3 hat3 hlt3 hnw
        rw [hL] at HO3 ⊢
        refine hK.out _ _ (⟨HX.out _ HB3.out, HB3.out⟩) (fun hHeld2 => ?_)
        clear hK K hHeld
        have hHeld := hHeld2
        clear hHeld2
        (try simp only [Act.put, List.setIfInBounds_toArray, List.set_cons_zero, List.set_cons_succ])
        refine wpAnyH_take (i := 13) (oi := ⟨some 6, _, _, _, _, _⟩) (v := ?va13) rfl (by kernel_rfl) (by kernel_rfl) (by kernel_rfl) (fun _ _ _ h => h) (Or.inl ⟨by rfl, ?hya13⟩) hHeld ?resta13
        case hya13 => (intro w hSw; (try dsimp only at hSw); go_simp; try with_reducible rfl)
        simp only [Act.put, List.setIfInBounds_toArray, List.set_cons_zero, List.set_cons_succ]
        refine wpAnyH_done (by kernel_rfl) ?_ _
        go_wp2
        go_roundw
        case rel => exact ⟨k + 1, by omega, by go_num, HO3, HB3⟩
        case measure => simp [intOf]; omega
      · have HT2 : Hid (gapsTo d1 d2 (k + 1) = gapsTo d1 d2 k) := by show _ = _; rw [HT.out, if_neg hqp, List.append_nil]
        go_wp2
        go_quiet ((go_at_call 12; exact Calls.quiet_of_same (HA.out _ (below_drewN HB.out _))))
        go_wp2
        go_roundw
        case rel => exact ⟨k + 1, by omega, by go_num, by rw [HT2.out]; exact HO.out, below_drewN HB.out _⟩
        case measure => simp [intOf]; omega
    · have HE : Hid (gapsTo d1 d2 k = gapsL d1 d2) := by
        obtain rfl : k = d1.length := by omega
        exact rfl
      go_wp2
      go_ret2
      exact ⟨_, rfl, by rw [← HE.out]; exact HO.out, HB.out⟩

/-- The document's Gaps. -/
theorem refGaps_any (v1 v2 : Value) (d1 d2 : List Int) (w : World) (h1 : IsI w v1 d1) (h2 : IsI w v2 d2) :
    Calls Try.prog 24 #[v1, v2] w fun e w' => ∃ v', e = .returned (.tuple #[v', .int .i64 (twoL d1 d2)]) ∧ OwnG w.heap.size w' v' (gapsR d1 d2) ∧ Below w.heap.size w w' := by
  by_cases hok : twoL d1 d2 = 0
  · refine (refGaps_ok v1 v2 d1 d2 w h1 h2 hok).mono ?_
    rintro e w' ⟨v', rfl, ho, hb⟩
    exact ⟨v', by rw [hok], by rw [gapsR_ok hok]; exact ho, hb⟩
  · refine (refGaps_no v1 v2 d1 d2 w h1 h2 hok).mono ?_
    rintro e w' ⟨rfl, hb⟩
    exact ⟨_, rfl, by rw [gapsR_no hok]; exact OwnG.nil0 _ _, hb⟩

set_option maxHeartbeats 1000000 in
theorem clockGaps_walk (v1 : Value) (d1 : List Int) (v2 : Value) (d2 : List Int) (w : World) (h1 : IsI w v1 d1) (h2 : IsI w v2 d2) :
    Calls Try.prog 7 #[v1, v2] w fun e w' => e = .returned (.bool true) ∧ Below w.heap.size w w' := by
  have H1 : Hid (IsI w v1 d1) := h1
  have H2 : Hid (IsI w v2 d2) := h2
  have ml := gapsR_len d1 d2
  clear h1 h2
  go_enter Try.func7, Try.ntmps7
  go_wp2_with fail
  refine (gapsList_any _ _ d1 d2 _ H1.out H2.out).mono ?_
  rintro e w1 ⟨v3, rfl, ho1, hb1⟩
  have HI1 : Hid (IsG w1 v3 (gapsR d1 d2)) := ho1.isG (by omega)
  have J1 : Hid (IsI w1 v1 d1) := H1.out.below hb1
  have J2 : Hid (IsI w1 v2 d2) := H2.out.below hb1
  clear ho1
  go_wp2_with fail
  refine (refGaps_any _ _ d1 d2 _ J1.out J2.out).mono ?_
  rintro e w2 ⟨v4, rfl, ho2, hb2⟩
  have HI2 : Hid (IsG w2 v4 (gapsR d1 d2)) := ho2.isG (by omega)
  have HI1b : Hid (IsG w2 v3 (gapsR d1 d2)) := HI1.out.below hb2
  have bel2 : Below w.heap.size w w2 := hb1.trans (hb2.mono hb1.size)
  have q : (twoL d1 d2 == twoL d1 d2) = true := by simp
  clear ho2 hb1 hb2 J1 J2 HI1
  go_wp2_with fail
  refine (sameG_any _ _ _ _ _ HI1b.out HI2.out).mono ?_
  rintro e w3 ⟨rfl, hb3⟩
  have ds : decide (gapsR d1 d2 = gapsR d1 d2) = true := by simp
  rw [ds]
  have bel3 : Below w.heap.size w w3 := bel2.trans (hb3.mono bel2.size)
  clear hb3 HI1b HI2
  go_wp2_with fail
  refine (awake_any _).mono ?_
  rintro e w4 ⟨rfl, hb4⟩
  go_wp2
  go_ret
  exact ⟨rfl, bel3.trans (hb4.mono bel3.size)⟩

end Go.Proofs.Ytjcpnjobfedejaa
