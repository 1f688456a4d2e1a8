/- What ident.Sort does: the stamps of a list, each once, in their order, in a row of its own. -/
import Derived.Test.YtmfnfekkemoliaaDoorRowRise
import Derived.Maps.AppendAt
namespace Go.Proofs.YtmfnfekkemoliaaDoor
open Go.RowKit Go.Shelf
set_option linter.unusedVariables false

attribute [local go_sem] Oper.semAt_some

/-- A stamp's box. -/
def Box2 (W : World) (B : Nat) (x : Int × Int) : Prop := W.heap[B]? = some (.cells #[.int .i64 x.1, .int .i64 x.2] 23 (0, 0))
theorem Box2.lt {W : World} {B : Nat} {x : Int × Int} (h : Box2 W B x) : B < W.heap.size := (Array.getElem?_eq_some_iff.1 h).1
theorem Box2.cell {W : World} {B : Nat} {x : Int × Int} (h : Box2 W B x) : W.cell? ⟨B, 0, none⟩ = some (.int .i64 x.1) ∧ W.cell? ⟨B, 1, none⟩ = some (.int .i64 x.2) := by
  simp [World.cell?, show W.heap[B]? = _ from h]
theorem Box2.new (W : World) (x : Int × Int) : Box2 (W.alloc (.cells #[.int .i64 x.1, .int .i64 x.2] 23)) W.heap.size x := World.alloc_heap_new W _
theorem Box2.kept {W W' : World} {row : Option Nat} {B : Nat} {x : Int × Int} (h : Box2 W B x) (hg : W.grownBy W' row) (hne : some B ≠ row) : Box2 W' B x := (hg.block B h.lt hne).trans h
theorem box2_own {β : Type} (B : Nat) (f : β → Int × Int) : Own (fun s W => Box2 W B (f s)) := fun s X Y row hs hg hrow =>
  hs.kept hg (fun e' => by obtain ⟨o, ho, hc⟩ := hrow B e'.symm; rw [show X.heap[B]? = _ from hs] at ho; cases ho; cases hc)
theorem ownsRow_mono {w : World} {B B' : Nat} {e : TypeId} {size : Nat} {v : Value} {k : Nat} {xs : List Value} (h : w.ownsRow B e size v k xs) (hB : B' ≤ B) : w.ownsRow B' e size v k xs := by
  refine ⟨h.1, ?_⟩
  rcases h.2 with hn | ⟨g, cap, cur, hv, hg, rest⟩
  · exact .inl hn
  · exact .inr ⟨g, cap, cur, hv, by omega, rest⟩
theorem ownFrom_size {β : Type} (B m : Nat) : OwnFrom B (fun (_ : β) W => m ≤ W.heap.size) := fun _ _ _ _ hs hg _ => Nat.le_trans hs hg.size

set_option maxHeartbeats 4000000 in
set_option maxRecDepth 100000 in
theorem sort_in (n : Nat) (hn : 3 ≤ n) (v : Value) (d : List (Int × Int)) (w : World) (h : IsS w v d) :
    CallsIn Fence.wide n Tryd.prog 25 #[v] w fun e w' => ∃ v', e = .returned v' ∧ OwnS w.heap.size w' v' (sortL d) ∧ Below w.heap.size w w' := by
  have hro : Fence.wide.round = none := rfl
  have h1 : 1 ≤ n := by omega
  obtain ⟨i0, hi, hz0, hz1, hz2⟩ := info_parts infoStamp
  have hb1 : Below w.heap.size w (w.alloc (.cells #[.slice none 0 0] 38)) := (Below.refl _ _).alloc (Nat.le_refl _) _
  have HV : Hid (IsS (w.alloc (.cells #[.slice none 0 0] 38)) v d) := h.below hb1
  clear h
  refine callsIn_of_wp_marks Tryd.func25 rfl trivial ?_ hro
  simp only [Tryd.ntmps25, List.size_toArray, List.length_cons, List.length_nil, Nat.reduceAdd, Nat.reduceSub, Array.replicate_succ, Array.replicate_zero, List.push_toArray, List.append_toArray, List.nil_append, List.cons_append]
  gi_wp2_with (refine ⟨trivial, ?_⟩; gi_at_call 28; refine (callsIn_wide.2 (rising_any v d _ HV.out)).mono ?_; rintro e w2 ⟨Bs, ar, cr, rfl, hBs, hBl, hcr, hrow, hlr, hbr⟩)
  have z2 : w.heap.size + 1 ≤ w2.heap.size := by have := hbr.size; simpa using this
  have hBl2 : w.heap.size + 1 ≤ Bs := by simpa using hBl
  have hrow2 : RowB (w.heap.size + 1) w2.heap.size w2 ar (sortL d) := by simpa using hrow
  have bO : Boxed w2 w.heap.size 38 (.slice none 0 0) := (hbr.block w.heap.size (by simp)).trans (Boxed.new w 38 (.slice none 0 0))
  have hB0 : Below w.heap.size w w2 := hb1.trans (hbr.mono (by simp))
  clear hrow hBl hbr HV hb1
  refine wpIn_rangeFunc_ownH hro h1 (gf := 40) (lb := #[.pointer (some ⟨Bs, 0, none⟩)]) rfl trivial (enters_of Tryd.func40 (by kernel_rfl) rfl)
    (rise_stops Fence.wide (n - 1) trivial hro (by omega) Bs (w.heap.size + 1) w2.heap.size cr ar (sortL d) hlr ⟨hBl2, hBs⟩ w2 (Nat.le_refl _) hcr hrow2) KeepsIn.trans (keepsInK_b (Nat.le_refl _)) (Below.refl _ _) (fun _ => rfl)
    (fun pre W => ((∃ v, Boxed W w.heap.size 38 v ∧ W.ownsRow w2.heap.size 23 2 v pre.length (flat pre) ∧ True) ∧ Below w.heap.size w W) ∧ w2.heap.size ≤ W.heap.size)
    (fun _ _ _ => False)
    (OwnFrom.and (OwnFrom.and (Own.from (holdsRow_own w2.heap.size w.heap.size 38 23 2 (fun pre => pre.length) (fun pre => flat pre) (fun _ _ => True)) _) (ownFrom_below (Nat.le_refl _) (by omega))) (ownFrom_size _ _))
    (fun _ _ _ _ _ hs _ _ => hs)
    ⟨⟨⟨_, bO, World.ownsRow_nil _ _ _ _, trivial⟩, hB0⟩, Nat.le_refl _⟩
    (fun x a' W => ∃ Bx, Box2 W Bx x ∧ a' = { tmps := #[v, undef, .slice none 0 0, .pointer (some ⟨w.heap.size, 0, none⟩), .pointer (some ⟨Bx, 0, none⟩), v, .func (.func 40) #[] #[.pointer (some ⟨Bs, 0, none⟩)], .agg #[.int .i64 x.1, .int .i64 x.2], undef, undef, undef, undef, undef], defers := [] })
    (fun x a' _ X Y row hs hg hr => by obtain ⟨Bx, h2, h3⟩ := hs; exact ⟨Bx, box2_own Bx (fun (_ : Unit) => x) () X Y row h2 hg (fun r e => (hr r e).2), h3⟩)
    ?assign ?body ?done ?stop
  case assign =>
    rintro l pre x W K ⟨⟨⟨v1, bv, hr1, _⟩, hB1⟩, hs1⟩ hK
    simp only [encP]
    gi_wp2
    exact hK _ _ ((KeepsOthers.alloc _ _).from _) (KeepsIn.of_grown (World.grownBy_alloc _ _ none) hs1 (by simp)) ⟨⟨⟨v1, bv.alloc _, hr1.alloc _, trivial⟩, hB1.alloc hB1.size _⟩, by simp; omega⟩ ⟨W.heap.size, Box2.new W x, rfl⟩
  case body =>
    rintro l pre x a' W hl ⟨r, hr⟩ ⟨⟨⟨v1, bv, hr1, _⟩, hB1⟩, hs1⟩ ⟨Bx, hBx, rfl⟩ hlt
    have hc := bv.cell
    have hx := hBx.cell
    obtain ⟨hx1, hx2⟩ := hx
    have hxl := hBx.lt
    have hl2 : pre.length + 1 ≤ 8796093022208 := by omega
    gi_wp2_with (gi_at_builtin; refine wpListIn_append_own _ rfl _ _ 38 rfl w2.heap.size 23 i0 (.agg #[.int .i64 0, .int .i64 0]) 2 16 Tryd.underlying38 hi hz0 hz1 hz2 rfl (by decide) _ _ _ rfl (hr1.alloc _) ⟨W.heap.size, 0, none⟩ 1 1 [.int .i64 x.1, .int .i64 x.2] rfl rfl (cell_two_new _ _ _ _) (fun y hy => by simp at hy; rcases hy with rfl | rfl <;> rfl) (by unfold maxLen; omega) (by omega) (by simp; omega) ?_; intro v' w1 hown' hgrow _; obtain ⟨g', cap', rfl⟩ := ownsRow_succ hown'; obtain ⟨hv1, hv2, hr2, hk2, hb2⟩ := bv.appended (by decide) (ownsRow_mono hr1 (by omega : w.heap.size ≤ w2.heap.size)) hB1.size (Nat.le_refl _) (ownsRow_mono hown' (by omega)) hgrow; have hc1 := hv1.cell; have hf1 := hv1.frozen)
    have hkin : KeepsIn (w.heap.size + 1) w2.heap.size W (w1.setCell ⟨w.heap.size, 0, none⟩ (.slice (some ⟨g', 0, none⟩) (pre.length + 1) cap')) :=
      ((KeepsIn.of_grown (World.grownBy_alloc W _ none) hs1 (by simp)).trans (KeepsIn.of_grown hgrow (by simp; omega) (fun r e => .inr (World.ownsRow.lt hr1 r e).1))).trans (KeepsIn.of_grown (grownBy_setCell' w1 w.heap.size _) (by have := hgrow.size; simp at this; omega) (fun r e => by cases e; exact .inl (by omega)))
    refine ⟨hk2.from _, hkin, ⟨⟨_, hv2, ?_, trivial⟩, hB1.trans hb2⟩, by have := hkin.1; omega⟩
    rw [flat_snoc]
    simpa using hown'.kept (grownBy_setCell' w1 w.heap.size _) (.inr (hv1.not_row (by decide) hown').symm)
  case done =>
    rintro D ys W hD rfl ⟨⟨⟨v1, bv, hr1, _⟩, hB1⟩, hs1⟩ hK
    have hc := bv.cell
    gi_wp2
    refine ⟨by simp, .inl ⟨_, _, rfl, run_takeDeferred hK, ?_⟩⟩
    exact ⟨_, results_tmp rfl _ _ _, v1, rfl, ownsRow_putObj (ownsRow_mono hr1 (by omega)) _ hK rfl, hB1.trans (belowK_b (w := w) (Nat.le_refl _) W D _ _ (by omega) hK rfl rfl)⟩
  case stop =>
    rintro D c pre W _ _ h _
    exact h.elim

theorem sort_any (v : Value) (d : List (Int × Int)) (w : World) (h : IsS w v d) :
    Calls Tryd.prog 25 #[v] w fun e w' => ∃ v', e = .returned v' ∧ OwnS w.heap.size w' v' (sortL d) ∧ Below w.heap.size w w' :=
  callsIn_wide.1 (sort_in 3 (Nat.le_refl _) v d w h)

end Go.Proofs.YtmfnfekkemoliaaDoor
