/- The last of a row of stamps; what stands while Parent goes over the nodes. -/
import Derived.Test.YtnanlmmmppcipaaVtKc
namespace Go.Proofs.Ytnanlmmmppcipaa
open Go.RowKit Go.Shelf
set_option linter.unusedVariables false
set_option linter.unusedSimpArgs false

attribute [local go_sem] Oper.semAt_some

/-- The last one, if there is one. -/
def lastS (D : List St) : St × Bool := match D.getLast? with | some s => (s, true) | none => ((0, 0), false)
theorem lastS_nil : lastS [] = ((0, 0), false) := rfl
theorem lastS_pos {D : List St} {n : Nat} (h : D.length = n + 1) : lastS D = (D[n]'(by omega), true) := by
  have e : D.getLast? = some (D[n]'(by omega)) := by
    rw [List.getLast?_eq_getElem?, show D.length - 1 = n by omega, List.getElem?_eq_getElem (by omega)]
  unfold lastS
  rw [e]
theorem results_cell_tmp9 {fn : Func} {p u : Tmp} {ty : TypeId} (h : fn.results = #[.cell p ty, .tmp u]) (tmps : Array Value) (w : World) (g : Nat) (cs : Array Value)
    (hp : tmps.getD p undef = .pointer (some ⟨g, 0, none⟩)) (e1 : (loadVar ty ⟨g, 0, none⟩).run Try.prog w = .ok (.agg cs) w) :
    (results fn tmps).run Try.prog w = .ok (.tuple #[.agg cs, tmps.getD u undef]) w := by
  have hp' : tmps[p]?.getD undef = .pointer (some ⟨g, 0, none⟩) := by simpa using hp
  simp [results, h, hp', asAddr, e1]
theorem row_set2k {W : World} {b : Nat} {z0 z1 v0 v1 : Value} {t : TypeId} (h : W.heap[b]? = some (.cells #[z0, z1] t)) : ((W.setCell ⟨b, 0, none⟩ v0).setCell ⟨b, 1, none⟩ v1).heap[b]? = some (.cells #[v0, v1] t) := by
  have h0 := heap_setCell_same W b 0 _ _ v0 h
  have h1 := heap_setCell_same _ b 1 _ _ v1 h0
  simpa using h1

set_option maxHeartbeats 2000000 in
theorem last_any (B : Nat) (v : Value) (D : List St) (w : World) (h : OwnSt B w v D) (hl : D.length ≤ 1048577) : Calls Try.prog 55 #[v] w fun e w' => e = .returned (.tuple #[.agg #[.int .i64 (lastS D).1.1, .int .i64 (lastS D).1.2], .bool (lastS D).2]) ∧ Below w.heap.size w w' := by
  obtain ⟨a, c, e⟩ := OwnE.form h
  subst e
  obtain ⟨W1, eW⟩ : ∃ X, X = w.alloc (.cells #[.int .i64 0, .int .i64 0] 23) := ⟨_, rfl⟩
  have hb1 : Below w.heap.size w W1 := by rw [eW]; exact (Below.refl _ _).alloc (Nat.le_refl _) _
  have hr1 : W1.heap[w.heap.size]? = some (.cells #[.int .i64 0, .int .i64 0] 23) := by rw [eW]; exact heap_alloc_new _ _
  have z0 : W1.cell? ⟨w.heap.size, 0, none⟩ = some (.int .i64 0) := by rw [cell_of_row _ _ _ _ _ _ hr1]; rfl
  have z1 : W1.cell? ⟨w.heap.size, 1, none⟩ = some (.int .i64 0) := by rw [cell_of_row _ _ _ _ _ _ hr1]; rfl
  have z2 : ∀ i, W1.frozen? ⟨w.heap.size, i, none⟩ = false := fun i => frozen_of_row _ _ _ _ _ hr1
  have HR := hide9 hr1
  have HB := hide9 hb1
  have HO := hide9 (OwnE.below h hb1)
  have HE := hide9 eW
  clear h eW hr1
  rcases Nat.eq_zero_or_pos D.length with hD | hD
  · rw [hD]
    have hD0 : D = [] := List.eq_nil_of_length_eq_zero hD
    have HL : Hid (lastS D = ((0, 0), false)) := by rw [hD0]; exact lastS_nil
    clear hD0
    go_enter Try.func55, Try.ntmps55
    go_upto_region 1 with fail
    rw [← HE.out]
    go_wp2
    refine bodyPost_ret (v := .tuple #[.agg #[.int .i64 0, .int .i64 0], .bool false]) ?res0 rfl ?post0
    case res0 => exact Eq.trans (results_cell_tmp9 (p := 2) (u := 3) rfl _ _ w.heap.size _ rfl (loadST _ _ _ _ (row_set2k HR.out))) rfl
    exact ⟨by rw [HL.out], (HB.out.setCell (p := ⟨w.heap.size, 0, none⟩) (Nat.le_refl _) _).setCell (p := ⟨w.heap.size, 1, none⟩) (Nat.le_refl _) _⟩
  · obtain ⟨n, en⟩ : ∃ n, D.length = n + 1 := ⟨D.length - 1, by omega⟩
    have HL := hide9 (lastS_pos en)
    obtain ⟨g, cap, eg, _, hcs, _⟩ := OwnE.cells stCells_len HO.out (i := n) (by omega)
    injection eg with e1 _ _
    subst e1
    have p0 : W1.cell? ⟨g, n * 2, none⟩ = some (.int .i64 (D[n]'(by omega)).1) := hcs 0 _ rfl
    have p1 : W1.cell? ⟨g, n * 2 + 1, none⟩ = some (.int .i64 (D[n]'(by omega)).2) := hcs 1 _ rfl
    obtain ⟨s, es⟩ : ∃ s, s = D[n] := ⟨_, rfl⟩
    rw [← es] at p0 p1 HL
    have n0 : ((D.length : Int) == 0) = false := by rw [beq_eq_false_iff_ne]; omega
    have n1 : IntKind.i64.wrap ((D.length : Int) - 1) = (n : Int) := by rw [IntKind.wrap_i64]; omega
    have n2 : (0 : Int) ≤ (n : Int) := by omega
    have n3 : (n : Int) < (D.length : Int) := by omega
    clear hD es hcs en
    go_enter Try.func55, Try.ntmps55
    go_upto_region 1 with fail
    rw [← HE.out]
    go_wp2
    refine bodyPost_ret (v := .tuple #[.agg #[.int .i64 s.1, .int .i64 s.2], .bool true]) ?res1 rfl ?post1
    case res1 => exact Eq.trans (results_cell_tmp9 (p := 2) (u := 3) rfl _ _ w.heap.size _ rfl (loadST _ _ _ _ (row_set2k HR.out))) rfl
    exact ⟨by rw [HL.out], (HB.out.setCell (p := ⟨w.heap.size, 0, none⟩) (Nat.le_refl _) _).setCell (p := ⟨w.heap.size, 1, none⟩) (Nat.le_refl _) _⟩
theorem OwnE.cutn {α : Type} {enc : α → List Value} {n : Nat} {T : TypeId} {B : Nat} {W : World} {g m cap : Nat} {D : List α} (hn : ∀ x, (enc x).length = n) (h : OwnE enc n T B W (.slice (some ⟨g, 0, none⟩) m cap) D) {d : Nat} (hd : d ≤ D.length) : OwnE enc n T B W (.slice (some ⟨g, 0, none⟩) d cap) (D.take d) := by
  have hl : (D.take d).length = d := by rw [List.length_take]; omega
  have hf : flatE enc (D.take d) = (flatE enc D).take (d * n) := by
    have : ∀ (D : List α) (d : Nat), d ≤ D.length → flatE enc (D.take d) = (flatE enc D).take (d * n) := by
      intro D
      induction D with
      | nil => intro d hd; simp [flatE]
      | cons x r ih =>
        intro d hd
        cases d with
        | zero => simp [flatE]
        | succ d =>
          have := ih d (by simpa using hd)
          simp only [List.take_succ_cons, flatE, List.flatMap_cons] at this ⊢
          have e1 : (d + 1) * n = (enc x).length + d * n := by rw [hn x, Nat.succ_mul]; omega
          rw [this, e1, List.take_length_add_append]
    exact this D d hd
  rcases h.2 with ⟨e, _⟩ | ⟨g2, cap2, cur, e, hg, hc, hcap, hmx, hsz, htk⟩
  · cases e
  · injection e with e1 e2 e3
    injection e1 with e1
    injection e1 with e1
    subst e1 e3
    refine ⟨by rw [hf, List.length_take, h.1, hl]; have := Nat.mul_le_mul_right n hd; omega, .inr ⟨g, cap, cur, by rw [hl], hg, hc, by omega, hmx, hsz, ?_⟩⟩
    rw [hf, ← htk, List.take_take, hl, Nat.min_eq_left (Nat.mul_le_mul_right n hd)]
/-- What stands in a round of Parent. -/
structure PaB (w W2 : World) (S : Nat → Prop) (rb ob ab : Nat) (c : Array Value) (b : Bool) (v : Value) (D : List St) (W U : World) : Prop where
  r : U.heap[rb]? = some (.cells c 23)
  o : U.heap[ob]? = some (.cells #[.bool b] 4)
  a : U.heap[ab]? = some (.cells #[v] 49)
  ow : OwnSt W2.heap.size U v D
  bel : Below w.heap.size w U
  kp : KeepsS S W2 U
  kf : KeepsFrom W2.heap.size W U
  kn : KpN S W2.heap.size W U
  sl : ∀ k, S k → k < W2.heap.size
  nr : ¬ S rb ∧ w.heap.size ≤ rb ∧ rb < W2.heap.size
  no : ¬ S ob ∧ w.heap.size ≤ ob ∧ ob < W2.heap.size
  na : ¬ S ab ∧ w.heap.size ≤ ab ∧ ab < W2.heap.size
  ne : rb ≠ ob ∧ rb ≠ ab ∧ ob ≠ ab
  le : w.heap.size ≤ W2.heap.size
section
variable {w W2 W U U' : World} {S : Nat → Prop} {rb ob ab : Nat} {c c' : Array Value} {b b' : Bool} {v v' : Value} {D D' : List St}
theorem PaB.start (h : PaB w W2 S rb ob ab c b (v) (D) W U) : PaB w W2 S rb ob ab c b (v) (D) U U := ⟨h.r, h.o, h.a, h.ow, h.bel, h.kp, KeepsFrom.refl _ _, ⟨Nat.le_refl _, fun _ _ => rfl⟩, h.sl, h.nr, h.no, h.na, h.ne, h.le⟩
theorem PaB.below (h : PaB w W2 S rb ob ab c b (v) (D) W U) (hb : Below U.heap.size U U') : PaB w W2 S rb ob ab c b (v) (D) W U' := ⟨(hb.block _ (row_lt h.r)).trans h.r, (hb.block _ (row_lt h.o)).trans h.o, (hb.block _ (row_lt h.a)).trans h.a, OwnE.below h.ow hb, h.bel.trans (hb.mono h.bel.size), h.kp.trans (KeepsS.of_below hb fun k q => Nat.lt_of_lt_of_le (h.sl k q) h.kp.1), h.kf.trans (keepsFrom_below hb), h.kn.trans (KpN.of_below hb fun k q => Nat.lt_of_lt_of_le (h.sl k q) h.kp.1), h.sl, h.nr, h.no, h.na, h.ne, h.le⟩
theorem PaB.grown (h : PaB w W2 S rb ob ab c b (v) (D) W U) {row : Option Nat} (hg : U.grownBy U' row) (hr : ∀ r, row = some r → W2.heap.size ≤ r ∧ ∃ o : Obj, U.heap[r]? = some o ∧ o.isCells = false) : PaB w W2 S rb ob ab c b (v) (D) U' U' := by
  have hr2 : ∀ r, row = some r → ∃ o : Obj, U.heap[r]? = some o ∧ o.isCells = false := fun r e => (hr r e).2
  refine ⟨row_own h.r hg hr2, row_own h.o hg hr2, row_own h.a hg hr2, OwnE.keep h.ow fun j e => ?_, h.bel.grown hg h.bel.size (fun j e => by have := (hr j e).1; have := h.le; omega), h.kp.trans ⟨hg.size, fun k q => hg.block k (Nat.lt_of_lt_of_le (h.sl k q) h.kp.1) (fun e => ?_)⟩, KeepsFrom.refl _ _, ⟨Nat.le_refl _, fun _ _ => rfl⟩, h.sl, h.nr, h.no, h.na, h.ne, h.le⟩
  · obtain ⟨c, hc⟩ := own_cells h.ow e
    exact (row_own hc hg hr2).trans hc.symm
  · have h1 := (hr k e.symm).1
    have h2 := h.sl k q
    omega
theorem PaB.ca (h : PaB w W2 S rb ob ab c b (v) (D) W U) : U.cell? ⟨ab, 0, none⟩ = some v := by rw [cell_of_row U ab 0 _ _ _ h.a]; rfl
theorem PaB.fa (h : PaB w W2 S rb ob ab c b (v) (D) W U) : U.frozen? ⟨ab, 0, none⟩ = false := frozen_of_row U ab 0 _ _ h.a
theorem PaB.co (h : PaB w W2 S rb ob ab c b (v) (D) W U) : U.cell? ⟨ob, 0, none⟩ = some (.bool b) := by rw [cell_of_row U ob 0 _ _ _ h.o]; rfl
theorem PaB.fo (h : PaB w W2 S rb ob ab c b (v) (D) W U) : U.frozen? ⟨ob, 0, none⟩ = false := frozen_of_row U ob 0 _ _ h.o
theorem PaB.fr (h : PaB w W2 S rb ob ab c b (v) (D) W U) (i : Nat) : U.frozen? ⟨rb, i, none⟩ = false := frozen_of_row U rb i _ _ h.r
/-- Another slice in the box of 'above'. -/
theorem PaB.seta (h : PaB w W2 S rb ob ab c b (v) (D) W U) (ho : OwnSt W2.heap.size U v' D') : PaB w W2 S rb ob ab c b (v') (D') W (U.setCell ⟨ab, 0, none⟩ v') := by
  have hk : ∀ k, k ≠ ab → (U.setCell ⟨ab, 0, none⟩ v').heap[k]? = U.heap[k]? := fun k e => RowKit.Below.heap_setCell _ _ _ _ e
  refine ⟨(hk _ h.ne.2.1).trans h.r, (hk _ h.ne.2.2).trans h.o, by have := heap_setCell_same U ab 0 _ _ v' h.a; simpa using this, OwnE.keep ho fun k e => hk k (by have := (OwnE.lt ho k e).1; have := h.na.2.2; omega), h.bel.setCell (p := ⟨ab, 0, none⟩) h.na.2.1 _, h.kp.trans ⟨by simp [World.setCell], fun k q => hk k (fun e => h.na.1 (e ▸ q))⟩, h.kf.trans (keepsFrom_set _ _ _), h.kn.trans (KpN.set h.na.1 h.na.2.2), h.sl, h.nr, h.no, h.na, h.ne, h.le⟩
/-- The row has grown. -/
theorem PaB.row (h : PaB w W2 S rb ob ab c b (v) (D) W U) (hg : U.grownBy U' v.ownBlock) (ho : OwnSt W2.heap.size U' v' D') : PaB w W2 S rb ob ab c b (v') (D') W (U'.setCell ⟨ab, 0, none⟩ v') := by
  have hN : ∀ j, v.ownBlock = some j → W2.heap.size ≤ j := fun j e => (OwnE.lt h.ow j e).1
  have hq : ∀ k, k < W2.heap.size → k < U.heap.size → U'.heap[k]? = U.heap[k]? := fun k h1 h2 => hg.block k h2 (fun e => by have := hN k e.symm; omega)
  have hk : ∀ k, k ≠ ab → (U'.setCell ⟨ab, 0, none⟩ v').heap[k]? = U'.heap[k]? := fun k e => RowKit.Below.heap_setCell _ _ _ _ e
  have hs := h.kp.1
  have ha : U'.heap[ab]? = some (.cells #[v] 49) := (hq ab h.na.2.2 (row_lt h.a)).trans h.a
  refine ⟨(hk _ h.ne.2.1).trans ((hq rb h.nr.2.2 (row_lt h.r)).trans h.r), (hk _ h.ne.2.2).trans ((hq ob h.no.2.2 (row_lt h.o)).trans h.o), by have := heap_setCell_same U' ab 0 _ _ v' ha; simpa using this, OwnE.keep ho fun k e => hk k (by have := (OwnE.lt ho k e).1; have := h.na.2.2; omega), (h.bel.grown hg h.bel.size (fun j e => by have := hN j e; have := h.le; omega)).setCell (p := ⟨ab, 0, none⟩) h.na.2.1 _, h.kp.trans ⟨by have := hg.size; simpa [World.setCell] using this, fun k q => (hk k (fun e => h.na.1 (e ▸ q))).trans (hq k (h.sl k q) (Nat.lt_of_lt_of_le (h.sl k q) hs))⟩, (h.kf.trans (keepsFrom_own h.ow hg)).trans (keepsFrom_set _ _ _), (h.kn.trans (KpN.own h.ow h.sl (fun k q => Nat.lt_of_lt_of_le (h.sl k q) hs) hg)).trans (KpN.set h.na.1 h.na.2.2), h.sl, h.nr, h.no, h.na, h.ne, h.le⟩
theorem PaB.rowa (h : PaB w W2 S rb ob ab c b (v) (D) W U) (hg : U.grownBy U' v.ownBlock) : U'.cell? ⟨ab, 0, none⟩ = some v ∧ U'.frozen? ⟨ab, 0, none⟩ = false := by
  have ha : U'.heap[ab]? = some (.cells #[v] 49) := (hg.block ab (row_lt h.a) (fun e => by have := (OwnE.lt h.ow ab e.symm).1; have := h.na.2.2; omega)).trans h.a
  exact ⟨by rw [cell_of_row U' ab 0 _ _ _ ha]; rfl, frozen_of_row U' ab 0 _ _ ha⟩
/-- Both results are stored. -/
theorem PaB.told {z0 z1 v0 v1 : Value} (h : PaB w W2 S rb ob ab #[z0, z1] b (v) (D) W U) (b' : Bool) (hU : U' = ((U.setCell ⟨rb, 0, none⟩ v0).setCell ⟨rb, 1, none⟩ v1).setCell ⟨ob, 0, none⟩ (.bool b')) : PaB w W2 S rb ob ab #[v0, v1] b' (v) (D) W U' ∧ ∀ k, k ≠ rb → k ≠ ob → U'.heap[k]? = U.heap[k]? := by
  subst hU
  have hk : ∀ k, k ≠ rb → k ≠ ob → (((U.setCell ⟨rb, 0, none⟩ v0).setCell ⟨rb, 1, none⟩ v1).setCell ⟨ob, 0, none⟩ (.bool b')).heap[k]? = U.heap[k]? := fun k h1 h2 => by
    rw [RowKit.Below.heap_setCell _ _ _ _ h2, RowKit.Below.heap_setCell _ _ _ _ h1, RowKit.Below.heap_setCell _ _ _ _ h1]
  have h9 : ((U.setCell ⟨rb, 0, none⟩ v0).setCell ⟨rb, 1, none⟩ v1).heap[ob]? = some (.cells #[.bool b] 4) := by
    have hno := fun e => h.ne.1 (Eq.symm e)
    rw [RowKit.Below.heap_setCell _ _ _ _ hno, RowKit.Below.heap_setCell _ _ _ _ hno]
    exact h.o
  refine ⟨⟨(RowKit.Below.heap_setCell _ _ _ _ h.ne.1).trans (row_set2k h.r), by have := heap_setCell_same _ ob 0 _ _ (.bool b') h9; simpa using this, (hk ab (fun e => h.ne.2.1 e.symm) (fun e => h.ne.2.2 e.symm)).trans h.a, OwnE.keep h.ow fun k e => hk k (by have := (OwnE.lt h.ow k e).1; have := h.nr.2.2; omega) (by have := (OwnE.lt h.ow k e).1; have := h.no.2.2; omega), ((h.bel.setCell (p := ⟨rb, 0, none⟩) h.nr.2.1 _).setCell (p := ⟨rb, 1, none⟩) h.nr.2.1 _).setCell (p := ⟨ob, 0, none⟩) h.no.2.1 _, h.kp.trans ⟨by simp [World.setCell], fun k q => hk k (fun e => h.nr.1 (e ▸ q)) (fun e => h.no.1 (e ▸ q))⟩, ((h.kf.trans (keepsFrom_set _ _ _)).trans (keepsFrom_set _ _ _)).trans (keepsFrom_set _ _ _), ((h.kn.trans (KpN.set h.nr.1 h.nr.2.2)).trans (KpN.set h.nr.1 h.nr.2.2)).trans (KpN.set h.no.1 h.no.2.2), h.sl, h.nr, h.no, h.na, h.ne, h.le⟩, hk⟩
end
/-- The key of the node of which the first one with that key is a kid, by the way down. -/
def parR (D : List St) : List (Nat × VT) → St → St × Bool
  | [], _ => ((0, 0), false)
  | x :: r, key => if x.2.k = key then lastS (D.take x.1) else parR (D.take x.1 ++ [x.2.k]) r key
/-- Each one stands at most one lower than the one ahead. -/
def PreD (m : Nat) : List (Nat × VT) → Prop
  | [] => True
  | x :: r => x.1 ≤ m ∧ PreD (x.1 + 1) r
theorem PreD.mono {m n : Nat} {l : List (Nat × VT)} (h : PreD m l) (hm : m ≤ n) : PreD n l := by
  cases l with
  | nil => trivial
  | cons x r => exact ⟨by have := h.1; omega, h.2⟩
theorem PreD.app : ∀ (l r : List (Nat × VT)) (m d : Nat), PreD m l → (∀ x ∈ l, d ≤ x.1) → d ≤ m → PreD d r → PreD m (l ++ r)
  | [], r, m, d, _, _, hm, hr => hr.mono hm
  | x :: l, r, m, d, h, ha, hm, hr => ⟨h.1, PreD.app l r (x.1 + 1) d h.2 (fun y hy => ha y (List.mem_cons_of_mem _ hy)) (by have := ha x (List.mem_cons_self ..); omega) hr⟩
theorem preD_n : ∀ (n : Nat), (∀ t d, VT.sz t ≤ n → PreD d (flatD t d)) ∧ (∀ l d, szs l ≤ n → PreD d (flatDs l d))
  | 0 => ⟨fun t d h => by have := t.sz_pos; omega, fun l d h => by
      cases l with
      | nil => simp [flatDs, PreD]
      | cons x r => have := x.sz_pos; rw [szs] at h; omega⟩
  | n + 1 => by
    have ih := preD_n n
    have h1 : ∀ t d, VT.sz t ≤ n + 1 → PreD d (flatD t d) := fun t d h => by
      rw [flatD_eq]
      exact ⟨Nat.le_refl _, ih.2 t.ks (d + 1) (by have := t.sz_eq; omega)⟩
    refine ⟨h1, fun l => ?_⟩
    induction l with
    | nil => intro d _; simp [flatDs, PreD]
    | cons x r ihr =>
      intro d h
      rw [szs] at h
      rw [flatDs]
      exact PreD.app _ _ d d (h1 x d (by omega)) ((flatD_n x.sz).1 x d (Nat.le_refl _)).2 (Nat.le_refl _) (ihr d (by omega))
theorem preD (t : VT) : PreD 0 (flatD t 0) := (preD_n t.sz).1 t 0 (Nat.le_refl _)

end Go.Proofs.Ytnanlmmmppcipaa
