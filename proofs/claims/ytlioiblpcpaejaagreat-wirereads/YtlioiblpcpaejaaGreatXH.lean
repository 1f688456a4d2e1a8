/- Lists of changes in memory: what a slice of them holds, and that it holds it on behind whatever makes new memory alone; such that the call made itself. -/
import Derived.Test.YtlioiblpcpaejaaGreatXG
import Derived.Test.YtlioiblpcpaejaaGreatXB
import Derived.Deep.MidRow
import Derived.Deep.WholeRow
import Derived.Deep.Cut
import Derived.Test.YtlioiblpcpaejaaGreatXE
namespace Go.Proofs.YtlioiblpcpaejaaGreat
open Go.RowKit
set_option linter.unusedVariables false

/-- A change's cells, with its clock's value. -/
def chCells (c : Ch) (dv : Value) : List Value := [.int .i64 c.ac, .int .i64 c.ar, .int .i64 c.seq, dv, .int .i64 c.kind, .int .i64 c.nc, .int .i64 c.nr, .int .i64 c.pc, .int .i64 c.pr, .int .i64 c.fc, .int .i64 c.fr, .string c.name, .string c.value]
/-- Texts that a value can hold. -/
def Sized (c : Ch) : Prop := c.name.size ≤ 281474976710656 ∧ c.value.size ≤ 281474976710656
/-- From block b, offset o on lies this change. -/
def ChAt (w : World) (b o : Nat) (c : Ch) : Prop := ∃ dv, (∀ j u, (chCells c dv)[j]? = some u → w.cell? ⟨b, o + j, none⟩ = some u) ∧ IsI w dv c.deps ∧ Sized c
theorem ChAt.lt {w : World} {b o : Nat} {c : Ch} (h : ChAt w b o c) : b < w.heap.size := by
  obtain ⟨dv, h, _⟩ := h
  have h0 := h 0 _ rfl
  rcases Nat.lt_or_ge b w.heap.size with h' | h'
  · exact h'
  · simp [World.cell?, h'] at h0
theorem ChAt.below {w w' : World} {b o : Nat} {c : Ch} (h : ChAt w b o c) (hb : Below w.heap.size w w') : ChAt w' b o c := by
  have hlt := h.lt
  obtain ⟨dv, h, hi, hs⟩ := h
  exact ⟨dv, fun j u hj => (hb.cell (p := ⟨b, o + j, none⟩) hlt).trans (h j u hj), hi.below hb, hs⟩
theorem ChAt.all {w : World} {b o : Nat} {c : Ch} (h : ChAt w b o c) : ∃ (a : Option Addr) (cap : Nat), IsI w (.slice a c.deps.length cap) c.deps ∧ Sized c ∧ w.cell? ⟨b, o, none⟩ = some (.int .i64 c.ac) ∧ w.cell? ⟨b, o + 1, none⟩ = some (.int .i64 c.ar) ∧ w.cell? ⟨b, o + 2, none⟩ = some (.int .i64 c.seq) ∧ w.cell? ⟨b, o + 3, none⟩ = some (.slice a c.deps.length cap) ∧ w.cell? ⟨b, o + 4, none⟩ = some (.int .i64 c.kind) ∧ w.cell? ⟨b, o + 5, none⟩ = some (.int .i64 c.nc) ∧ w.cell? ⟨b, o + 6, none⟩ = some (.int .i64 c.nr) ∧ w.cell? ⟨b, o + 7, none⟩ = some (.int .i64 c.pc) ∧ w.cell? ⟨b, o + 8, none⟩ = some (.int .i64 c.pr) ∧ w.cell? ⟨b, o + 9, none⟩ = some (.int .i64 c.fc) ∧ w.cell? ⟨b, o + 10, none⟩ = some (.int .i64 c.fr) ∧ w.cell? ⟨b, o + 11, none⟩ = some (.string c.name) ∧ w.cell? ⟨b, o + 12, none⟩ = some (.string c.value) := by
  obtain ⟨dv, h, hi, hs⟩ := h
  obtain ⟨a, cap, rfl⟩ := hi.form
  exact ⟨a, cap, hi, hs, h 0 _ rfl, h 1 _ rfl, h 2 _ rfl, h 3 _ rfl, h 4 _ rfl, h 5 _ rfl, h 6 _ rfl, h 7 _ rfl, h 8 _ rfl, h 9 _ rfl, h 10 _ rfl, h 11 _ rfl, h 12 _ rfl⟩

/-- From block b, offset o on lie these changes. -/
def ChsAt (w : World) (b o : Nat) (L : List Ch) : Prop := ∀ i (h : i < L.length), ChAt w b (o + i * 13) L[i]
theorem ChsAt.below {w w' : World} {b o : Nat} {L : List Ch} (h : ChsAt w b o L) (hb : Below w.heap.size w w') : ChsAt w' b o L := fun i hi => (h i hi).below hb
/-- The value is a slice of these changes. -/
def IsH (w : World) (v : Value) (L : List Ch) : Prop :=
  ∃ (a : Option Addr) (cap : Nat), v = .slice a L.length cap ∧ L.length ≤ cap ∧ L.length ≤ 281474976710656 ∧ (L = [] ∨ ∃ b o, a = some ⟨b, o, none⟩ ∧ ChsAt w b o L)
theorem IsH.below {w w' : World} {v : Value} {L : List Ch} (h : IsH w v L) (hb : Below w.heap.size w w') : IsH w' v L := by
  obtain ⟨a, cap, e, hc, hl, h⟩ := h
  exact ⟨a, cap, e, hc, hl, h.imp id fun ⟨b, o, e2, hr⟩ => ⟨b, o, e2, hr.below hb⟩⟩
theorem IsH.form {w : World} {v : Value} {L : List Ch} (h : IsH w v L) : ∃ a cap, v = .slice a L.length cap := by obtain ⟨a, cap, e, _⟩ := h; exact ⟨a, cap, e⟩
theorem IsH.non {w : World} (cap : Nat) : IsH w (.slice none 0 cap) [] := ⟨none, cap, rfl, Nat.zero_le _, by simp, .inl rfl⟩

/-- Changes and their clocks' values, as cells one behind the other. -/
def flatH (D : List (Ch × Value)) : List Value := D.flatMap fun x => chCells x.1 x.2
theorem flatH_snoc (D : List (Ch × Value)) (x : Ch × Value) : flatH (D ++ [x]) = flatH D ++ chCells x.1 x.2 := by simp [flatH]
theorem flatH_length (D : List (Ch × Value)) : (flatH D).length = D.length * 13 := by
  induction D with
  | nil => rfl
  | cons x y ih =>
    have e : flatH (x :: y) = chCells x.1 x.2 ++ flatH y := rfl
    rw [e, List.length_append, ih]
    simp [chCells]
    omega
theorem flatH_get (D : List (Ch × Value)) : ∀ i (h : i < D.length) j u, (chCells D[i].1 D[i].2)[j]? = some u → (flatH D)[i * 13 + j]? = some u := by
  induction D with
  | nil => intro i h; simp at h
  | cons x y ih =>
    intro i h j u hj
    have e : flatH (x :: y) = chCells x.1 x.2 ++ flatH y := rfl
    have hx : (chCells x.1 x.2).length = 13 := rfl
    rw [e]
    match i with
    | 0 =>
      have hj' : (chCells x.1 x.2)[j]? = some u := hj
      rw [List.getElem?_append_left (by rw [Nat.zero_mul, Nat.zero_add]; exact (List.getElem?_eq_some_iff.1 hj').1), Nat.zero_mul, Nat.zero_add]
      exact hj'
    | i + 1 =>
      have := ih i (by simpa using h) j u hj
      rw [List.getElem?_append_right (by omega), hx, show (i + 1) * 13 + j - 13 = i * 13 + j by omega]
      exact this
/-- The call's own row of these changes, in a block from B on; their clocks lie, too. -/
def OwnH (B : Nat) (w : World) (v : Value) (D : List (Ch × Value)) : Prop := w.ownsRow B 57 13 v D.length (flatH D)
theorem OwnH.below {B : Nat} {w w' : World} {v : Value} {D : List (Ch × Value)} (h : OwnH B w v D) (hb : Below w.heap.size w w') : OwnH B w' v D := by
  refine ⟨h.1, ?_⟩
  rcases h.2 with hn | ⟨g, cap, cur, hv, hg, hc, rest⟩
  · exact .inl hn
  · refine .inr ⟨g, cap, cur, hv, hg, ?_, rest⟩
    have hlt : g < w.heap.size := (Array.getElem?_eq_some_iff.1 hc).1
    rw [hb.block g hlt]
    exact hc
theorem OwnH.isH {B : Nat} {w : World} {v : Value} {D : List (Ch × Value)} (h : OwnH B w v D) (hl : D.length ≤ 281474976710656) (hd : ∀ x ∈ D, IsI w x.2 x.1.deps ∧ Sized x.1) : IsH w v (D.map Prod.fst) := by
  have h0 := h
  rcases h.2 with ⟨rfl, hn⟩ | ⟨g, cap, cur, rfl, hg, hc, hcap, rest⟩
  · have e : D = [] := List.eq_nil_of_length_eq_zero hn
    subst e
    exact IsH.non 0
  · refine ⟨_, cap, by simp, by simpa using hcap, by simpa using hl, .inr ⟨g, 0, rfl, fun i hi => ?_⟩⟩
    have hi' : i < D.length := by simpa using hi
    rw [show (D.map Prod.fst)[i] = D[i].1 by simp]
    refine ⟨D[i].2, fun j u hj => ?_, (hd _ (List.getElem_mem hi')).1, (hd _ (List.getElem_mem hi')).2⟩
    have hj2 : j < 13 := (List.getElem?_eq_some_iff.1 hj).1
    rw [show 0 + i * 13 + j = i * 13 + j by omega]
    exact (h0.cellAt (i * 13 + j) (by omega)).trans (flatH_get D i hi' j u hj)
theorem OwnH.nil0 (w : World) (B : Nat) : OwnH B w (.slice none 0 0) [] := World.ownsRow_nil _ _ _ _
theorem OwnH.form {B : Nat} {w : World} {v : Value} {D : List (Ch × Value)} (h : OwnH B w v D) : ∃ a cap, v = .slice a D.length cap := by
  rcases h.2 with ⟨rfl, hn⟩ | ⟨g, cap, cur, rfl, _⟩
  · exact ⟨none, 0, by rw [hn]⟩
  · exact ⟨_, cap, rfl⟩
theorem OwnH.snoc {B : Nat} {w : World} {v : Value} {D : List (Ch × Value)} {c : Ch} {dv : Value} (h : w.ownsRow B 57 13 v (D.length + 1) (flatH D ++ chCells c dv)) : OwnH B w v (D ++ [(c, dv)]) := by
  unfold OwnH
  rw [flatH_snoc]
  simpa using h
theorem infoChange : (Tryz.prog.info? 57).map (fun i => (i.zero, i.size, i.bytes)) = some (some (.agg #[.int .i64 0, .int .i64 0, .int .i64 0, .slice none 0 0, .int .i64 0, .int .i64 0, .int .i64 0, .int .i64 0, .int .i64 0, .int .i64 0, .int .i64 0, .string ⟨#[]⟩, .string ⟨#[]⟩]), 13, 136) := by kernel_rfl

end Go.Proofs.YtlioiblpcpaejaaGreat

namespace Go.Proofs.YtlioiblpcpaejaaGreat
open Go.RowKit
set_option linter.unusedVariables false

theorem wp_store_new {P : Program} {op : Oper} {a : Act} {w : World} {K : Act → World → Prop} {Q : Exit → Act → World → Prop} (ty : TypeId) (x y : Operand) (ho : op.op = .store ty x y)
    (c c' : Array Value) (hx : a.eval x = .pointer (some ⟨w.heap.size, 0, none⟩)) (hy : a.eval y = .agg c')
    (hi : (P.info? ty).map (·.size) = some c'.size) (hs : c.size = c'.size) (h1 : c'.all (·.oneCell') = true)
    (h : K (a.put op.dst undef) (w.alloc (.cells c' ty))) : op.wp P a (w.alloc (.cells c ty)) K Q := by
  unfold Oper.wp execOp
  simp only [ho, hx, hy, Sem.run_bind, run_storeAt_new w ty c c' hi hs h1, Result.andThen_ok, Sem.run_pure]
  exact h
theorem wpList_store_new {P : Program} {ops : Array Oper} {rest : List Oper} {op : Oper} {a : Act} {w : World} {Q : Exit → Act → World → Prop} (hgd : op.guard = none) (ty : TypeId) (x y : Operand) (ho : op.op = .store ty x y)
    (c c' : Array Value) (hx : a.eval x = .pointer (some ⟨w.heap.size, 0, none⟩)) (hy : a.eval y = .agg c')
    (hi : (P.info? ty).map (·.size) = some c'.size) (hs : c.size = c'.size) (h1 : c'.all (·.oneCell') = true)
    (h : wpList P ops Q rest (a.put op.dst undef) (w.alloc (.cells c' ty))) : wpList P ops Q (op :: rest) a (w.alloc (.cells c ty)) :=
  wpList_plain hgd fun _ hK => wp_store_new ty x y ho c c' hx hy hi hs h1 (hK _ _ h)
theorem sizeChange : (Tryz.prog.info? 57).map (·.size) = some 13 := by kernel_rfl
theorem sizeFrame : (Tryz.prog.info? 26).map (·.size) = some 5 := by kernel_rfl
theorem ChAt.range {w : World} {b o : Nat} {c : Ch} {a : Option Addr} {cap : Nat} (h : ∀ j u, (chCells c (.slice a c.deps.length cap))[j]? = some u → w.cell? ⟨b, o + j, none⟩ = some u) : w.rangeAt b o (chCells c (.slice a c.deps.length cap)) := h
theorem ChAt.open {w : World} {b o : Nat} {c : Ch} (h : ChAt w b o c) : ∃ (a : Option Addr) (cap : Nat), IsI w (.slice a c.deps.length cap) c.deps ∧ Sized c ∧ w.rangeAt b o (chCells c (.slice a c.deps.length cap)) := by
  obtain ⟨dv, h, hi, hs⟩ := h
  obtain ⟨a, cap, rfl⟩ := hi.form
  exact ⟨a, cap, hi, hs, h⟩
theorem chCells_one (c : Ch) (a : Option Addr) (n cap : Nat) : (chCells c (.slice a n cap)).toArray.all (·.oneCell') = true := by simp [chCells, Value.oneCell']
theorem row_lt {k : Nat} {W : World} {cs : Array Value} {t : TypeId} (h : W.heap[k]? = some (.cells cs t)) : k < W.heap.size := (Array.getElem?_eq_some_iff.1 h).1
theorem row_keptC {w0 W : World} {b : Nat} {v0 v1 v2 v3 v4 v5 v6 v7 v8 v9 v10 v11 v12 : Value} {t : TypeId} (h : W.heap[b]? = some (.cells #[v0, v1, v2, v3, v4, v5, v6, v7, v8, v9, v10, v11, v12] t)) (hb : Below w0.heap.size w0 W) : KeptC w0 b [v0, v1, v2, v3, v4, v5, v6, v7, v8, v9, v10, v11, v12] W := by
  refine ⟨fun i v hv => ?_, row_lt h, hb⟩
  rw [cell_of_row W b i _ _ _ h]
  simpa using hv

end Go.Proofs.YtlioiblpcpaejaaGreat

namespace Go.Proofs.YtlioiblpcpaejaaGreat
open Go.RowKit
set_option linter.unusedVariables false
set_option linter.unusedSimpArgs false

theorem KeptC.five {w0 : World} {b : Nat} {v0 v1 v2 v3 v4 : Value} {W : World} (h : KeptC w0 b [v0, v1, v2, v3, v4] W) : W.cell? ⟨b, 0, none⟩ = some v0 ∧ W.cell? ⟨b, 1, none⟩ = some v1 ∧ W.cell? ⟨b, 2, none⟩ = some v2 ∧ W.cell? ⟨b, 3, none⟩ = some v3 ∧ W.cell? ⟨b, 4, none⟩ = some v4 :=
  ⟨h.1 0 _ rfl, h.1 1 _ rfl, h.1 2 _ rfl, h.1 3 _ rfl, h.1 4 _ rfl⟩

def flagI (b : Bool) : Int := if b = true then 1 else 0

theorem flag_any (b : Bool) (w : World) : Calls Tryz.prog 13 #[.bool b] w fun e w' => e = .returned (.int .i64 (flagI b)) ∧ w' = w := by
  cases b
  · go_enter Tryz.func13, Tryz.ntmps13
    go_wp2
    go_ret
    exact ⟨rfl, rfl⟩
  · go_enter Tryz.func13, Tryz.ntmps13
    go_wp2
    go_ret
    exact ⟨rfl, rfl⟩

theorem wKind_any (k : Int) (w : World) : Calls Tryz.prog 35 #[.int .i64 k] w fun e w' => e = .returned (.bool (decide (1 ≤ k ∧ k ≤ 3))) ∧ w' = w := by
  by_cases h1 : 1 ≤ k
  · go_enter Tryz.func35, Tryz.ntmps35
    go_wp2
    go_ret
    exact ⟨ret_b (by simp; try omega), rfl⟩
  · go_enter Tryz.func35, Tryz.ntmps35
    go_wp2
    go_ret
    exact ⟨ret_b (by simp; try omega), rfl⟩

theorem replica_any (k : Int) (w : World) : Calls Tryz.prog 36 #[.int .i64 k] w fun e w' => e = .returned (.bool (decide (0 ≤ k ∧ k < 64))) ∧ w' = w := by
  by_cases h1 : 0 ≤ k
  · go_enter Tryz.func36, Tryz.ntmps36
    go_wp2
    go_ret
    exact ⟨ret_b (by simp; try omega), rfl⟩
  · go_enter Tryz.func36, Tryz.ntmps36
    go_wp2
    go_ret
    exact ⟨ret_b (by simp; try omega), rfl⟩

def keptB (kd : Int) (n : Nat) (mo : Bool) (m : Nat) : Bool := !decide ((kd = 1 ∧ (0 < n ∨ mo = true ∨ m = 0)) ∨ (kd = 2 ∧ (mo = true ∨ 0 < m)))

set_option maxHeartbeats 1000000 in
theorem isKindKept_any (kd fm : Int) (ac : Option Addr) (n cc : Nat) (mo : Bool) (ah : Option Addr) (m ch : Nat) (w : World) :
    Calls Tryz.prog 39 #[.agg #[.int .i64 kd, .int .i64 fm, .slice ac n cc, .bool mo, .slice ah m ch]] w fun e w' => e = .returned (.bool (keptB kd n mo m)) ∧ Below w.heap.size w w' := by
  have K0 := KeptC.start w [.int .i64 kd, .int .i64 fm, .slice ac n cc, .bool mo, .slice ah m ch] 26
  by_cases k1 : kd = 1
  · subst k1
    by_cases hn : n = 0
    · subst hn
      cases mo
      · by_cases hm : m = 0
        · subst hm
          have HE : Hid (keptB 1 0 false 0 = false) := by show _ = _; unfold keptB; simp; try omega
          go_enter Tryz.func39, Tryz.ntmps39
          go_wp2
          go_ret
          exact ⟨ret_b (by first | exact HE.out.symm | (rw [HE.out]; simp; omega)), by first | exact K0.2.2 | exact below_drewN K0.2.2 _⟩
        · have q : (m : Int) > 0 := by omega
          have HE : Hid (keptB 1 0 false m = true) := by show _ = _; unfold keptB; simp; try omega
          clear hm
          go_enter Tryz.func39, Tryz.ntmps39
          go_wp2
          go_ret
          exact ⟨ret_b (by first | exact HE.out.symm | (rw [HE.out]; simp; omega)), by first | exact K0.2.2 | exact below_drewN K0.2.2 _⟩
      · have HE : Hid (keptB 1 0 true m = false) := by show _ = _; unfold keptB; simp; try omega
        go_enter Tryz.func39, Tryz.ntmps39
        go_wp2
        go_ret
        exact ⟨ret_b (by first | exact HE.out.symm | (rw [HE.out]; simp; omega)), by first | exact K0.2.2 | exact below_drewN K0.2.2 _⟩
    · have q : ((n : Int) == 0) = false := by simp [hn]
      have HE : Hid (keptB 1 n mo m = false) := by show _ = _; unfold keptB; simp; try omega
      clear hn
      go_enter Tryz.func39, Tryz.ntmps39
      go_wp2
      go_ret
      exact ⟨ret_b (by first | exact HE.out.symm | (rw [HE.out]; simp; omega)), by first | exact K0.2.2 | exact below_drewN K0.2.2 _⟩
  · by_cases k2 : kd = 2
    · subst k2
      cases mo
      · by_cases hm : m = 0
        · subst hm
          have HE : Hid (keptB 2 n false 0 = true) := by show _ = _; unfold keptB; simp; try omega
          clear k1
          go_enter Tryz.func39, Tryz.ntmps39
          go_wp2
          go_ret
          exact ⟨ret_b (by first | exact HE.out.symm | (rw [HE.out]; simp; omega)), by first | exact K0.2.2 | exact below_drewN K0.2.2 _⟩
        · have q : ((m : Int) == 0) = false := by simp [hm]
          have HE : Hid (keptB 2 n false m = false) := by show _ = _; unfold keptB; simp; try omega
          clear k1 hm
          go_enter Tryz.func39, Tryz.ntmps39
          go_wp2
          go_ret
          exact ⟨ret_b (by first | exact HE.out.symm | (rw [HE.out]; simp; omega)), by first | exact K0.2.2 | exact below_drewN K0.2.2 _⟩
      · have HE : Hid (keptB 2 n true m = false) := by show _ = _; unfold keptB; simp; try omega
        clear k1
        go_enter Tryz.func39, Tryz.ntmps39
        go_wp2
        go_ret
        exact ⟨ret_b (by first | exact HE.out.symm | (rw [HE.out]; simp; omega)), by first | exact K0.2.2 | exact below_drewN K0.2.2 _⟩
    · have q1 : (kd == 1) = false := by simp [k1]
      have q2 : (kd == 2) = false := by simp [k2]
      have HE : Hid (keptB kd n mo m = true) := by show _ = _; unfold keptB; simp [k1, k2]
      clear k1 k2
      go_enter Tryz.func39, Tryz.ntmps39
      go_wp2
      go_ret
      exact ⟨ret_b (by first | exact HE.out.symm | (rw [HE.out]; simp; omega)), by first | exact K0.2.2 | exact below_drewN K0.2.2 _⟩

theorem headFr_eq (kd fm : Int) (cl : List Int) (mo : Bool) (L : List Ch) : headFr ⟨kd, fm, cl, mo, L⟩ = if 1 ≤ kd ∧ kd ≤ 3 ∧ 0 ≤ fm ∧ fm < 64 then (if checkL cl = 0 then (if (trimL cl).length = cl.length then (if L.length ≤ 64 then (if keptB kd cl.length mo L.length = true then 0 else 2) else 3) else 2) else checkL cl) else 1 := by
  unfold headFr keptB
  simp only [Bool.not_eq_true', decide_eq_false_iff_not]
  by_cases h : (kd = 1 ∧ (0 < cl.length ∨ mo = true ∨ L.length = 0)) ∨ (kd = 2 ∧ (mo = true ∨ 0 < L.length))
  · rw [if_pos h, if_neg (not_not_intro h)]
  · rw [if_neg h, if_pos h]

set_option maxRecDepth 100000 in
set_option maxHeartbeats 4000000 in
theorem checkHead_any (kd fm : Int) (a1 : Option Addr) (cl : List Int) (cc : Nat) (mo : Bool) (a2 : Option Addr) (L : List Ch) (ch : Nat) (w : World) (h1 : IsI w (.slice a1 cl.length cc) cl) :
    Calls Tryz.prog 16 #[.agg #[.int .i64 kd, .int .i64 fm, .slice a1 cl.length cc, .bool mo, .slice a2 L.length ch]] w fun e w' => e = .returned (.int .i64 (headFr ⟨kd, fm, cl, mo, L⟩)) ∧ Below w.heap.size w w' := by
  have K0 := KeptC.start w [.int .i64 kd, .int .i64 fm, .slice a1 cl.length cc, .bool mo, .slice a2 L.length ch] 26
  have H1 : Hid (IsI w (.slice a1 cl.length cc) cl) := h1
  have HQ : Hid (headFr ⟨kd, fm, cl, mo, L⟩ = _) := headFr_eq kd fm cl mo L
  clear h1
  by_cases k1 : 1 ≤ kd ∧ kd ≤ 3
  · by_cases k2 : 0 ≤ fm ∧ fm < 64
    · have HK : Hid (1 ≤ kd ∧ kd ≤ 3 ∧ 0 ≤ fm ∧ fm < 64) := by show _ ∧ _; omega
      have q1 : decide (1 ≤ kd ∧ kd ≤ 3) = true := by simp; omega
      have q2 : decide (0 ≤ fm ∧ fm < 64) = true := by simp; omega
      clear k1 k2
      by_cases k3 : checkL cl = 0
      · have HK3 : Hid (checkL cl = 0) := k3
        clear k3
        go_enter Tryz.func16, Tryz.ntmps16
        go_wp2_with fail
        refine (wKind_any _ _).mono ?_
        rintro e w' ⟨rfl, hw⟩
        replace hw := hw.symm
        subst hw
        rw [q1]
        go_wp2_with fail
        refine (replica_any _ _).mono ?_
        rintro e w' ⟨rfl, hw⟩
        replace hw := hw.symm
        subst hw
        rw [q2]
        go_wp2_with fail
        refine (check_any _ cl _ (H1.out.below K0.2.2)).mono ?_
        rintro e w' ⟨rfl, hw⟩
        replace hw := hw.symm
        subst hw
        rw [HK3.out]
        go_wp2_with fail
        refine wp_region_held_drew (S := fun W' => KeptC w w.heap.size [.int .i64 kd, .int .i64 fm, .slice a1 cl.length cc, .bool mo, .slice a2 L.length ch] W') (by kernel_rfl) K0.drew (fun hHeld => ?_)
        refine wpAnyH_take (i := 0) (oi := ⟨some 20, _, _, _, _, _⟩) (v := ?vh0) rfl (by kernel_rfl) (by kernel_rfl) (by kernel_rfl) (fun _ _ _ h => h) (Or.inl ⟨by rfl, ?hyh0⟩) hHeld ?resth0
        case hyh0 => (intro w hSw; (try dsimp only at hSw); obtain ⟨hc0, hc1, hc2, hc3, hc4⟩ := hSw.five; go_simp; try with_reducible rfl)
        simp only [Act.put, List.setIfInBounds_toArray, List.set_cons_zero, List.set_cons_succ]
        refine wpAnyH_take (i := 1) (oi := ⟨some 21, _, _, _, _, _⟩) (v := ?vh1) rfl (by kernel_rfl) (by kernel_rfl) (by kernel_rfl) (fun _ _ _ h => h) (Or.inl ⟨by rfl, ?hyh1⟩) hHeld ?resth1
        case hyh1 => (intro w hSw; (try dsimp only at hSw); obtain ⟨hc0, hc1, hc2, hc3, hc4⟩ := hSw.five; go_simp; try with_reducible rfl)
        simp only [Act.put, List.setIfInBounds_toArray, List.set_cons_zero, List.set_cons_succ]
        refine wpAnyH_take (i := 4) (oi := ⟨some 24, _, _, _, _, _⟩) (v := ?vh4) rfl (by kernel_rfl) (by kernel_rfl) (by kernel_rfl) (fun _ _ _ h => h) (Or.inl ⟨by rfl, ?hyh4⟩) hHeld ?resth4
        case hyh4 => (intro w hSw; (try dsimp only at hSw); obtain ⟨hc0, hc1, hc2, hc3, hc4⟩ := hSw.five; go_simp; try with_reducible rfl)
        simp only [Act.put, List.setIfInBounds_toArray, List.set_cons_zero, List.set_cons_succ]
        refine wpAnyH_take (i := 5) (oi := ⟨some 25, _, _, _, _, _⟩) (v := ?vh5) rfl (by kernel_rfl) (by kernel_rfl) (by kernel_rfl) (fun _ _ _ h => h) (Or.inl ⟨by rfl, ?hyh5⟩) hHeld ?resth5
        case hyh5 => (intro w hSw; (try dsimp only at hSw); obtain ⟨hc0, hc1, hc2, hc3, hc4⟩ := hSw.five; go_simp; try with_reducible rfl)
        simp only [Act.put, List.setIfInBounds_toArray, List.set_cons_zero, List.set_cons_succ]
        refine wpAnyH_take (i := 6) (oi := ⟨some 26, _, _, _, _, _⟩) (v := ?vh6) rfl (by kernel_rfl) (by kernel_rfl) (by kernel_rfl) (fun _ _ _ h => h) (Or.inl ⟨by rfl, ?hyh6⟩) hHeld ?resth6
        case hyh6 => (intro w hSw; (try dsimp only at hSw); obtain ⟨hc0, hc1, hc2, hc3, hc4⟩ := hSw.five; go_simp; try with_reducible rfl)
        simp only [Act.put, List.setIfInBounds_toArray, List.set_cons_zero, List.set_cons_succ]
        refine wpAnyH_ready (rs := [2]) (by kernel_rfl) (by simp) ?_
        refine AllReadyH.cons (o := ⟨some 22, _, _, _, _, _⟩) rfl (fun K hK => ?_) AllReadyH.nil
        go_simp
        refine (trim_any _ cl _ (H1.out.below hHeld.2.2)).mono ?_
        rintro e w2 ⟨v2, rfl, ho2, hb⟩
        obtain ⟨a3, c3, e3⟩ := ho2.form
        subst e3
        clear ho2
        (try go_wp2_with fail)
        refine hK.out _ _ (hHeld.step hb) (fun hHeld2 => ?_)
        clear hK K hHeld
        have hHeld := hHeld2
        clear hHeld2
        (try simp only [Act.put, List.setIfInBounds_toArray, List.set_cons_zero, List.set_cons_succ])
        refine wpAnyH_take (i := 3) (oi := ⟨some 23, _, _, _, _, _⟩) (v := ?vh3) rfl (by kernel_rfl) (by kernel_rfl) (by kernel_rfl) (fun _ _ _ h => h) (Or.inl ⟨by rfl, ?hyh3⟩) hHeld ?resth3
        case hyh3 => (intro w hSw; (try dsimp only at hSw); obtain ⟨hc0, hc1, hc2, hc3, hc4⟩ := hSw.five; go_simp; try with_reducible rfl)
        simp only [Act.put, List.setIfInBounds_toArray, List.set_cons_zero, List.set_cons_succ]
        refine wpAnyH_take (i := 7) (oi := ⟨some 27, _, _, _, _, _⟩) (v := ?vh7) rfl (by kernel_rfl) (by kernel_rfl) (by kernel_rfl) (fun _ _ _ h => h) (Or.inl ⟨by rfl, ?hyh7⟩) hHeld ?resth7
        case hyh7 => (intro w hSw; (try dsimp only at hSw); obtain ⟨hc0, hc1, hc2, hc3, hc4⟩ := hSw.five; go_simp; try with_reducible rfl)
        simp only [Act.put, List.setIfInBounds_toArray, List.set_cons_zero, List.set_cons_succ]
        refine wpAnyH_done (by kernel_rfl) ?_ _
        have K2 := hHeld
        clear hHeld
        obtain ⟨k_0, k_1, k_2, k_3, k_4⟩ := K2.five
        by_cases k4 : (trimL cl).length = cl.length
        · have HK4 : Hid ((trimL cl).length = cl.length) := k4
          rw [k4]
          clear k4
          have q4 : ((cl.length : Int) != (cl.length : Int)) = false := by simp
          by_cases k5 : L.length ≤ 64
          · have q5 : ¬ (64 : Int) < (L.length : Int) := by omega
            have HK5 : Hid (L.length ≤ 64) := k5
            go_wp2_with fail
            refine (isKindKept_any _ _ _ _ _ _ _ _ _ _).mono ?_
            rintro e w3 ⟨rfl, hb3⟩
            have K3 := K2.step hb3
            cases k6 : keptB kd cl.length mo L.length
            · have HE : Hid (headFr ⟨kd, fm, cl, mo, L⟩ = 2) := by show _ = _; rw [HQ.out, if_pos HK.out, if_pos HK3.out, if_pos HK4.out, if_pos HK5.out, if_neg (by rw [k6]; decide)]
              go_wp2
              go_ret
              exact ⟨ret_i HE.out.symm, K3.2.2⟩
            · have HE : Hid (headFr ⟨kd, fm, cl, mo, L⟩ = 0) := by show _ = _; rw [HQ.out, if_pos HK.out, if_pos HK3.out, if_pos HK4.out, if_pos HK5.out, if_pos k6]
              go_wp2
              go_ret
              exact ⟨ret_i HE.out.symm, K3.2.2⟩
          · have q5 : (64 : Int) < (L.length : Int) := by omega
            have HE : Hid (headFr ⟨kd, fm, cl, mo, L⟩ = 3) := by show _ = _; rw [HQ.out, if_pos HK.out, if_pos HK3.out, if_pos HK4.out, if_neg k5]
            clear k5
            go_wp2
            go_ret
            exact ⟨ret_i HE.out.symm, K2.2.2⟩
        · have HE : Hid (headFr ⟨kd, fm, cl, mo, L⟩ = 2) := by show _ = _; rw [HQ.out, if_pos HK.out, if_pos HK3.out, if_neg k4]
          have q4 : (((trimL cl).length : Int) != (cl.length : Int)) = true := by simp; omega
          clear k4
          go_wp2
          go_ret
          exact ⟨ret_i HE.out.symm, K2.2.2⟩
      · have HE : Hid (headFr ⟨kd, fm, cl, mo, L⟩ = checkL cl) := by show _ = _; rw [HQ.out, if_pos HK.out, if_neg k3]
        have q3 : (checkL cl != 0) = true := by simp [k3]
        go_enter Tryz.func16, Tryz.ntmps16
        go_wp2_with fail
        refine (wKind_any _ _).mono ?_
        rintro e w' ⟨rfl, hw⟩
        replace hw := hw.symm
        subst hw
        rw [q1]
        go_wp2_with fail
        refine (replica_any _ _).mono ?_
        rintro e w' ⟨rfl, hw⟩
        replace hw := hw.symm
        subst hw
        rw [q2]
        go_wp2_with fail
        refine (check_any _ cl _ (H1.out.below K0.2.2)).mono ?_
        rintro e w' ⟨rfl, hw⟩
        replace hw := hw.symm
        subst hw
        clear k3
        generalize checkL cl = z at *
        go_wp2
        go_ret
        exact ⟨ret_i HE.out.symm, K0.2.2⟩
    · have HE : Hid (headFr ⟨kd, fm, cl, mo, L⟩ = 1) := by show _ = _; rw [HQ.out, if_neg (by omega)]
      have q1 : decide (1 ≤ kd ∧ kd ≤ 3) = true := by simp; omega
      have q2 : decide (0 ≤ fm ∧ fm < 64) = false := by simp; omega
      clear k1 k2
      go_enter Tryz.func16, Tryz.ntmps16
      go_wp2_with fail
      refine (wKind_any _ _).mono ?_
      rintro e w' ⟨rfl, hw⟩
      replace hw := hw.symm
      subst hw
      rw [q1]
      go_wp2_with fail
      refine (replica_any _ _).mono ?_
      rintro e w' ⟨rfl, hw⟩
      replace hw := hw.symm
      subst hw
      rw [q2]
      go_wp2
      go_ret
      exact ⟨ret_i HE.out.symm, K0.2.2⟩
  · have HE : Hid (headFr ⟨kd, fm, cl, mo, L⟩ = 1) := by show _ = _; rw [HQ.out, if_neg (by omega)]
    have q1 : decide (1 ≤ kd ∧ kd ≤ 3) = false := by simp; omega
    clear k1
    go_enter Tryz.func16, Tryz.ntmps16
    go_wp2_with fail
    refine (wKind_any _ _).mono ?_
    rintro e w' ⟨rfl, hw⟩
    replace hw := hw.symm
    subst hw
    rw [q1]
    go_wp2
    go_ret
    exact ⟨ret_i HE.out.symm, K0.2.2⟩

end Go.Proofs.YtlioiblpcpaejaaGreat

namespace Go.Proofs.YtlioiblpcpaejaaGreat
open Go.RowKit
set_option linter.unusedVariables false
set_option linter.unusedSimpArgs false


set_option maxRecDepth 100000 in
set_option maxHeartbeats 4000000 in
theorem checkFr_any (kd fm : Int) (a1 : Option Addr) (cl : List Int) (cc : Nat) (mo : Bool) (a2 : Option Addr) (L : List Ch) (ch : Nat) (w : World) (h1 : IsI w (.slice a1 cl.length cc) cl) (h2 : IsH w (.slice a2 L.length ch) L) :
    Calls Tryz.prog 53 #[.agg #[.int .i64 kd, .int .i64 fm, .slice a1 cl.length cc, .bool mo, .slice a2 L.length ch]] w fun e w' => e = .returned (.int .i64 (checkFr ⟨kd, fm, cl, mo, L⟩)) ∧ Below w.heap.size w w' := by
  have K0 := KeptC.start w [.int .i64 kd, .int .i64 fm, .slice a1 cl.length cc, .bool mo, .slice a2 L.length ch] 26
  have H1 : Hid (IsI w (.slice a1 cl.length cc) cl) := h1
  obtain ⟨a2', ch', e2, hc2, hl2, r2⟩ := h2
  cases e2
  have HR : Hid (L = [] ∨ ∃ b o, a2 = some ⟨b, o, none⟩ ∧ ChsAt w b o L) := r2
  have HQ : Hid (checkFr ⟨kd, fm, cl, mo, L⟩ = _) := checkFr_head ⟨kd, fm, cl, mo, L⟩
  clear h1 r2
  go_enter Tryz.func53, Tryz.ntmps53
  go_wp2_with fail
  refine (checkHead_any kd fm a1 cl cc mo a2 L ch _ (H1.out.below K0.2.2)).mono ?_
  rintro e w1 ⟨rfl, hb1⟩
  have K1 := K0.step hb1
  clear hb1
  by_cases h0 : headFr ⟨kd, fm, cl, mo, L⟩ = 0
  · have HE : Hid (checkFr ⟨kd, fm, cl, mo, L⟩ = firstE L) := by show _ = _; rw [HQ.out, if_pos h0]
    rw [h0]
    clear h0
    obtain ⟨k_0, k_1, k_2, k_3, k_4⟩ := K1.five
    go_wp2
    go_loopw [15] (fun i wr => ∃ k : Nat, k ≤ L.length ∧ i = .int .i64 (k : Int) ∧ (∀ j (hj : j < L.length), j < k → checkCh L[j] = 0) ∧ KeptC w w.heap.size [.int .i64 kd, .int .i64 fm, .slice a1 cl.length cc, .bool mo, .slice a2 L.length ch] wr) (fun i _ => L.length - (intOf i).toNat)
    case atStart => exact ⟨0, Nat.zero_le _, rfl, fun j _ h => absurd h (Nat.not_lt_zero _), K1⟩
    case round =>
      obtain ⟨k, hk, rfl, ht, KR⟩ := hrel
      have HT : Hid (∀ j (hj : j < L.length), j < k → checkCh L[j] = 0) := ht
      clear ht
      by_cases hlt : k < L.length
      · obtain ⟨b1, o1, rfl, g1⟩ := HR.out.resolve_left (by intro e; subst e; simp at hlt)
        obtain ⟨a3, c3, i3, hs3, hx⟩ := ((g1.below KR.2.2) k hlt).open
        have k1 : (k : Int) < (L.length : Int) := by omega
        have k0 : (0 : Int) ≤ (k : Int) := by omega
        have HM : Hid (checkCh L[k] = 0 → ∀ j (hj : j < L.length), j < k + 1 → checkCh L[j] = 0) := fun h0 j hj hjk => by
          rcases Nat.lt_or_eq_of_le (Nat.le_of_lt_succ hjk) with h | h
          · exact HT.out j hj h
          · subst h; exact h0
        have HN : Hid (checkCh L[k] ≠ 0 → firstE L = checkCh L[k]) := fun h0 => firstE_take hlt HT.out h0
        generalize L[k] = c at *
        have HX : Hid (wr.rangeAt b1 (o1 + k * 13) (chCells c (.slice a3 c.deps.length c3))) := hx
        have I3 : Hid (IsI wr (.slice a3 c.deps.length c3) c.deps) := i3
        have HS : Hid (Sized c) := hs3
        clear g1 i3 hs3 hx
        go_upto_region 6 with fail
        go_cut [5] from 16 (fun v w2 => ∃ g, v = .pointer (some ⟨g, 0, none⟩) ∧ w2.heap[g]? = some (.cells #[.int .i64 c.ac, .int .i64 c.ar, .int .i64 c.seq, .slice a3 c.deps.length c3, .int .i64 c.kind, .int .i64 c.nc, .int .i64 c.nr, .int .i64 c.pc, .int .i64 c.pr, .int .i64 c.fc, .int .i64 c.fr, .string c.name, .string c.value] 57) ∧ Below wr.heap.size wr w2)
        case first =>
          go_step
          refine wpList_plain rfl (fun K hK => ?_)
          go_simp
          refine hK _ _ ?_
          clear hK K
          refine wpList_load_mid rfl 57 (.tmp 17) rfl b1 (o1 + k * 13) rfl (chCells c (.slice a3 c.deps.length c3)) _ HX.out Tryz.underlying57 rfl sizeChange ?_
          (try simp only [Act.put, List.setIfInBounds_toArray, List.set_cons_zero, List.set_cons_succ])
          refine wpList_plain rfl (fun K hK => ?_)
          go_simp
          refine hK _ _ ?_
          clear hK K
          refine wpList_store_new rfl 57 (.tmp 5) (.tmp 18) rfl _ _ rfl rfl sizeChange rfl (chCells_one c _ _ _) ?_
          (try simp only [Act.put, List.setIfInBounds_toArray, List.set_cons_zero, List.set_cons_succ])
          go_wp2
          go_meet
          case rel => exact ⟨_, rfl, heap_alloc_new _ _, (Below.refl _ _).alloc (Nat.le_refl _) _⟩
        case rest =>
          obtain ⟨g, rfl, hg, hbc⟩ := hcut
          have KR2 := KR.step hbc
          have I4 : Hid (IsI wc (.slice a3 c.deps.length c3) c.deps) := I3.out.below hbc
          have KC := row_keptC hg (Below.refl wc.heap.size wc)
          obtain ⟨y0, y1, y2, y3, y4, y5, y6, y7, y8, y9, y10, y11, y12⟩ := KC.all
          clear KC hg hbc I3 KR
          go_wp2_with fail
          refine (checkCh_any _ _ _ _ _ _ _ _ _ _ _ _ _ c.deps HS.out.1 _ I4.out).mono ?_
          rintro e w3 ⟨rfl, hb3⟩
          have K3 := KR2.step hb3
          clear y0 y1 y2 y3 y4 y5 y6 y7 y8 y9 y10 y11 y12 hb3 KR2
          have HCC : Hid (checkCh ⟨c.ac, c.ar, c.seq, c.deps, c.kind, c.nc, c.nr, c.pc, c.pr, c.fc, c.fr, c.name, c.value⟩ = checkCh c) := rfl
          rw [HCC.out]
          by_cases hz : checkCh c = 0
          · have HM2 := HM.out hz
            have HM3 : Hid (∀ j (hj : j < L.length), j < k + 1 → checkCh L[j] = 0) := HM2
            clear HM2
            rw [hz]
            clear hz
            go_wp2
            go_roundw
            case rel => exact ⟨k + 1, by omega, by go_num, HM3.out, K3⟩
            case measure => simp [intOf]; omega
          · have HN2 : Hid (firstE L = checkCh c) := HN.out hz
            have q : (checkCh c != 0) = true := by simp [hz]
            clear hz
            generalize checkCh c = z at *
            go_wp2
            go_ret
            exact ⟨ret_i (by rw [HE.out, HN2.out]), K3.2.2⟩
      · have HF : Hid (firstE L = 0) := firstE_all fun c hc => by
          obtain ⟨i, hi, rfl⟩ := List.getElem_of_mem hc
          exact HT.out i hi (by omega)
        go_wp2
        go_ret
        exact ⟨ret_i (by rw [HE.out, HF.out]), KR.2.2⟩
  · have HE : Hid (checkFr ⟨kd, fm, cl, mo, L⟩ = headFr ⟨kd, fm, cl, mo, L⟩) := by show _ = _; rw [HQ.out, if_neg h0]
    have q : (headFr ⟨kd, fm, cl, mo, L⟩ != 0) = true := by simp [h0]
    clear h0
    generalize headFr ⟨kd, fm, cl, mo, L⟩ = z at *
    go_wp2
    go_ret
    exact ⟨ret_i HE.out.symm, K1.2.2⟩

end Go.Proofs.YtlioiblpcpaejaaGreat
