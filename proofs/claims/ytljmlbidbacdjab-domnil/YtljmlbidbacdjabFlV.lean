/- Lists of things of some cells each, one behind the other: of stamps, of registers, of texts; as they lie in memory. -/
import Derived.Test.YtljmlbidbacdjabMpW
import Derived.Test.YtljmlbidbacdjabTk
import Derived.Test.YtljmlbidbacdjabWalksD
import Derived.Test.YtljmlbidbacdjabWalksK
import Derived.Deep.MidRow
import Derived.Laws.Rows
import Derived.Maps.AppendAt
import Derived.OwnWalk
import Derived.Laws.AppendOwnNone
import Derived.Laws.CopyOwn
namespace Go.Proofs.Ytljmlbidbacdjab
open Go.RowKit
set_option linter.unusedVariables false
set_option linter.unusedSimpArgs false

/-- A fact that no walk is to rewrite with. -/
theorem cell_lt {w : World} {p : Addr} {v : Value} (h : w.cell? p = some v) : p.block < w.heap.size := by
  rcases Nat.lt_or_ge p.block w.heap.size with h' | h'
  · exact h'
  · simp [World.cell?, h'] at h
theorem row_lt {w : World} {g : Nat} {o : Obj} (h : w.heap[g]? = some o) : g < w.heap.size := (Array.getElem?_eq_some_iff.1 h).1

/-- The blocks of S lie as they lay. -/
def KeepsS (S : Nat → Prop) (W W' : World) : Prop := W.heap.size ≤ W'.heap.size ∧ ∀ k, S k → W'.heap[k]? = W.heap[k]?
theorem KeepsS.refl (S : Nat → Prop) (W : World) : KeepsS S W W := ⟨Nat.le_refl _, fun _ _ => rfl⟩
theorem KeepsS.trans {S : Nat → Prop} {A B C : World} (h : KeepsS S A B) (k : KeepsS S B C) : KeepsS S A C := ⟨Nat.le_trans h.1 k.1, fun j h1 => (k.2 j h1).trans (h.2 j h1)⟩
theorem KeepsS.of_below {S : Nat → Prop} {B : Nat} {W W' : World} (h : Below B W W') (hB : ∀ k, S k → k < B) : KeepsS S W W' := ⟨h.size, fun k h2 => h.block k (hB k h2)⟩
theorem KeepsS.drew {S : Nat → Prop} {W W' : World} (h : KeepsS S W W') : KeepsS S W W'.drew := ⟨h.1, fun k hk => h.2 k hk⟩
theorem KeepsS.mono {S T : Nat → Prop} {W W' : World} (h : KeepsS S W W') (hs : ∀ k, T k → S k) : KeepsS T W W' := ⟨h.1, fun k hk => h.2 k (hs k hk)⟩
theorem KeepsS.cell {S : Nat → Prop} {A B : World} (h : KeepsS S A B) {p : Addr} (h1 : S p.block) : B.cell? p = A.cell? p := World.cell?_of_block (w := A) (h.2 p.block h1)
/-- A row that is owned, in a block that is kept. -/
theorem ownsRow_keep {w w' : World} {B : Nat} {e : TypeId} {size : Nat} {v : Value} {n : Nat} {xs : List Value} (h : w.ownsRow B e size v n xs) (hk : ∀ k, v.ownBlock = some k → w'.heap[k]? = w.heap[k]?) : w'.ownsRow B e size v n xs := by
  refine ⟨h.1, ?_⟩
  rcases h.2 with hn | ⟨g, cap, cur, hv, hg, hc, rest⟩
  · exact .inl hn
  · refine .inr ⟨g, cap, cur, hv, hg, ?_, rest⟩
    rw [hk g (by rw [hv]; rfl)]
    exact hc
theorem ownsRow_low {w : World} {B B' : Nat} {e : TypeId} {size : Nat} {v : Value} {n : Nat} {xs : List Value} (h : w.ownsRow B e size v n xs) (hB : B' ≤ B) : w.ownsRow B' e size v n xs := by
  refine ⟨h.1, ?_⟩
  rcases h.2 with hn | ⟨g, cap, cur, hv, hg, rest⟩
  · exact .inl hn
  · exact .inr ⟨g, cap, cur, hv, by omega, rest⟩
theorem ownsRow_type {w : World} {B : Nat} {e : TypeId} {size : Nat} {v : Value} {n : Nat} {xs : List Value} (h : w.ownsRow B e size v n xs) : ∀ k, v.ownBlock = some k → ∃ cur, w.heap[k]? = some (.cells cur e (0, 0)) := by
  intro k e1
  rcases h.2 with ⟨rfl, _⟩ | ⟨g, cap, cur, rfl, hg, hc, _⟩
  · cases e1
  · have a1 : g = k := by simpa [Value.ownBlock] using e1
    subst a1
    exact ⟨cur, hc⟩
/-- Nothing but blocks of F has changed, and what is new. -/
structure Touch (F : Nat → Prop) (w w' : World) : Prop where
  os : w'.os = w.os
  tape : w'.tape = w.tape
  output : w'.output = w.output
  size : w.heap.size ≤ w'.heap.size
  block : ∀ k, k < w.heap.size → ¬ F k → w'.heap[k]? = w.heap[k]?
theorem Touch.refl (F : Nat → Prop) (w : World) : Touch F w w := ⟨rfl, rfl, rfl, Nat.le_refl _, fun _ _ _ => rfl⟩
theorem Touch.of_below {F : Nat → Prop} {w w' : World} (h : Below w.heap.size w w') : Touch F w w' := ⟨h.os, h.tape, h.output, h.size, fun k hk _ => h.block k hk⟩
theorem Touch.of_grown {F : Nat → Prop} {w w' : World} {row : Option Nat} (h : w.grownBy w' row) (hr : ∀ k, row = some k → k < w.heap.size → F k) : Touch F w w' := ⟨h.os, h.tape, h.output, h.size, fun k hk hF => h.block k hk fun e => hF (hr k e.symm hk)⟩
theorem Touch.trans {F F' : Nat → Prop} {a b c : World} (h : Touch F a b) (k : Touch F' b c) (hF : ∀ j, F' j → F j ∨ a.heap.size ≤ j) : Touch F a c :=
  ⟨k.os.trans h.os, k.tape.trans h.tape, k.output.trans h.output, Nat.le_trans h.size k.size, fun j hj hn => (k.block j (Nat.lt_of_lt_of_le hj h.size) (fun h' => (hF j h').elim hn (fun h2 => by omega))).trans (h.block j hj hn)⟩
theorem Touch.mono {F F' : Nat → Prop} {a b : World} (h : Touch F a b) (hF : ∀ j, F j → F' j) : Touch F' a b := ⟨h.os, h.tape, h.output, h.size, fun j hj hn => h.block j hj fun h' => hn (hF j h')⟩
theorem Touch.below {F : Nat → Prop} {w w' : World} (h : Touch F w w') {B : Nat} (hB : ∀ k, F k → B ≤ k) (hs : B ≤ w.heap.size) : Below B w w' := ⟨h.os, h.tape, h.output, h.size, fun k hk => h.block k (by omega) fun hF => by have := hB k hF; omega⟩
theorem Touch.keeps {F G : Nat → Prop} {w w' : World} (h : Touch F w w') (hG : ∀ k, G k → k < w.heap.size ∧ ¬ F k) : KeepsS G w w' := ⟨h.size, fun k hk => h.block k (hG k hk).1 (hG k hk).2⟩
theorem Touch.drew {F : Nat → Prop} {w w' : World} (h : Touch F w w') : Touch F w w'.drew := ⟨h.os, h.tape, h.output, h.size, h.block⟩
theorem grownBy_setCell (W : World) (b i : Nat) (v : Value) : W.grownBy (W.setCell ⟨b, i, none⟩ v) (some b) :=
  ⟨rfl, rfl, rfl, by simp [World.setCell], fun k hk hne => by rw [RowKit.Below.heap_setCell _ _ _ _ (fun e => hne (by rw [e]))]⟩

section
variable {α : Type}
/-- Things, cell behind cell. -/
def flatE (enc : α → List Value) (D : List α) : List Value := D.flatMap enc
variable {enc : α → List Value} {n : Nat}
theorem flatE_cons (x : α) (D : List α) : flatE enc (x :: D) = enc x ++ flatE enc D := rfl
theorem flatE_append (D E : List α) : flatE enc (D ++ E) = flatE enc D ++ flatE enc E := by simp [flatE]
theorem flatE_snoc (D : List α) (x : α) : flatE enc (D ++ [x]) = flatE enc D ++ enc x := by simp [flatE]
theorem flatE_length (hn : ∀ x, (enc x).length = n) (D : List α) : (flatE enc D).length = D.length * n := by
  induction D with
  | nil => simp [flatE]
  | cons x y ih => rw [flatE_cons, List.length_append, ih, hn, List.length_cons, Nat.add_mul]; omega
theorem flatE_get (hn : ∀ x, (enc x).length = n) (D : List α) : ∀ i (h : i < D.length) j u, (enc D[i])[j]? = some u → (flatE enc D)[i * n + j]? = some u := by
  induction D with
  | nil => intro i h; simp at h
  | cons x y ih =>
    intro i h j u hj
    rw [flatE_cons]
    match i with
    | 0 =>
      have hj2 := (List.getElem?_eq_some_iff.1 hj).1
      rw [Nat.zero_mul, Nat.zero_add, List.getElem?_append_left (by simpa using hj2)]
      exact hj
    | i + 1 =>
      rw [List.getElem?_append_right (by rw [hn, Nat.add_mul]; omega), hn, show (i + 1) * n + j - n = i * n + j by rw [Nat.add_mul]; omega]
      exact ih i (by simpa using h) j u (by simpa using hj)
theorem flatE_take (hn : ∀ x, (enc x).length = n) (D : List α) (i : Nat) : flatE enc (D.take i) = (flatE enc D).take (i * n) := by
  induction D generalizing i with
  | nil => simp [flatE]
  | cons x t ih =>
    match i with
    | 0 => simp [flatE]
    | i + 1 => rw [List.take_succ_cons, flatE_cons, flatE_cons, ih i, List.take_append, hn, List.take_of_length_le (l := enc x) (by rw [hn, Nat.add_mul]; omega), show (i + 1) * n - n = i * n by rw [Nat.add_mul]; omega]
theorem flatE_drop (hn : ∀ x, (enc x).length = n) (D : List α) (i : Nat) : flatE enc (D.drop i) = (flatE enc D).drop (i * n) := by
  induction D generalizing i with
  | nil => simp [flatE]
  | cons x t ih =>
    match i with
    | 0 => simp
    | i + 1 => rw [List.drop_succ_cons, flatE_cons, ih i, List.drop_append, hn, List.drop_of_length_le (l := enc x) (by rw [hn, Nat.add_mul]; omega), List.nil_append, show (i + 1) * n - n = i * n by rw [Nat.add_mul]; omega]
/-- A list of them at a slice's place, in a block of G. -/
def LsE (enc : α → List Value) (n : Nat) (G : Nat → Prop) (w : World) (v : Value) (D : List α) : Prop :=
  ∃ (a : Option Addr) (cap : Nat), v = .slice a D.length cap ∧ D.length ≤ cap ∧ D.length ≤ 8796093022208 ∧ (D = [] ∨ ∃ b o, a = some ⟨b, o, none⟩ ∧ G b ∧ b < w.heap.size ∧ ∀ i (h : i < D.length) j u, (enc D[i])[j]? = some u → w.cell? ⟨b, o + i * n + j, none⟩ = some u)
variable {G G' : Nat → Prop} {w w' : World} {v : Value} {D : List α} {B : Nat} {T : TypeId}
theorem LsE.form (h : LsE enc n G w v D) : ∃ a cap, v = .slice a D.length cap := by obtain ⟨a, cap, e, _⟩ := h; exact ⟨a, cap, e⟩
theorem LsE.len (h : LsE enc n G w v D) : D.length ≤ 8796093022208 := by obtain ⟨a, cap, e, _, hl, _⟩ := h; exact hl
theorem LsE.keep (h : LsE enc n G w v D) (hk : KeepsS G w w') : LsE enc n G w' v D := by
  obtain ⟨a, cap, e, hc, hl, h⟩ := h
  exact ⟨a, cap, e, hc, hl, h.imp id fun ⟨b, o, e2, hg, hlt, hr⟩ => ⟨b, o, e2, hg, Nat.lt_of_lt_of_le hlt hk.1, fun i hi j u hj => (hk.cell (p := ⟨b, _, none⟩) hg).trans (hr i hi j u hj)⟩⟩
theorem LsE.below (h : LsE enc n G w v D) (hb : Below w.heap.size w w') : LsE enc n G w' v D := by
  obtain ⟨a, cap, e, hc, hl, h⟩ := h
  exact ⟨a, cap, e, hc, hl, h.imp id fun ⟨b, o, e2, hg, hlt, hr⟩ => ⟨b, o, e2, hg, Nat.lt_of_lt_of_le hlt hb.size, fun i hi j u hj => (hb.cell (p := ⟨b, _, none⟩) hlt).trans (hr i hi j u hj)⟩⟩
theorem LsE.touch (h : LsE enc n G w v D) {F : Nat → Prop} (ht : Touch F w w') (hF : ∀ k, G k → ¬ F k) : LsE enc n G w' v D := by
  obtain ⟨a, cap, e, hc, hl, h⟩ := h
  exact ⟨a, cap, e, hc, hl, h.imp id fun ⟨b, o, e2, hg, hlt, hr⟩ => ⟨b, o, e2, hg, Nat.lt_of_lt_of_le hlt ht.size, fun i hi j u hj => (World.cell?_of_block (w := w) (ht.block b hlt (hF b hg))).trans (hr i hi j u hj)⟩⟩
theorem LsE.mono (h : LsE enc n G w v D) (hG : ∀ k, G k → G' k) : LsE enc n G' w v D := by
  obtain ⟨a, cap, e, hc, hl, h⟩ := h
  exact ⟨a, cap, e, hc, hl, h.imp id fun ⟨b, o, e2, hg, r⟩ => ⟨b, o, e2, hG b hg, r⟩⟩
theorem LsE.nil (w : World) (a : Option Addr) (cap : Nat) : LsE enc n G w (.slice a 0 cap) [] := ⟨a, cap, rfl, Nat.zero_le _, by simp, .inl rfl⟩
theorem LsE.take (h : LsE enc n G w v D) {a : Option Addr} {m cap : Nat} (e : v = .slice a m cap) (k : Nat) (hk : k ≤ D.length) : LsE enc n G w (.slice a k cap) (D.take k) := by
  obtain ⟨a', cap', e', hc, hl, h⟩ := h
  rw [e] at e'
  injection e' with e1 e2 e3
  subst e1 e3
  refine ⟨a, cap, by rw [List.length_take, Nat.min_eq_left hk], by rw [List.length_take]; omega, by rw [List.length_take]; omega, ?_⟩
  rcases h with rfl | ⟨b, o, e4, hg, hlt, hr⟩
  · left; simp
  · right
    refine ⟨b, o, e4, hg, hlt, fun i hi j u hj => ?_⟩
    rw [List.length_take] at hi
    rw [List.getElem_take] at hj
    exact hr i (by omega) j u hj
/-- A row of the call's own. -/
def OwnE (enc : α → List Value) (n : Nat) (T : TypeId) (B : Nat) (w : World) (v : Value) (D : List α) : Prop := w.ownsRow B T n v D.length (flatE enc D)
theorem OwnE.form (h : OwnE enc n T B w v D) : ∃ a cap, v = .slice a D.length cap := by
  rcases h.2 with ⟨rfl, hn⟩ | ⟨g, cap, cur, rfl, _⟩
  · exact ⟨none, 0, by rw [hn]⟩
  · exact ⟨_, cap, rfl⟩
theorem OwnE.keep (h : OwnE enc n T B w v D) (hk : ∀ k, v.ownBlock = some k → w'.heap[k]? = w.heap[k]?) : OwnE enc n T B w' v D := ownsRow_keep h hk
theorem OwnE.below (h : OwnE enc n T B w v D) (hb : Below w.heap.size w w') : OwnE enc n T B w' v D := h.keep fun k e => hb.block k (World.ownsRow.lt h k e).2
theorem OwnE.low (h : OwnE enc n T B w v D) {B' : Nat} (hB : B' ≤ B) : OwnE enc n T B' w v D := ownsRow_low h hB
theorem OwnE.lt (h : OwnE enc n T B w v D) : ∀ k, v.ownBlock = some k → B ≤ k ∧ k < w.heap.size := fun k e => World.ownsRow.lt h k e
theorem OwnE.nil0 (w : World) (B : Nat) : OwnE enc n T B w (.slice none 0 0) [] := World.ownsRow_nil _ _ _ _
theorem OwnE.cells (hn : ∀ x, (enc x).length = n) (h : OwnE enc n T B w v D) {i : Nat} (hi : i < D.length) : ∃ g cap, v = .slice (some ⟨g, 0, none⟩) D.length cap ∧ D.length ≤ cap ∧ (∀ j u, (enc D[i])[j]? = some u → w.cell? ⟨g, i * n + j, none⟩ = some u) ∧ ∀ j, w.frozen? ⟨g, j, none⟩ = false := by
  rcases h.2 with ⟨rfl, hz⟩ | ⟨g, cap, cur, rfl, hg, hc, hcap, rest⟩
  · omega
  · refine ⟨g, cap, rfl, hcap, fun j u hj => ?_, fun j => World.ownsRow.frozenAt h j⟩
    have hj2 : j < n := by have := (List.getElem?_eq_some_iff.1 hj).1; rwa [hn] at this
    have hm : (i + 1) * n ≤ D.length * n := Nat.mul_le_mul_right n hi
    rw [Nat.add_mul] at hm
    exact (World.ownsRow.cellAt h (i * n + j) (by omega)).trans (flatE_get hn D i hi j u hj)
theorem OwnE.lsE (hn : ∀ x, (enc x).length = n) (h : OwnE enc n T B w v D) (hl : D.length ≤ 8796093022208) (hG : ∀ k, v.ownBlock = some k → G k) : LsE enc n G w v D := by
  have h0 := h
  rcases h.2 with ⟨rfl, hz⟩ | ⟨g, cap, cur, rfl, hg, hc, hcap, rest⟩
  · have : D = [] := List.eq_nil_of_length_eq_zero hz
    subst this
    exact LsE.nil w none 0
  · refine ⟨_, cap, rfl, hcap, hl, .inr ⟨g, 0, rfl, hG g rfl, row_lt hc, fun i hi j u hj => ?_⟩⟩
    obtain ⟨g', cap', e, _, hcs, _⟩ := OwnE.cells hn h0 hi
    cases e
    rw [Nat.zero_add]
    exact hcs j u hj
theorem OwnE.snoc {x : α} {xs : List Value} (hx : xs = enc x) (h : w.ownsRow B T n v (D.length + 1) (flatE enc D ++ xs)) : OwnE enc n T B w v (D ++ [x]) := by
  unfold OwnE
  rw [flatE_snoc, List.length_append, ← hx]
  exact h
end

def stCells (s : St) : List Value := [.int .i64 s.1, .int .i64 s.2]
def atCells (b : ByteArray × ByteArray) : List Value := [.string b.1, .string b.2]
theorem stCells_len (x : St) : (stCells x).length = 2 := rfl
theorem atCells_len (x : ByteArray × ByteArray) : (atCells x).length = 2 := rfl
abbrev OwnSt (B : Nat) (w : World) (v : Value) (R : List St) : Prop := OwnE stCells 2 24 B w v R

abbrev OwnAt (B : Nat) (w : World) (v : Value) (R : List (ByteArray × ByteArray)) : Prop := OwnE atCells 2 63 B w v R

theorem rangeAt_keep {w w' : World} {b o : Nat} {cs : List Value} (h : w.rangeAt b o cs) (hb : w'.heap[b]? = w.heap[b]?) : w'.rangeAt b o cs := fun j v hv => (World.cell?_of_block (w := w) hb).trans (h j v hv)
theorem sizeStamp : (Try.prog.info? 24).map (·.size) = some 2 := by kernel_rfl
theorem wp_store_row {P : Program} {op : Oper} {a : Act} {w : World} {K : Act → World → Prop} {Q : Exit → Act → World → Prop} (ty : TypeId) (x y : Operand) (ho : op.op = .store ty x y)
    (b : Nat) (t : TypeId) (c c' : Array Value) (hx : a.eval x = .pointer (some ⟨b, 0, none⟩)) (hy : a.eval y = .agg c') (hr : w.heap[b]? = some (.cells c t))
    (hi : (P.info? ty).map (·.size) = some c'.size) (hs : c.size = c'.size) (h1 : c'.all (·.oneCell') = true)
    (h : K (a.put op.dst undef) (w.setRow b c')) : op.wp P a w K Q := by
  unfold Oper.wp execOp
  simp only [ho, hx, hy, Instr.storeAt, Instr.sureAddr, Sem.run_bind, Sem.run_pure, Result.andThen_ok, run_storeVar_row w b t ty c c' hr hi hs h1]
  exact h
theorem wpList_store_row {P : Program} {ops : Array Oper} {rest : List Oper} {op : Oper} {a : Act} {w : World} {Q : Exit → Act → World → Prop} (hgd : op.guard = none) (ty : TypeId) (x y : Operand) (ho : op.op = .store ty x y)
    (b : Nat) (t : TypeId) (c c' : Array Value) (hx : a.eval x = .pointer (some ⟨b, 0, none⟩)) (hy : a.eval y = .agg c') (hr : w.heap[b]? = some (.cells c t))
    (hi : (P.info? ty).map (·.size) = some c'.size) (hs : c.size = c'.size) (h1 : c'.all (·.oneCell') = true)
    (h : wpList P ops Q rest (a.put op.dst undef) (w.setRow b c')) : wpList P ops Q (op :: rest) a w :=
  wpList_plain hgd fun _ hK => wp_store_row ty x y ho b t c c' hx hy hr hi hs h1 (hK _ _ h)
theorem step_store_row {P : Program} {ops : Array Oper} {o : Oper} {a : Act} {w : World} {K : Act → World → Prop} {Q : Exit → Act → World → Prop} {E : Prop} (hgd : o.guard = none) (ty : TypeId) (x y : Operand) (ho : o.op = .store ty x y)
    (b : Nat) (t : TypeId) (c c' : Array Value) (hx : a.eval x = .pointer (some ⟨b, 0, none⟩)) (hy : a.eval y = .agg c') (hr : w.heap[b]? = some (.cells c t))
    (hi : (P.info? ty).map (·.size) = some c'.size) (hs : c.size = c'.size) (h1 : c'.all (·.oneCell') = true)
    (h : K (a.put o.dst undef) (w.setRow b c')) : if Region.wanted o (yielded ops a.tmps) = true then Oper.wp P o a w K Q else E := by
  have hw : Region.wanted o (yielded ops a.tmps) = true := by simp [Region.wanted, hgd]
  rw [if_pos hw]
  exact wp_store_row ty x y ho b t c c' hx hy hr hi hs h1 h
theorem setRow_same {w : World} {b : Nat} {c c' : Array Value} {t : TypeId} (h : w.heap[b]? = some (.cells c t)) : (w.setRow b c').heap[b]? = some (.cells c' t) := setRow_heap w b c c' t _ h
theorem grown_setRow (W : World) (nb : Nat) (c : Array Value) : W.grownBy (W.setRow nb c) (some nb) := ⟨rfl, rfl, rfl, by simp, fun k hk hne => setRow_other W nb k c (fun e => hne (by rw [e]))⟩
/-- Equality of stamps. -/
theorem eqlSt (c r c2 r2 : Int) (w : World) : (binOp .eql 24 (.agg #[.int .i64 c, .int .i64 r]) (.agg #[.int .i64 c2, .int .i64 r2])).run Try.prog w = .ok (.bool (decide ((c, r) = (c2, r2)))) w := by
  have h := equalSt (c, r) (c2, r2) w
  simp only [binOp]
  have h2 : (Op.equal 24 (.agg #[.int .i64 c, .int .i64 r]) (.agg #[.int .i64 c2, .int .i64 r2])).run Try.prog w = _ := h
  simp only [Sem.run_bind, h2, Result.andThen_ok]
  rw [show decide ((c2, r2) = (c, r)) = decide ((c, r) = (c2, r2)) from decide_eq_decide.2 eq_comm]
  rfl

end Go.Proofs.Ytljmlbidbacdjab
