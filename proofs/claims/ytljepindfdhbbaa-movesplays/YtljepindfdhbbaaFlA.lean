/- Lists of things of some cells each, one behind the other: of stamps, of places, of moves; as they lie in memory. -/
import Derived.Test.YtljepindfdhbbaaMpA
import Derived.Test.YtljepindfdhbbaaPlainMw
import Derived.Laws.Rows
import Derived.Maps.AppendAt
import Derived.OwnWalk
import Derived.Laws.AppendOwnNone
namespace Go.Proofs.Ytljepindfdhbbaa
open Go.RowKit
set_option linter.unusedVariables false
set_option linter.unusedSimpArgs false

/-- A fact that no walk is to rewrite with. -/
theorem cell_lt {w : World} {p : Addr} {v : Value} (h : w.cell? p = some v) : p.block < w.heap.size := by
  rcases Nat.lt_or_ge p.block w.heap.size with h' | h'
  · exact h'
  · simp [World.cell?, h'] at h
theorem row_lt {w : World} {g : Nat} {o : Obj} (h : w.heap[g]? = some o) : g < w.heap.size := (Array.getElem?_eq_some_iff.1 h).1

/-- The blocks of S lie as they lay. -/
def KeepsS (S : Nat → Prop) (W W' : World) : Prop := W.heap.size ≤ W'.heap.size ∧ ∀ k, S k → W'.heap[k]? = W.heap[k]?
theorem KeepsS.refl (S : Nat → Prop) (W : World) : KeepsS S W W := ⟨Nat.le_refl _, fun _ _ => rfl⟩
theorem KeepsS.trans {S : Nat → Prop} {A B C : World} (h : KeepsS S A B) (k : KeepsS S B C) : KeepsS S A C := ⟨Nat.le_trans h.1 k.1, fun j h1 => (k.2 j h1).trans (h.2 j h1)⟩
theorem KeepsS.of_below {S : Nat → Prop} {B : Nat} {W W' : World} (h : Below B W W') (hB : ∀ k, S k → k < B) : KeepsS S W W' := ⟨h.size, fun k h2 => h.block k (hB k h2)⟩
theorem KeepsS.drew {S : Nat → Prop} {W W' : World} (h : KeepsS S W W') : KeepsS S W W'.drew := ⟨h.1, fun k hk => h.2 k hk⟩
theorem KeepsS.mono {S T : Nat → Prop} {W W' : World} (h : KeepsS S W W') (hs : ∀ k, T k → S k) : KeepsS T W W' := ⟨h.1, fun k hk => h.2 k (hs k hk)⟩
theorem KeepsS.cell {S : Nat → Prop} {A B : World} (h : KeepsS S A B) {p : Addr} (h1 : S p.block) : B.cell? p = A.cell? p := World.cell?_of_block (w := A) (h.2 p.block h1)
/-- A row that is owned, in a block that is kept. -/
theorem ownsRow_keep {w w' : World} {B : Nat} {e : TypeId} {size : Nat} {v : Value} {n : Nat} {xs : List Value} (h : w.ownsRow B e size v n xs) (hk : ∀ k, v.ownBlock = some k → w'.heap[k]? = w.heap[k]?) : w'.ownsRow B e size v n xs := by
  refine ⟨h.1, ?_⟩
  rcases h.2 with hn | ⟨g, cap, cur, hv, hg, hc, rest⟩
  · exact .inl hn
  · refine .inr ⟨g, cap, cur, hv, hg, ?_, rest⟩
    rw [hk g (by rw [hv]; rfl)]
    exact hc
theorem ownsRow_low {w : World} {B B' : Nat} {e : TypeId} {size : Nat} {v : Value} {n : Nat} {xs : List Value} (h : w.ownsRow B e size v n xs) (hB : B' ≤ B) : w.ownsRow B' e size v n xs := by
  refine ⟨h.1, ?_⟩
  rcases h.2 with hn | ⟨g, cap, cur, hv, hg, rest⟩
  · exact .inl hn
  · exact .inr ⟨g, cap, cur, hv, by omega, rest⟩
theorem ownsRow_type {w : World} {B : Nat} {e : TypeId} {size : Nat} {v : Value} {n : Nat} {xs : List Value} (h : w.ownsRow B e size v n xs) : ∀ k, v.ownBlock = some k → ∃ cur, w.heap[k]? = some (.cells cur e (0, 0)) := by
  intro k e1
  rcases h.2 with ⟨rfl, _⟩ | ⟨g, cap, cur, rfl, hg, hc, _⟩
  · cases e1
  · have a1 : g = k := by simpa [Value.ownBlock] using e1
    subst a1
    exact ⟨cur, hc⟩
/-- Nothing but blocks of F has changed, and what is new. -/
structure Touch (F : Nat → Prop) (w w' : World) : Prop where
  os : w'.os = w.os
  tape : w'.tape = w.tape
  output : w'.output = w.output
  size : w.heap.size ≤ w'.heap.size
  block : ∀ k, k < w.heap.size → ¬ F k → w'.heap[k]? = w.heap[k]?
theorem Touch.refl (F : Nat → Prop) (w : World) : Touch F w w := ⟨rfl, rfl, rfl, Nat.le_refl _, fun _ _ _ => rfl⟩
theorem Touch.of_below {F : Nat → Prop} {w w' : World} (h : Below w.heap.size w w') : Touch F w w' := ⟨h.os, h.tape, h.output, h.size, fun k hk _ => h.block k hk⟩
theorem Touch.of_grown {F : Nat → Prop} {w w' : World} {row : Option Nat} (h : w.grownBy w' row) (hr : ∀ k, row = some k → k < w.heap.size → F k) : Touch F w w' := ⟨h.os, h.tape, h.output, h.size, fun k hk hF => h.block k hk fun e => hF (hr k e.symm hk)⟩
theorem Touch.trans {F F' : Nat → Prop} {a b c : World} (h : Touch F a b) (k : Touch F' b c) (hF : ∀ j, F' j → F j ∨ a.heap.size ≤ j) : Touch F a c :=
  ⟨k.os.trans h.os, k.tape.trans h.tape, k.output.trans h.output, Nat.le_trans h.size k.size, fun j hj hn => (k.block j (Nat.lt_of_lt_of_le hj h.size) (fun h' => (hF j h').elim hn (fun h2 => by omega))).trans (h.block j hj hn)⟩
theorem Touch.mono {F F' : Nat → Prop} {a b : World} (h : Touch F a b) (hF : ∀ j, F j → F' j) : Touch F' a b := ⟨h.os, h.tape, h.output, h.size, fun j hj hn => h.block j hj fun h' => hn (hF j h')⟩
theorem Touch.below {F : Nat → Prop} {w w' : World} (h : Touch F w w') {B : Nat} (hB : ∀ k, F k → B ≤ k) (hs : B ≤ w.heap.size) : Below B w w' := ⟨h.os, h.tape, h.output, h.size, fun k hk => h.block k (by omega) fun hF => by have := hB k hF; omega⟩
theorem Touch.keeps {F G : Nat → Prop} {w w' : World} (h : Touch F w w') (hG : ∀ k, G k → k < w.heap.size ∧ ¬ F k) : KeepsS G w w' := ⟨h.size, fun k hk => h.block k (hG k hk).1 (hG k hk).2⟩
theorem Touch.drew {F : Nat → Prop} {w w' : World} (h : Touch F w w') : Touch F w w'.drew := ⟨h.os, h.tape, h.output, h.size, h.block⟩
theorem grownBy_setCell (W : World) (b i : Nat) (v : Value) : W.grownBy (W.setCell ⟨b, i, none⟩ v) (some b) :=
  ⟨rfl, rfl, rfl, by simp [World.setCell], fun k hk hne => by rw [RowKit.Below.heap_setCell _ _ _ _ (fun e => hne (by rw [e]))]⟩

section
variable {α : Type}
/-- Things, cell behind cell. -/
def flatE (enc : α → List Value) (D : List α) : List Value := D.flatMap enc
variable {enc : α → List Value} {n : Nat}
theorem flatE_cons (x : α) (D : List α) : flatE enc (x :: D) = enc x ++ flatE enc D := rfl
theorem flatE_append (D E : List α) : flatE enc (D ++ E) = flatE enc D ++ flatE enc E := by simp [flatE]
theorem flatE_snoc (D : List α) (x : α) : flatE enc (D ++ [x]) = flatE enc D ++ enc x := by simp [flatE]
theorem flatE_length (hn : ∀ x, (enc x).length = n) (D : List α) : (flatE enc D).length = D.length * n := by
  induction D with
  | nil => simp [flatE]
  | cons x y ih => rw [flatE_cons, List.length_append, ih, hn, List.length_cons, Nat.add_mul]; omega
theorem flatE_get (hn : ∀ x, (enc x).length = n) (D : List α) : ∀ i (h : i < D.length) j u, (enc D[i])[j]? = some u → (flatE enc D)[i * n + j]? = some u := by
  induction D with
  | nil => intro i h; simp at h
  | cons x y ih =>
    intro i h j u hj
    rw [flatE_cons]
    match i with
    | 0 =>
      have hj2 := (List.getElem?_eq_some_iff.1 hj).1
      rw [Nat.zero_mul, Nat.zero_add, List.getElem?_append_left (by simpa using hj2)]
      exact hj
    | i + 1 =>
      rw [List.getElem?_append_right (by rw [hn, Nat.add_mul]; omega), hn, show (i + 1) * n + j - n = i * n + j by rw [Nat.add_mul]; omega]
      exact ih i (by simpa using h) j u (by simpa using hj)
theorem flatE_take (hn : ∀ x, (enc x).length = n) (D : List α) (i : Nat) : flatE enc (D.take i) = (flatE enc D).take (i * n) := by
  induction D generalizing i with
  | nil => simp [flatE]
  | cons x t ih =>
    match i with
    | 0 => simp [flatE]
    | i + 1 => rw [List.take_succ_cons, flatE_cons, flatE_cons, ih i, List.take_append, hn, List.take_of_length_le (l := enc x) (by rw [hn, Nat.add_mul]; omega), show (i + 1) * n - n = i * n by rw [Nat.add_mul]; omega]
theorem flatE_drop (hn : ∀ x, (enc x).length = n) (D : List α) (i : Nat) : flatE enc (D.drop i) = (flatE enc D).drop (i * n) := by
  induction D generalizing i with
  | nil => simp [flatE]
  | cons x t ih =>
    match i with
    | 0 => simp
    | i + 1 => rw [List.drop_succ_cons, flatE_cons, ih i, List.drop_append, hn, List.drop_of_length_le (l := enc x) (by rw [hn, Nat.add_mul]; omega), List.nil_append, show (i + 1) * n - n = i * n by rw [Nat.add_mul]; omega]
/-- A list of them at a slice's place, in a block of G. -/
def LsE (enc : α → List Value) (n : Nat) (G : Nat → Prop) (w : World) (v : Value) (D : List α) : Prop :=
  ∃ (a : Option Addr) (cap : Nat), v = .slice a D.length cap ∧ D.length ≤ cap ∧ D.length ≤ 8796093022208 ∧ (D = [] ∨ ∃ b o, a = some ⟨b, o, none⟩ ∧ G b ∧ b < w.heap.size ∧ ∀ i (h : i < D.length) j u, (enc D[i])[j]? = some u → w.cell? ⟨b, o + i * n + j, none⟩ = some u)
variable {G G' : Nat → Prop} {w w' : World} {v : Value} {D : List α} {B : Nat} {T : TypeId}
theorem LsE.form (h : LsE enc n G w v D) : ∃ a cap, v = .slice a D.length cap := by obtain ⟨a, cap, e, _⟩ := h; exact ⟨a, cap, e⟩
theorem LsE.len (h : LsE enc n G w v D) : D.length ≤ 8796093022208 := by obtain ⟨a, cap, e, _, hl, _⟩ := h; exact hl
theorem LsE.keep (h : LsE enc n G w v D) (hk : KeepsS G w w') : LsE enc n G w' v D := by
  obtain ⟨a, cap, e, hc, hl, h⟩ := h
  exact ⟨a, cap, e, hc, hl, h.imp id fun ⟨b, o, e2, hg, hlt, hr⟩ => ⟨b, o, e2, hg, Nat.lt_of_lt_of_le hlt hk.1, fun i hi j u hj => (hk.cell (p := ⟨b, _, none⟩) hg).trans (hr i hi j u hj)⟩⟩
theorem LsE.below (h : LsE enc n G w v D) (hb : Below w.heap.size w w') : LsE enc n G w' v D := by
  obtain ⟨a, cap, e, hc, hl, h⟩ := h
  exact ⟨a, cap, e, hc, hl, h.imp id fun ⟨b, o, e2, hg, hlt, hr⟩ => ⟨b, o, e2, hg, Nat.lt_of_lt_of_le hlt hb.size, fun i hi j u hj => (hb.cell (p := ⟨b, _, none⟩) hlt).trans (hr i hi j u hj)⟩⟩
theorem LsE.touch (h : LsE enc n G w v D) {F : Nat → Prop} (ht : Touch F w w') (hF : ∀ k, G k → ¬ F k) : LsE enc n G w' v D := by
  obtain ⟨a, cap, e, hc, hl, h⟩ := h
  exact ⟨a, cap, e, hc, hl, h.imp id fun ⟨b, o, e2, hg, hlt, hr⟩ => ⟨b, o, e2, hg, Nat.lt_of_lt_of_le hlt ht.size, fun i hi j u hj => (World.cell?_of_block (w := w) (ht.block b hlt (hF b hg))).trans (hr i hi j u hj)⟩⟩
theorem LsE.mono (h : LsE enc n G w v D) (hG : ∀ k, G k → G' k) : LsE enc n G' w v D := by
  obtain ⟨a, cap, e, hc, hl, h⟩ := h
  exact ⟨a, cap, e, hc, hl, h.imp id fun ⟨b, o, e2, hg, r⟩ => ⟨b, o, e2, hG b hg, r⟩⟩
theorem LsE.nil (w : World) (a : Option Addr) (cap : Nat) : LsE enc n G w (.slice a 0 cap) [] := ⟨a, cap, rfl, Nat.zero_le _, by simp, .inl rfl⟩
theorem LsE.take (h : LsE enc n G w v D) {a : Option Addr} {m cap : Nat} (e : v = .slice a m cap) (k : Nat) (hk : k ≤ D.length) : LsE enc n G w (.slice a k cap) (D.take k) := by
  obtain ⟨a', cap', e', hc, hl, h⟩ := h
  rw [e] at e'
  injection e' with e1 e2 e3
  subst e1 e3
  refine ⟨a, cap, by rw [List.length_take, Nat.min_eq_left hk], by rw [List.length_take]; omega, by rw [List.length_take]; omega, ?_⟩
  rcases h with rfl | ⟨b, o, e4, hg, hlt, hr⟩
  · left; simp
  · right
    refine ⟨b, o, e4, hg, hlt, fun i hi j u hj => ?_⟩
    rw [List.length_take] at hi
    rw [List.getElem_take] at hj
    exact hr i (by omega) j u hj
/-- A row of the call's own. -/
def OwnE (enc : α → List Value) (n : Nat) (T : TypeId) (B : Nat) (w : World) (v : Value) (D : List α) : Prop := w.ownsRow B T n v D.length (flatE enc D)
theorem OwnE.form (h : OwnE enc n T B w v D) : ∃ a cap, v = .slice a D.length cap := by
  rcases h.2 with ⟨rfl, hn⟩ | ⟨g, cap, cur, rfl, _⟩
  · exact ⟨none, 0, by rw [hn]⟩
  · exact ⟨_, cap, rfl⟩
theorem OwnE.keep (h : OwnE enc n T B w v D) (hk : ∀ k, v.ownBlock = some k → w'.heap[k]? = w.heap[k]?) : OwnE enc n T B w' v D := ownsRow_keep h hk
theorem OwnE.below (h : OwnE enc n T B w v D) (hb : Below w.heap.size w w') : OwnE enc n T B w' v D := h.keep fun k e => hb.block k (World.ownsRow.lt h k e).2
theorem OwnE.low (h : OwnE enc n T B w v D) {B' : Nat} (hB : B' ≤ B) : OwnE enc n T B' w v D := ownsRow_low h hB
theorem OwnE.lt (h : OwnE enc n T B w v D) : ∀ k, v.ownBlock = some k → B ≤ k ∧ k < w.heap.size := fun k e => World.ownsRow.lt h k e
theorem OwnE.nil0 (w : World) (B : Nat) : OwnE enc n T B w (.slice none 0 0) [] := World.ownsRow_nil _ _ _ _
theorem OwnE.cells (hn : ∀ x, (enc x).length = n) (h : OwnE enc n T B w v D) {i : Nat} (hi : i < D.length) : ∃ g cap, v = .slice (some ⟨g, 0, none⟩) D.length cap ∧ D.length ≤ cap ∧ (∀ j u, (enc D[i])[j]? = some u → w.cell? ⟨g, i * n + j, none⟩ = some u) ∧ ∀ j, w.frozen? ⟨g, j, none⟩ = false := by
  rcases h.2 with ⟨rfl, hz⟩ | ⟨g, cap, cur, rfl, hg, hc, hcap, rest⟩
  · omega
  · refine ⟨g, cap, rfl, hcap, fun j u hj => ?_, fun j => World.ownsRow.frozenAt h j⟩
    have hj2 : j < n := by have := (List.getElem?_eq_some_iff.1 hj).1; rwa [hn] at this
    have hm : (i + 1) * n ≤ D.length * n := Nat.mul_le_mul_right n hi
    rw [Nat.add_mul] at hm
    exact (World.ownsRow.cellAt h (i * n + j) (by omega)).trans (flatE_get hn D i hi j u hj)
theorem OwnE.lsE (hn : ∀ x, (enc x).length = n) (h : OwnE enc n T B w v D) (hl : D.length ≤ 8796093022208) (hG : ∀ k, v.ownBlock = some k → G k) : LsE enc n G w v D := by
  have h0 := h
  rcases h.2 with ⟨rfl, hz⟩ | ⟨g, cap, cur, rfl, hg, hc, hcap, rest⟩
  · have : D = [] := List.eq_nil_of_length_eq_zero hz
    subst this
    exact LsE.nil w none 0
  · refine ⟨_, cap, rfl, hcap, hl, .inr ⟨g, 0, rfl, hG g rfl, row_lt hc, fun i hi j u hj => ?_⟩⟩
    obtain ⟨g', cap', e, _, hcs, _⟩ := OwnE.cells hn h0 hi
    cases e
    rw [Nat.zero_add]
    exact hcs j u hj
theorem OwnE.snoc {x : α} {xs : List Value} (hx : xs = enc x) (h : w.ownsRow B T n v (D.length + 1) (flatE enc D ++ xs)) : OwnE enc n T B w v (D ++ [x]) := by
  unfold OwnE
  rw [flatE_snoc, List.length_append, ← hx]
  exact h
end

/-- A place's cells, and a row's of the program's list, and a move's of the document's. -/
def stCells (s : St) : List Value := [.int .i64 s.1, .int .i64 s.2]
def plCells (p : Pl) : List Value := [.int .i64 p.nd.1, .int .i64 p.nd.2, .int .i64 p.pr.1, .int .i64 p.pr.2, .int .i64 p.sl.1, .int .i64 p.sl.2]
def rwCells (x : Rw) : List Value := [.int .i64 x.m.ts.1, .int .i64 x.m.ts.2, .int .i64 x.m.nd.1, .int .i64 x.m.nd.2, .int .i64 x.m.pr.1, .int .i64 x.m.pr.2, .bool x.cn, .int .i64 x.fr.nd.1, .int .i64 x.fr.nd.2, .int .i64 x.fr.pr.1, .int .i64 x.fr.pr.2, .int .i64 x.fr.sl.1, .int .i64 x.fr.sl.2]
def mcCells (x : Mv × Bool) : List Value := [.int .i64 x.1.ts.1, .int .i64 x.1.ts.2, .int .i64 x.1.nd.1, .int .i64 x.1.nd.2, .int .i64 x.1.pr.1, .int .i64 x.1.pr.2, .bool x.2]
theorem stCells_len (x : St) : (stCells x).length = 2 := rfl
theorem plCells_len (x : Pl) : (plCells x).length = 6 := rfl
theorem rwCells_len (x : Rw) : (rwCells x).length = 13 := rfl
theorem mcCells_len (x : Mv × Bool) : (mcCells x).length = 7 := rfl
def plV (p : Pl) : Value := .agg (plCells p).toArray
def kdV (x : St × Int) : Value := .int .i64 x.2
abbrev OwnR (B : Nat) (w : World) (v : Value) (R : List Rw) : Prop := OwnE rwCells 13 69 B w v R
abbrev OwnPl (B : Nat) (w : World) (v : Value) (R : List Pl) : Prop := OwnE plCells 6 43 B w v R

/-- The map where each node stands; the map of how many stand beneath one. -/
def SMap (w : World) (b : Nat) (T : List Pl) : Prop := ∃ D : List Pl, MapIs Pl.nd plV w b D ∧ D.Perm T
def KMap (w : World) (b : Nat) (f : St → Int) : Prop := ∃ E : List (St × Int), MapIs Prod.fst kdV w b E ∧ (E.map Prod.fst).Nodup ∧ ∀ s, (match getP Prod.fst E s with | some x => x.2 | none => 0) = f s
theorem SMap.keep {w w' : World} {b : Nat} {T : List Pl} (h : SMap w b T) (hk : w'.heap[b]? = w.heap[b]?) : SMap w' b T := by obtain ⟨D, h1, h2⟩ := h; exact ⟨D, h1.keep hk, h2⟩
theorem KMap.keep {w w' : World} {b : Nat} {f : St → Int} (h : KMap w b f) (hk : w'.heap[b]? = w.heap[b]?) : KMap w' b f := by obtain ⟨D, h1, h2⟩ := h; exact ⟨D, h1.keep hk, h2⟩
theorem SMap.lt {w : World} {b : Nat} {T : List Pl} (h : SMap w b T) : b < w.heap.size := by obtain ⟨D, h1, h2⟩ := h; exact h1.lt
theorem KMap.lt {w : World} {b : Nat} {f : St → Int} (h : KMap w b f) : b < w.heap.size := by obtain ⟨D, h1, h2⟩ := h; exact h1.lt
theorem uStands : Try.prog.underlying 62 = some (.map 27 43) := Try.underlying62
theorem uKids : Try.prog.underlying 63 = some (.map 27 3) := Try.underlying63
theorem zeroPlV (w : World) : (zeroValue 43).run Try.prog w = .ok (plV zeroPl) w := by kernel_rfl
theorem zeroIntV (w : World) : (zeroValue 3).run Try.prog w = .ok (.int .i64 0) w := by kernel_rfl
theorem getP_perm {D T : List Pl} (h : D.Perm T) (hs : SrtT T) (s : St) : getP Pl.nd D s = whT T s := by
  cases hg : getP Pl.nd D s with
  | none =>
    symm
    refine whT_none.2 fun p hp e => ?_
    have := List.find?_eq_none.1 hg p (h.mem_iff.2 hp)
    exact this (by simpa using e)
  | some p =>
    have h1 : p ∈ D := List.mem_of_find?_eq_some hg
    have h2 : p.nd = s := by simpa using List.find?_some hg
    rw [← h2]
    exact (whT_mem hs (h.mem_iff.1 h1)).symm
/-- Look-ups. -/
theorem SMap.look {w : World} {b : Nat} {T : List Pl} (h : SMap w b T) (hs : SrtT T) (s : St) : (Instr.lookup 62 (.map (some b)) (stV s) true).run Try.prog w = .ok (match whT T s with | some x => .tuple #[plV x, .bool true] | none => .tuple #[plV zeroPl, .bool false]) w := by
  obtain ⟨D, h1, h2⟩ := h
  have := look_st _ _ _ uStands zeroPlV h1 s
  rw [getP_perm h2 hs] at this
  rw [this]
  cases whT T s <;> rfl
theorem SMap.look1 {w : World} {b : Nat} {T : List Pl} (h : SMap w b T) (hs : SrtT T) (s : St) : (Instr.lookup 62 (.map (some b)) (stV s) false).run Try.prog w = .ok (plV ((whT T s).getD zeroPl)) w := by
  obtain ⟨D, h1, h2⟩ := h
  have := look1_st _ _ _ uStands zeroPlV h1 s
  rw [getP_perm h2 hs] at this
  rw [this]
  cases whT T s <;> rfl
theorem KMap.look {w : World} {b : Nat} {f : St → Int} (h : KMap w b f) (s : St) : (Instr.lookup 63 (.map (some b)) (stV s) false).run Try.prog w = .ok (.int .i64 (f s)) w := by
  obtain ⟨D, h1, _, h2⟩ := h
  have := look1_st _ _ _ uKids zeroIntV h1 s
  rw [this, ← h2 s]
  cases getP Prod.fst D s <;> rfl
/-- Stores. -/
theorem set_perm_mem {D T : List Pl} (h : D.Perm T) (hs : SrtT T) {j : Nat} {x y : Pl} (hj : D[j]? = some x) (e : x.nd = y.nd) : (D.set j y).Perm (setT T y) := by
  have hjl := (List.getElem?_eq_some_iff.1 hj).1
  have hx : D[j] = x := (List.getElem?_eq_some_iff.1 hj).2
  have e1 : D = D.take j ++ x :: D.drop (j + 1) := by rw [← hx, ← List.drop_eq_getElem_cons hjl, List.take_append_drop]
  have e2 : D.set j y = D.take j ++ y :: D.drop (j + 1) := List.set_eq_take_append_cons_drop.trans (by rw [if_pos hjl])
  have hmem : x ∈ T := h.mem_iff.1 (by rw [← hx]; exact List.getElem_mem hjl)
  have h3 : T.Perm (x :: delT T y.nd) := del_some hs (by rw [← e]; exact whT_mem hs hmem)
  have h4 : (x :: (D.take j ++ D.drop (j + 1))).Perm (x :: delT T y.nd) := by
    refine List.Perm.trans ?_ (h.trans h3)
    conv => rhs; rw [e1]
    exact List.perm_middle.symm
  rw [e2]
  refine List.perm_middle.trans (List.Perm.trans ?_ (set_perm y).symm)
  exact List.Perm.cons y (List.Perm.cons_inv h4)
theorem SMap.store {w : World} {b : Nat} {T : List Pl} (h : SMap w b T) (hs : SrtT T) (y : Pl) : ∃ w', (Instr.mapUpdate 62 (.map (some b)) (stV y.nd) (plV y)).run Try.prog w = .ok () w' ∧ w.grownBy w' (some b) ∧ w'.heap.size = w.heap.size ∧ SMap w' b (setT T y) := by
  obtain ⟨D, h1, h2⟩ := h
  obtain ⟨w', r1, r2, r3, r4⟩ := store_st _ _ uStands h1 y
  refine ⟨w', r1, r2, r3, ?_⟩
  rcases r4 with ⟨a, b⟩ | ⟨x, j, a, b, c⟩
  · rw [getP_perm h2 hs] at a
    refine ⟨_, b, ?_⟩
    refine List.Perm.trans ?_ (set_perm y).symm
    rw [del_none a]
    exact (List.perm_append_singleton y D).trans (List.Perm.cons y h2)
  · rw [getP_perm h2 hs] at a
    exact ⟨_, c, set_perm_mem h2 hs b (whT_some a).2⟩
theorem SMap.drop {w : World} {b : Nat} {T : List Pl} (h : SMap w b T) (hs : SrtT T) (s : St) (ty kT : TypeId) : ∃ w', (Builtin.delete_ #[62, kT] ty #[.map (some b), stV s]).run Try.prog w = .ok (.tuple #[]) w' ∧ w.grownBy w' (some b) ∧ w'.heap.size = w.heap.size ∧ SMap w' b (delT T s) := by
  obtain ⟨D, h1, h2⟩ := h
  obtain ⟨w', r1, r2, r3, r4⟩ := drop_st _ _ uStands h1 s ty kT
  refine ⟨w', r1, r2, r3, ?_⟩
  rcases r4 with ⟨a, b⟩ | ⟨x, j, a, b, c⟩
  · rw [getP_perm h2 hs] at a
    refine ⟨_, b, ?_⟩
    rw [del_none a]
    exact h2
  · rw [getP_perm h2 hs] at a
    refine ⟨_, c, ?_⟩
    have hjl := (List.getElem?_eq_some_iff.1 b).1
    have hx : D[j] = x := (List.getElem?_eq_some_iff.1 b).2
    have e1 : D = D.take j ++ x :: D.drop (j + 1) := by rw [← hx, ← List.drop_eq_getElem_cons hjl, List.take_append_drop]
    have h3 := del_some hs a
    have h4 : (x :: D.eraseIdx j).Perm (x :: delT T s) := by
      refine List.Perm.trans ?_ (h2.trans h3)
      rw [List.eraseIdx_eq_take_drop_succ]
      conv => rhs; rw [e1]
      exact List.perm_middle.symm
    exact List.Perm.cons_inv h4
theorem getK_find {E : List (St × Int)} (hn : (E.map Prod.fst).Nodup) {x : St × Int} (hx : x ∈ E) : getP Prod.fst E x.1 = some x := by
  induction E with
  | nil => cases hx
  | cons y t ih =>
    rw [List.map_cons, List.nodup_cons] at hn
    unfold getP
    rw [List.find?_cons]
    rcases List.mem_cons.1 hx with rfl | hx
    · simp
    · have : y.1 ≠ x.1 := fun e => hn.1 (by rw [e]; exact List.mem_map_of_mem hx)
      rw [decide_eq_false this]
      exact ih hn.2 hx
theorem getK_eq {E : List (St × Int)} (hn : (E.map Prod.fst).Nodup) {s : St} {o : Option (St × Int)} (h1 : ∀ x, o = some x → x ∈ E ∧ x.1 = s) (h2 : o = none → ∀ x ∈ E, x.1 ≠ s) : getP Prod.fst E s = o := by
  cases o with
  | none => exact List.find?_eq_none.2 fun x hx => by simpa using h2 rfl x hx
  | some x => obtain ⟨a, b⟩ := h1 x rfl; rw [← b]; exact getK_find hn a
def updK (f : St → Int) (s : St) (n : Int) : St → Int := fun t => if t = s then n else f t
theorem KMap.store {w : World} {b : Nat} {f : St → Int} (h : KMap w b f) (s : St) (n : Int) : ∃ w', (Instr.mapUpdate 63 (.map (some b)) (stV s) (.int .i64 n)).run Try.prog w = .ok () w' ∧ w.grownBy w' (some b) ∧ w'.heap.size = w.heap.size ∧ KMap w' b (updK f s n) := by
  obtain ⟨E, h1, hn, h2⟩ := h
  obtain ⟨w', r1, r2, r3, r4⟩ := store_st (ky := Prod.fst) (vl := kdV) _ _ uKids h1 (s, n)
  refine ⟨w', r1, r2, r3, ?_⟩
  rcases r4 with ⟨a, b⟩ | ⟨x, j, a, b, c⟩
  · have hno : ∀ x ∈ E, x.1 ≠ s := fun x hx => by simpa using List.find?_eq_none.1 a x hx
    have hn' : ((E ++ [(s, n)]).map Prod.fst).Nodup := by
      rw [List.map_append, List.nodup_append]
      refine ⟨hn, by simp, fun u hu v hv => ?_⟩
      obtain ⟨x, hx, rfl⟩ := List.mem_map.1 hu
      simp at hv
      rw [hv]
      exact hno x hx
    refine ⟨_, b, hn', fun t => ?_⟩
    unfold updK
    by_cases e : t = s
    · rw [e, if_pos rfl, getK_eq hn' (o := some (s, n)) (fun x hx => by cases hx; exact ⟨by simp, rfl⟩) (fun h => by cases h)]
    · rw [if_neg e, ← h2 t]
      suffices e5 : getP Prod.fst (E ++ [(s, n)]) t = getP Prod.fst E t by rw [e5]
      refine getK_eq hn' (fun x hx => ?_) fun hx x hm e2 => ?_
      · exact ⟨by simp [List.mem_of_find?_eq_some hx], by simpa using List.find?_some hx⟩
      · rcases List.mem_append.1 hm with hm | hm
        · exact (by simpa using List.find?_eq_none.1 hx x hm : x.1 ≠ t) e2
        · simp at hm; rw [hm] at e2; exact e e2.symm
  · have hjl := (List.getElem?_eq_some_iff.1 b).1
    have hx : E[j] = x := (List.getElem?_eq_some_iff.1 b).2
    have hxs : x.1 = s := by simpa using List.find?_some a
    have hmap : (E.set j (s, n)).map Prod.fst = E.map Prod.fst := by
      rw [List.map_set]
      apply List.ext_getElem (by simp)
      intro i h1 h2
      rw [List.getElem_set]
      split
      · rename_i h3; subst h3; simp [hx, hxs]
      · rfl
    have hn' : ((E.set j (s, n)).map Prod.fst).Nodup := by rw [hmap]; exact hn
    refine ⟨_, c, hn', fun t => ?_⟩
    unfold updK
    by_cases e : t = s
    · rw [e, if_pos rfl, getK_eq hn' (o := some (s, n)) (fun x hx => by cases hx; exact ⟨List.mem_set (by simpa using hjl) _, rfl⟩) (fun h => by cases h)]
    · rw [if_neg e, ← h2 t]
      suffices e5 : getP Prod.fst (E.set j (s, n)) t = getP Prod.fst E t by rw [e5]
      refine getK_eq hn' (fun y hy => ?_) fun hy y hm e2 => ?_
      · have hy1 : y ∈ E := List.mem_of_find?_eq_some hy
        have hy2 : y.1 = t := by simpa using List.find?_some hy
        refine ⟨?_, hy2⟩
        obtain ⟨i, hi, rfl⟩ := List.mem_iff_getElem.1 hy1
        have hij : i ≠ j := fun e3 => by subst e3; rw [hx, hxs] at hy2; exact e hy2.symm
        rw [← List.getElem_set_ne (fun e3 => hij e3.symm) (a := (s, n)) (by simpa using hi)]
        exact List.getElem_mem _
      · rcases List.mem_or_eq_of_mem_set hm with hm | hm
        · exact (by simpa using List.find?_eq_none.1 hy y hm : y.1 ≠ t) e2
        · rw [hm] at e2; exact e e2.symm
theorem KMap.drop {w : World} {b : Nat} {f : St → Int} (h : KMap w b f) (s : St) (ty kT : TypeId) : ∃ w', (Builtin.delete_ #[63, kT] ty #[.map (some b), stV s]).run Try.prog w = .ok (.tuple #[]) w' ∧ w.grownBy w' (some b) ∧ w'.heap.size = w.heap.size ∧ KMap w' b (updK f s 0) := by
  obtain ⟨E, h1, hn, h2⟩ := h
  obtain ⟨w', r1, r2, r3, r4⟩ := drop_st (ky := Prod.fst) (vl := kdV) _ _ uKids h1 s ty kT
  refine ⟨w', r1, r2, r3, ?_⟩
  rcases r4 with ⟨a, b⟩ | ⟨x, j, a, b, c⟩
  · refine ⟨_, b, hn, fun t => ?_⟩
    unfold updK
    by_cases e : t = s
    · rw [e, if_pos rfl, a]
    · rw [if_neg e, ← h2 t]
  · have hjl := (List.getElem?_eq_some_iff.1 b).1
    have hx : E[j] = x := (List.getElem?_eq_some_iff.1 b).2
    have hxs : x.1 = s := by simpa using List.find?_some a
    have hn' : ((E.eraseIdx j).map Prod.fst).Nodup := nodup_erase _ _ _ hn
    have e1 : E = E.take j ++ x :: E.drop (j + 1) := by rw [← hx, ← List.drop_eq_getElem_cons hjl, List.take_append_drop]
    have hmem : ∀ y, y ∈ E.eraseIdx j ↔ y ∈ E ∧ y.1 ≠ s := fun y => by
      rw [List.eraseIdx_eq_take_drop_succ]
      have hn2 := hn
      rw [e1, List.map_append, List.map_cons, List.nodup_append] at hn2
      obtain ⟨n1, n2, n3⟩ := hn2
      rw [List.nodup_cons] at n2
      constructor
      · intro hy
        rcases List.mem_append.1 hy with hy | hy
        · exact ⟨List.mem_of_mem_take hy, by rw [← hxs]; exact n3 y.1 (List.mem_map_of_mem hy) x.1 (by simp)⟩
        · exact ⟨List.mem_of_mem_drop hy, fun e3 => n2.1 (by rw [hxs, ← e3]; exact List.mem_map_of_mem hy)⟩
      · rintro ⟨hy, hne⟩
        rw [e1] at hy
        rcases List.mem_append.1 hy with hy | hy
        · exact List.mem_append.2 (.inl hy)
        · rcases List.mem_cons.1 hy with rfl | hy
          · exact absurd hxs hne
          · exact List.mem_append.2 (.inr hy)
    refine ⟨_, c, hn', fun t => ?_⟩
    unfold updK
    by_cases e : t = s
    · rw [e, if_pos rfl, getK_eq hn' (o := none) (fun x hx => by cases hx) (fun _ x hx => ((hmem x).1 hx).2)]
    · rw [if_neg e, ← h2 t]
      suffices e5 : getP Prod.fst (E.eraseIdx j) t = getP Prod.fst E t by rw [e5]
      refine getK_eq hn' (fun y hy => ?_) fun hy y hm e2 => ?_
      · have hy2 : y.1 = t := by simpa using List.find?_some hy
        exact ⟨(hmem y).2 ⟨List.mem_of_find?_eq_some hy, by rw [hy2]; exact e⟩, hy2⟩
      · exact (by simpa using List.find?_eq_none.1 hy y ((hmem y).1 hm).1 : y.1 ≠ t) e2

end Go.Proofs.Ytljepindfdhbbaa
