/- A net in memory: the struct, its bags, their parcels, which blocks these are. -/
import Derived.Test.YtlcnfoljkcfplaaBgS
import Derived.Laws.Rows
namespace Go.Proofs.Ytlcnfoljkcfplaa
open Go.RowKit
set_option linter.unusedVariables false
set_option linter.unusedSimpArgs false

/-- The blocks of S lie as they lay. -/
def KeepsS (S : Nat → Prop) (W W' : World) : Prop := W.heap.size ≤ W'.heap.size ∧ ∀ k, S k → W'.heap[k]? = W.heap[k]?
theorem KeepsS.refl (S : Nat → Prop) (W : World) : KeepsS S W W := ⟨Nat.le_refl _, fun _ _ => rfl⟩
theorem KeepsS.trans {S : Nat → Prop} {A B C : World} (h : KeepsS S A B) (k : KeepsS S B C) : KeepsS S A C := ⟨Nat.le_trans h.1 k.1, fun j h1 => (k.2 j h1).trans (h.2 j h1)⟩
theorem KeepsS.of_below {S : Nat → Prop} {B : Nat} {W W' : World} (h : Below B W W') (hB : ∀ k, S k → k < B) : KeepsS S W W' := ⟨h.size, fun k h2 => h.block k (hB k h2)⟩
theorem KeepsS.drew {S : Nat → Prop} {W W' : World} (h : KeepsS S W W') : KeepsS S W W'.drew := ⟨h.1, fun k hk => h.2 k hk⟩
/-- A row that is owned, in a block that is kept. -/
theorem ownsRow_keep {w w' : World} {B : Nat} {e : TypeId} {size : Nat} {v : Value} {n : Nat} {xs : List Value} (h : w.ownsRow B e size v n xs) (hk : ∀ k, v.ownBlock = some k → w'.heap[k]? = w.heap[k]?) : w'.ownsRow B e size v n xs := by
  refine ⟨h.1, ?_⟩
  rcases h.2 with hn | ⟨g, cap, cur, hv, hg, hc, rest⟩
  · exact .inl hn
  · refine .inr ⟨g, cap, cur, hv, hg, ?_, rest⟩
    rw [hk g (by rw [hv]; rfl)]
    exact hc
theorem ownsRow_low {w : World} {B B' : Nat} {e : TypeId} {size : Nat} {v : Value} {n : Nat} {xs : List Value} (h : w.ownsRow B e size v n xs) (hB : B' ≤ B) : w.ownsRow B' e size v n xs := by
  refine ⟨h.1, ?_⟩
  rcases h.2 with hn | ⟨g, cap, cur, hv, hg, rest⟩
  · exact .inl hn
  · exact .inr ⟨g, cap, cur, hv, by omega, rest⟩
theorem ownsRow_type {w : World} {B : Nat} {e : TypeId} {size : Nat} {v : Value} {n : Nat} {xs : List Value} (h : w.ownsRow B e size v n xs) : ∀ k, v.ownBlock = some k → ∃ cur, w.heap[k]? = some (.cells cur e (0, 0)) := by
  intro k e1
  rcases h.2 with ⟨rfl, _⟩ | ⟨g, cap, cur, rfl, hg, hc, _⟩
  · cases e1
  · have a1 : g = k := by simpa [Value.ownBlock] using e1
    subst a1
    exact ⟨cur, hc⟩
/-- Nothing but blocks of F has changed, and what is new. -/
structure Touch (F : Nat → Prop) (w w' : World) : Prop where
  os : w'.os = w.os
  tape : w'.tape = w.tape
  output : w'.output = w.output
  size : w.heap.size ≤ w'.heap.size
  block : ∀ k, k < w.heap.size → ¬ F k → w'.heap[k]? = w.heap[k]?
theorem Touch.refl (F : Nat → Prop) (w : World) : Touch F w w := ⟨rfl, rfl, rfl, Nat.le_refl _, fun _ _ _ => rfl⟩
theorem Touch.of_below {F : Nat → Prop} {w w' : World} (h : Below w.heap.size w w') : Touch F w w' := ⟨h.os, h.tape, h.output, h.size, fun k hk _ => h.block k hk⟩
theorem Touch.of_grown {F : Nat → Prop} {w w' : World} {row : Option Nat} (h : w.grownBy w' row) (hr : ∀ k, row = some k → k < w.heap.size → F k) : Touch F w w' := ⟨h.os, h.tape, h.output, h.size, fun k hk hF => h.block k hk fun e => hF (hr k e.symm hk)⟩
theorem Touch.trans {F F' : Nat → Prop} {a b c : World} (h : Touch F a b) (k : Touch F' b c) (hF : ∀ j, F' j → F j ∨ a.heap.size ≤ j) : Touch F a c :=
  ⟨k.os.trans h.os, k.tape.trans h.tape, k.output.trans h.output, Nat.le_trans h.size k.size, fun j hj hn => (k.block j (Nat.lt_of_lt_of_le hj h.size) (fun h' => (hF j h').elim hn (fun h2 => by omega))).trans (h.block j hj hn)⟩
theorem Touch.mono {F F' : Nat → Prop} {a b : World} (h : Touch F a b) (hF : ∀ j, F j → F' j) : Touch F' a b := ⟨h.os, h.tape, h.output, h.size, fun j hj hn => h.block j hj fun h' => hn (hF j h')⟩
theorem Touch.below {F : Nat → Prop} {w w' : World} (h : Touch F w w') {B : Nat} (hB : ∀ k, F k → B ≤ k) (hs : B ≤ w.heap.size) : Below B w w' := ⟨h.os, h.tape, h.output, h.size, fun k hk => h.block k (by omega) fun hF => by have := hB k hF; omega⟩
theorem Touch.keeps {F G : Nat → Prop} {w w' : World} (h : Touch F w w') (hG : ∀ k, G k → k < w.heap.size ∧ ¬ F k) : KeepsS G w w' := ⟨h.size, fun k hk => h.block k (hG k hk).1 (hG k hk).2⟩
theorem grownBy_setCell (W : World) (b i : Nat) (v : Value) : W.grownBy (W.setCell ⟨b, i, none⟩ v) (some b) :=
  ⟨rfl, rfl, rfl, by simp [World.setCell], fun k hk hne => by rw [RowKit.Below.heap_setCell _ _ _ _ (fun e => hne (by rw [e]))]⟩
theorem row_lt {w : World} {g : Nat} {o : Obj} (h : w.heap[g]? = some o) : g < w.heap.size := (Array.getElem?_eq_some_iff.1 h).1

/-- A parcel: its bytes, and whether it is spoilt. -/
abbrev Pc := List UInt8 × Bool
def flatP (d : List Pc) : List Value := d.flatMap fun x => [.string (txt x.1), .bool x.2]
theorem flatP_cons (x : Pc) (d : List Pc) : flatP (x :: d) = .string (txt x.1) :: .bool x.2 :: flatP d := rfl
theorem flatP_append (d e : List Pc) : flatP (d ++ e) = flatP d ++ flatP e := by simp [flatP]
theorem flatP_length (d : List Pc) : (flatP d).length = d.length * 2 := by
  induction d with
  | nil => rfl
  | cons x y ih => rw [flatP_cons, List.length_cons, List.length_cons, List.length_cons, ih]; omega
theorem flatP_get (d : List Pc) : ∀ i (h : i < d.length), (flatP d)[i * 2]? = some (.string (txt d[i].1)) ∧ (flatP d)[i * 2 + 1]? = some (.bool d[i].2) := by
  induction d with
  | nil => intro i h; simp at h
  | cons x y ih =>
    intro i h
    rw [flatP_cons]
    match i with
    | 0 => exact ⟨rfl, rfl⟩
    | i + 1 =>
      have := ih i (by simpa using h)
      rw [show (i + 1) * 2 = i * 2 + 1 + 1 by omega]
      simpa using this
theorem flatP_one (d : List Pc) : ∀ u ∈ flatP d, u.oneCell' = true := by
  intro u hu
  simp only [flatP, List.mem_flatMap] at hu
  obtain ⟨x, _, hu⟩ := hu
  simp only [List.mem_cons, List.not_mem_nil, or_false] at hu
  rcases hu with rfl | rfl <;> rfl
theorem flatP_take (d : List Pc) (i : Nat) : flatP (d.take i) = (flatP d).take (i * 2) := by
  induction d generalizing i with
  | nil => simp [flatP]
  | cons x t ih =>
    match i with
    | 0 => simp [flatP]
    | i + 1 => rw [List.take_succ_cons, flatP_cons, flatP_cons, ih i, show (i + 1) * 2 = i * 2 + 1 + 1 by omega, List.take_succ_cons, List.take_succ_cons]
theorem flatP_drop (d : List Pc) (i : Nat) : flatP (d.drop i) = (flatP d).drop (i * 2) := by
  induction d generalizing i with
  | nil => simp [flatP]
  | cons x t ih =>
    match i with
    | 0 => simp
    | i + 1 => rw [List.drop_succ_cons, flatP_cons, ih i, show (i + 1) * 2 = i * 2 + 1 + 1 by omega, List.drop_succ_cons, List.drop_succ_cons]
theorem flatP_set (d : List Pc) (i : Nat) (x : Pc) (h : i < d.length) : flatP (d.set i x) = ((flatP d).set (i * 2) (.string (txt x.1))).set (i * 2 + 1) (.bool x.2) := by
  induction d generalizing i with
  | nil => simp at h
  | cons y t ih =>
    match i with
    | 0 => rfl
    | i + 1 =>
      rw [List.set_cons_succ, flatP_cons, flatP_cons, ih i (by simpa using h), show (i + 1) * 2 = i * 2 + 1 + 1 by omega]
      rfl
/-- A row of parcels. -/
def OwnP (B : Nat) (w : World) (v : Value) (D : List Pc) : Prop := w.ownsRow B 50 2 v D.length (flatP D)
theorem infoPc : (Try.prog.info? 50).map (fun i => (i.zero, i.size, i.bytes)) = some (some (.agg #[.string ⟨#[]⟩, .bool false]), 2, 24) := by kernel_rfl
theorem OwnP.nil0 (w : World) (B : Nat) : OwnP B w (.slice none 0 0) [] := World.ownsRow_nil _ _ _ _
theorem OwnP.snoc {B : Nat} {w : World} {v : Value} {D : List Pc} {x : Pc} (h : w.ownsRow B 50 2 v (D.length + 1) (flatP D ++ [.string (txt x.1), .bool x.2])) : OwnP B w v (D ++ [x]) := by
  unfold OwnP
  rw [flatP_append, List.length_append]
  exact h
theorem OwnP.form {B : Nat} {w : World} {v : Value} {D : List Pc} (h : OwnP B w v D) : ∃ a cap, v = .slice a D.length cap := by
  rcases h.2 with ⟨rfl, hn⟩ | ⟨g, cap, cur, rfl, _⟩
  · exact ⟨none, 0, by rw [hn]⟩
  · exact ⟨_, cap, rfl⟩
theorem OwnP.cells {B : Nat} {w : World} {v : Value} {d : List Pc} (h : OwnP B w v d) {i : Nat} (hi : i < d.length) : ∃ g cap, v = .slice (some ⟨g, 0, none⟩) d.length cap ∧ d.length ≤ cap ∧ w.cell? ⟨g, i * 2, none⟩ = some (.string (txt d[i].1)) ∧ w.cell? ⟨g, i * 2 + 1, none⟩ = some (.bool d[i].2) ∧ ∀ j, w.frozen? ⟨g, j, none⟩ = false := by
  rcases h.2 with ⟨rfl, hn⟩ | ⟨g, cap, cur, rfl, hg, hc, hcap, rest⟩
  · omega
  · have h1 := World.ownsRow.cellAt h (i * 2) (by omega)
    have h2 := World.ownsRow.cellAt h (i * 2 + 1) (by omega)
    exact ⟨g, cap, rfl, hcap, h1.trans (flatP_get d i hi).1, h2.trans (flatP_get d i hi).2, fun j => World.ownsRow.frozenAt h j⟩

/-- A bag is another one now. -/
def upd (B : Nat → List Pc) (i : Nat) (b : List Pc) : Nat → List Pc := fun k => if k = i then b else B k
theorem upd_same (B : Nat → List Pc) (i : Nat) (b : List Pc) : upd B i b i = b := if_pos rfl
theorem upd_other (B : Nat → List Pc) {i k : Nat} (b : List Pc) (h : k ≠ i) : upd B i b k = B k := if_neg h
/-- A link's parcels, as they may be. -/
def PcOk (b : List Pc) : Prop := b.length ≤ 256 ∧ ∀ p ∈ b, p.1.length ≤ 65545
structure NetIs (F : Nat → Prop) (w : World) (nb n : Nat) (B : Nat → List Pc) (bb : Nat) (vs : List Value) : Prop where
  row : w.heap[nb]? = some (.cells #[.int .i64 (n : Int), .slice (some ⟨bb, 0, none⟩) (n * n) (n * n)] 43)
  bags : w.heap[bb]? = some (.cells vs.toArray 47)
  len : vs.length = n * n
  hown : ∀ i (h : i < vs.length), OwnP 0 w vs[i] (B i)
  small : n ≤ 64
  lim : ∀ i, PcOk (B i)
  fl : F nb
  fb : F bb
  fr : ∀ i (h : i < vs.length) k, vs[i].ownBlock = some k → F k
  dis : ∀ i (h : i < vs.length) j (h' : j < vs.length), i ≠ j → ∀ k, vs[i].ownBlock = some k → vs[j].ownBlock ≠ some k
  lt : ∀ k, F k → k < w.heap.size
/-- .. whatever lies where. -/
def NetOk (F : Nat → Prop) (w : World) (nb n : Nat) (B : Nat → List Pc) : Prop := ∃ bb vs, NetIs F w nb n B bb vs
section
variable {F : Nat → Prop} {w w' : World} {nb n : Nat} {B : Nat → List Pc} {bb : Nat} {vs : List Value}
theorem NetIs.keep (h : NetIs F w nb n B bb vs) (hk : KeepsS F w w') : NetIs F w' nb n B bb vs where
  row := (hk.2 _ h.fl).trans h.row
  bags := (hk.2 _ h.fb).trans h.bags
  len := h.len
  hown := fun r hr => ownsRow_keep (h.hown r hr) fun k e => hk.2 k (h.fr r hr k e)
  small := h.small
  lim := h.lim
  fl := h.fl
  fb := h.fb
  fr := h.fr
  dis := h.dis
  lt := fun k hF => Nat.lt_of_lt_of_le (h.lt k hF) hk.1
theorem NetIs.below (h : NetIs F w nb n B bb vs) (hb : Below w.heap.size w w') : NetIs F w' nb n B bb vs := h.keep (KeepsS.of_below hb h.lt)
theorem NetOk.keep (h : NetOk F w nb n B) (hk : KeepsS F w w') : NetOk F w' nb n B := by obtain ⟨bb, vs, h⟩ := h; exact ⟨bb, vs, h.keep hk⟩
theorem NetOk.below (h : NetOk F w nb n B) (hb : Below w.heap.size w w') : NetOk F w' nb n B := by obtain ⟨bb, vs, h⟩ := h; exact ⟨bb, vs, h.below hb⟩
theorem NetOk.lt (h : NetOk F w nb n B) : ∀ k, F k → k < w.heap.size := by obtain ⟨_, _, h⟩ := h; exact h.lt
theorem NetOk.small (h : NetOk F w nb n B) : n ≤ 64 := by obtain ⟨_, _, h⟩ := h; exact h.small
theorem NetOk.lim (h : NetOk F w nb n B) (i : Nat) : PcOk (B i) := by obtain ⟨_, _, h⟩ := h; exact h.lim i
theorem NetIs.cell0 (h : NetIs F w nb n B bb vs) : w.cell? ⟨nb, 0, none⟩ = some (.int .i64 (n : Int)) := by rw [cell_of_row w nb 0 _ _ _ h.row]; rfl
theorem NetIs.cell1 (h : NetIs F w nb n B bb vs) : w.cell? ⟨nb, 1, none⟩ = some (.slice (some ⟨bb, 0, none⟩) (n * n) (n * n)) := by rw [cell_of_row w nb 1 _ _ _ h.row]; rfl
theorem NetIs.celli (h : NetIs F w nb n B bb vs) {i : Nat} (hi : i < vs.length) : w.cell? ⟨bb, i, none⟩ = some vs[i] := by
  rw [cell_of_row w bb i _ _ _ h.bags, List.getElem?_toArray]
  exact List.getElem?_eq_getElem hi
theorem NetIs.free (h : NetIs F w nb n B bb vs) (i : Nat) : w.frozen? ⟨bb, i, none⟩ = false := frozen_of_row w bb i _ _ h.bags
/-- No bag's block is the struct's, or that of the bags. -/
theorem NetIs.ne (h : NetIs F w nb n B bb vs) : nb ≠ bb ∧ (∀ i (hi : i < vs.length), vs[i].ownBlock ≠ some bb) ∧ ∀ i (hi : i < vs.length), vs[i].ownBlock ≠ some nb := by
  refine ⟨fun e => ?_, fun i hi e => ?_, fun i hi e => ?_⟩
  · have h1 := h.row
    rw [e, h.bags] at h1
    simp at h1
  · obtain ⟨cur, hc⟩ := ownsRow_type (h.hown i hi) _ e
    rw [h.bags] at hc
    simp at hc
  · obtain ⟨cur, hc⟩ := ownsRow_type (h.hown i hi) _ e
    rw [h.row] at hc
    simp at hc
/-- A bag's row is another one now, and the bag's cell says so. -/
theorem NetIs.store (h : NetIs F w nb n B bb vs) {i : Nat} (hi : i < vs.length) {w1 : World} {v' : Value} {b' : List Pc} (hg : w.grownBy w1 vs[i].ownBlock) (ho : OwnP 0 w1 v' b') (hv : v'.ownBlock = vs[i].ownBlock ∨ ∃ k, v'.ownBlock = some k ∧ w.heap.size ≤ k) (hl : PcOk b') :
    NetIs (fun k => F k ∨ v'.ownBlock = some k) (w1.setCell ⟨bb, i, none⟩ v') nb n (upd B i b') bb (vs.set i v') ∧ Touch F w (w1.setCell ⟨bb, i, none⟩ v') := by
  obtain ⟨n1, n2, n3⟩ := h.ne
  have hs1 : (w1.setCell ⟨bb, i, none⟩ v').heap.size = w1.heap.size := by simp [World.setCell]
  have hbk : ∀ k, k < w.heap.size → vs[i].ownBlock ≠ some k → k ≠ bb → (w1.setCell ⟨bb, i, none⟩ v').heap[k]? = w.heap[k]? := fun k hk h1 h2 => (Below.heap_setCell _ _ _ _ h2).trans (hg.block k hk (fun e => h1 e.symm))
  have hvlt : ∀ k, v'.ownBlock = some k → k < w1.heap.size := fun k e => (World.ownsRow.lt ho k e).2
  have hvbb : v'.ownBlock ≠ some bb := fun e => by
    rcases hv with hv | ⟨k, hv, hk⟩
    · exact n2 i hi (by rw [← hv, e])
    · rw [e] at hv; cases hv
      have := h.lt _ h.fb
      omega
  have hb1 : w1.heap[bb]? = some (.cells vs.toArray 47) := (hg.block bb (h.lt _ h.fb) (fun e => n2 i hi e.symm)).trans h.bags
  have hset : (w1.setCell ⟨bb, i, none⟩ v').heap[bb]? = some (.cells (vs.set i v').toArray 47) := by
    rw [heap_setCell_same w1 bb i _ _ _ hb1]
    simp
  refine ⟨⟨(hbk nb (h.lt _ h.fl) (n3 i hi) n1).trans h.row, hset, by rw [List.length_set]; exact h.len, ?_, h.small, ?_, .inl h.fl, .inl h.fb, ?_, ?_, ?_⟩, ?_⟩
  · intro j hj
    rw [List.length_set] at hj
    by_cases hji : j = i
    · subst hji
      rw [List.getElem_set_self, upd_same]
      exact ownsRow_keep ho fun k e => Below.heap_setCell _ _ _ _ (fun e2 => hvbb (by rw [e, e2]))
    · rw [List.getElem_set_ne (fun e => hji e.symm), upd_other _ _ hji]
      exact ownsRow_keep (h.hown j hj) fun k e => hbk k (h.lt k (h.fr j hj k e)) (fun e2 => h.dis i hi j hj (fun e => hji e.symm) k e2 e) (fun e2 => n2 j hj (by rw [e, e2]))
  · intro j
    by_cases hji : j = i
    · subst hji; rw [upd_same]; exact hl
    · rw [upd_other _ _ hji]; exact h.lim j
  · intro j hj k e
    rw [List.length_set] at hj
    by_cases hji : j = i
    · subst hji
      rw [List.getElem_set_self] at e
      exact .inr e
    · rw [List.getElem_set_ne (fun e => hji e.symm)] at e
      exact .inl (h.fr j hj k e)
  · intro j hj l hl2 hjl k e e2
    have hj' : j < vs.length := by simpa using hj
    have hl2' : l < vs.length := by simpa using hl2
    have key : ∀ m (hm : m < vs.length), m ≠ i → vs[m].ownBlock = some k → v'.ownBlock ≠ some k := fun m hm hmi e3 e4 => by
      rcases hv with hv | ⟨k', hv, hk⟩
      · exact h.dis m hm i hi hmi k e3 (by rw [← hv, e4])
      · rw [e4] at hv; cases hv
        have := h.lt _ (h.fr m hm _ e3)
        omega
    by_cases hji : j = i
    · subst hji
      rw [List.getElem_set_self] at e
      rw [List.getElem_set_ne hjl] at e2
      exact key l hl2' (fun e => hjl e.symm) e2 e
    · rw [List.getElem_set_ne (fun e => hji e.symm)] at e
      by_cases hli : l = i
      · subst hli
        rw [List.getElem_set_self] at e2
        exact key j hj' hji e e2
      · rw [List.getElem_set_ne (fun e => hli e.symm)] at e2
        exact h.dis j hj' l hl2' hjl k e e2
  · intro k hk
    rw [hs1]
    rcases hk with hk | hk
    · exact Nat.lt_of_lt_of_le (h.lt k hk) hg.size
    · exact hvlt k hk
  · refine ⟨hg.os, hg.tape, hg.output, by rw [hs1]; exact hg.size, fun k hk hF => hbk k hk (fun e => hF (h.fr i hi k e)) (fun e => hF (by rw [e]; exact h.fb))⟩
end
/-- Why a link is none. -/
def linkE (n : Nat) (f t : Int) : Int := if (0 ≤ f ∧ f < n) ∧ (0 ≤ t ∧ t < n) then (if f = t then 7 else 0) else 1
/-- A link's place. -/
def plc (n : Nat) (f t : Int) : Nat := f.toNat * n + t.toNat
theorem linkE_ok {n : Nat} {f t : Int} (h : linkE n f t = 0) : (0 ≤ f ∧ f < n) ∧ (0 ≤ t ∧ t < n) ∧ f ≠ t := by
  unfold linkE at h
  split at h
  · rename_i h1
    split at h
    · cases h
    · rename_i h2; exact ⟨h1.1, h1.2, h2⟩
  · cases h
theorem plc_lt {n : Nat} {f t : Nat} (hf : f < n) (ht : t < n) : f * n + t < n * n := by
  have : (f + 1) * n ≤ n * n := Nat.mul_le_mul_right n hf
  rw [Nat.add_mul] at this
  omega

end Go.Proofs.Ytlcnfoljkcfplaa
