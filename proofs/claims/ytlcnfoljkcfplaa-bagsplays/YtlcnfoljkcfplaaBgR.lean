/- Lists of bytes in memory: what a slice of them holds, and that it holds it on behind whatever makes new memory alone; such that the call made itself. -/
import Derived.Test.YtlcnfoljkcfplaaRows
import Derived.Test.YtlcnfoljkcfplaaPlainS
import Derived.WalkKit
import Derived.WalkSpells
import Derived.Deep.QuietTactic
import Derived.BigQuiet
import Derived.RowKit3
import Derived.WalkSmall
import Derived.Maps.AppendAt
import Derived.OwnWalk
import Derived.Lib.AppendStr
import Derived.Laws.BitsLemmas
import Derived.Laws.AppendOwnNone
import Derived.Laws.IdiomStrings
namespace Go.Proofs.Ytlcnfoljkcfplaa
open Go.RowKit
set_option linter.unusedVariables false

theorem ret_b {a b : Bool} (h : a = b) : Ending.returned (.bool a) = .returned (.bool b) := by rw [h]
theorem ret_i {a b : Int} (h : a = b) : Ending.returned (.int .i64 a) = .returned (.int .i64 b) := by rw [h]

/-- The bounds of an int. -/
theorem bounds_int {x : Int} (h : (Lit.int .i64 x).wf = true) : -9223372036854775808 ≤ x ∧ x < 9223372036854775808 := by
  simp [Lit.wf, IntKind.min, IntKind.max, IntKind.signed, IntKind.bits] at h
  exact ⟨by omega, by omega⟩

/-- From block b, offset o on lie these bytes. -/
def BytesAt (w : World) (b o : Nat) (p : List UInt8) : Prop := ∀ i (h : i < p.length), w.cell? ⟨b, o + i, none⟩ = some (.int .u8 (p[i].toNat : Int))
theorem BytesAt.lt {w : World} {b o : Nat} {d : List UInt8} (h : BytesAt w b o d) (hd : d ≠ []) : b < w.heap.size := by
  have h0 := h 0 (by cases d with | nil => exact absurd rfl hd | cons x y => simp)
  rcases Nat.lt_or_ge b w.heap.size with h' | h'
  · exact h'
  · simp [World.cell?, h'] at h0
theorem BytesAt.block {w w' : World} {b o : Nat} {d : List UInt8} (h : BytesAt w b o d) (hb : w'.heap[b]? = w.heap[b]?) : BytesAt w' b o d :=
  fun i hi => (World.cell?_of_block (w := w) (a := ⟨b, o + i, none⟩) hb).trans (h i hi)
theorem BytesAt.below {w w' : World} {b o : Nat} {d : List UInt8} (h : BytesAt w b o d) (hb : Below w.heap.size w w') : BytesAt w' b o d := by
  intro i hi
  have hlt := h.lt (by intro e; subst e; simp at hi)
  exact (hb.cell (p := ⟨b, o + i, none⟩) hlt).trans (h i hi)
theorem BytesAt.take {w : World} {b o : Nat} {d : List UInt8} (h : BytesAt w b o d) (e : Nat) : BytesAt w b o (d.take e) := by
  intro i hi
  rw [List.length_take] at hi
  rw [List.getElem_take]
  exact h i (by omega)
theorem BytesAt.drop {w : World} {b o : Nat} {d : List UInt8} (h : BytesAt w b o d) (e : Nat) : BytesAt w b (o + e) (d.drop e) := by
  intro i hi
  rw [List.length_drop] at hi
  rw [List.getElem_drop, show o + e + i = o + (e + i) by omega]
  exact h (e + i) (by omega)

/-- The value is a slice of these bytes. -/
def IsB (w : World) (v : Value) (p : List UInt8) : Prop :=
  ∃ (a : Option Addr) (cap : Nat), v = .slice a p.length cap ∧ p.length ≤ cap ∧ p.length ≤ 281474976710656 ∧ (p = [] ∨ ∃ b o, a = some ⟨b, o, none⟩ ∧ BytesAt w b o p)
theorem IsB.below {w w' : World} {v : Value} {d : List UInt8} (h : IsB w v d) (hb : Below w.heap.size w w') : IsB w' v d := by
  obtain ⟨a, cap, e, hc, hl, h⟩ := h
  exact ⟨a, cap, e, hc, hl, h.imp id fun ⟨b, o, e2, hr⟩ => ⟨b, o, e2, hr.below hb⟩⟩
theorem IsB.form {w : World} {v : Value} {d : List UInt8} (h : IsB w v d) : ∃ a cap, v = .slice a d.length cap := by obtain ⟨a, cap, e, _⟩ := h; exact ⟨a, cap, e⟩
theorem IsB.non {w : World} (cap : Nat) : IsB w (.slice none 0 cap) [] := ⟨none, cap, rfl, Nat.zero_le _, by simp, .inl rfl⟩
theorem IsB.len {w : World} {v : Value} {d : List UInt8} (h : IsB w v d) : d.length ≤ 281474976710656 := by obtain ⟨_, _, _, _, h, _⟩ := h; exact h

/-- The call's own row of these bytes, in a block from B on. -/
def cellsB (d : List UInt8) : List Value := d.map fun x => .int .u8 (x.toNat : Int)
def OwnB (B : Nat) (w : World) (v : Value) (D : List UInt8) : Prop := w.ownsRow B 5 1 v D.length (cellsB D)
theorem cellsB_length (d : List UInt8) : (cellsB d).length = d.length * 1 := by simp [cellsB]
theorem cellsB_one (d : List UInt8) : ∀ u ∈ cellsB d, u.oneCell' = true := by
  intro u hu
  simp only [cellsB, List.mem_map] at hu
  obtain ⟨x, _, rfl⟩ := hu
  rfl
theorem cellsB_append (a b : List UInt8) : cellsB (a ++ b) = cellsB a ++ cellsB b := by simp [cellsB]
theorem strCells_eq (s : ByteArray) : Lib.strCells s = cellsB s.data.toList := rfl
theorem BytesAt.news {w : World} {b o : Nat} {d : List UInt8} (h : BytesAt w b o d) : ∀ j u, (cellsB d)[j]? = some u → w.cell? ((⟨b, o, none⟩ : Addr).add j) = some u := by
  intro j u hj
  obtain ⟨hl, he⟩ := List.getElem?_eq_some_iff.1 hj
  have hl' : j < d.length := by simpa [cellsB] using hl
  have := h j hl'
  simp [cellsB] at he
  subst he
  rw [Addr.add_lit]
  exact this
theorem OwnB.below {B : Nat} {w w' : World} {v : Value} {D : List UInt8} (h : OwnB B w v D) (hb : Below w.heap.size w w') : OwnB B w' v D := by
  refine ⟨h.1, ?_⟩
  rcases h.2 with hn | ⟨g, cap, cur, hv, hg, hc, rest⟩
  · exact .inl hn
  · refine .inr ⟨g, cap, cur, hv, hg, ?_, rest⟩
    have hlt : g < w.heap.size := (Array.getElem?_eq_some_iff.1 hc).1
    rw [hb.block g hlt]
    exact hc
theorem OwnB.cut {B B' : Nat} {w : World} {v : Value} {D : List UInt8} (h : OwnB B w v D) (hB : B' ≤ B) : OwnB B' w v D := by
  refine ⟨h.1, h.2.imp id fun ⟨g, cap, cur, hv, hg, rest⟩ => ⟨g, cap, cur, hv, Nat.le_trans hB hg, rest⟩⟩
theorem OwnB.isB {B : Nat} {w : World} {v : Value} {D : List UInt8} (h : OwnB B w v D) (hl : D.length ≤ 281474976710656) : IsB w v D := by
  have h0 := h
  rcases h.2 with ⟨rfl, hn⟩ | ⟨g, cap, cur, rfl, hg, hc, hcap, rest⟩
  · have e : D = [] := List.eq_nil_of_length_eq_zero hn
    subst e
    exact IsB.non 0
  · refine ⟨_, cap, rfl, hcap, hl, .inr ⟨g, 0, rfl, fun i hi => ?_⟩⟩
    have := h0.cellAt i (by omega)
    rw [show 0 + i = i by omega, this]
    simp [cellsB, hi]
theorem OwnB.more {B : Nat} {w : World} {v : Value} {D E : List UInt8} {n : Nat} {cs : List Value} (h : w.ownsRow B 5 1 v n cs) (hn : n = D.length + E.length) (hc : cs = cellsB D ++ cellsB E) : OwnB B w v (D ++ E) := by
  unfold OwnB
  rw [cellsB_append, ← hc, List.length_append, ← hn]
  exact h
theorem OwnB.nil0 (w : World) (B : Nat) : OwnB B w (.slice none 0 0) [] := World.ownsRow_nil _ _ _ _
theorem OwnB.empty (w : World) (B : Nat) (hB : B ≤ w.heap.size) : OwnB B (w.alloc (.cells #[] 5)) (.slice (some ⟨w.heap.size, 0, none⟩) 0 0) [] :=
  World.ownsRow_made w #[] 0 hB (by unfold maxLen; omega) (by simp)
theorem OwnB.block {B : Nat} {w : World} {v : Value} {D : List UInt8} (h : OwnB B w v D) : ∀ k, v.ownBlock = some k → B ≤ k := fun k e => (World.ownsRow.lt h k e).1
theorem OwnB.form {B : Nat} {w : World} {v : Value} {D : List UInt8} (h : OwnB B w v D) : ∃ a cap, v = .slice a D.length cap := by
  rcases h.2 with ⟨rfl, hn⟩ | ⟨g, cap, cur, rfl, _⟩
  · exact ⟨none, 0, by rw [hn]⟩
  · exact ⟨_, cap, rfl⟩
theorem infoByte : (Try.prog.info? 5).map (fun i => (i.zero, i.size, i.bytes)) = some (some (.int .u8 0), 1, 1) := by kernel_rfl

/-- string(b) of a slice of bytes. -/
def txt (p : List UInt8) : ByteArray := ⟨p.toArray⟩
theorem txt_inj {a b : List UInt8} (h : txt a = txt b) : a = b := by
  have := congrArg (fun s : ByteArray => s.data.toList) h
  simpa [txt] using this

theorem grownBy.trans2 {a b c : World} {r : Option Nat} (h : a.grownBy b r) (k : b.grownBy c r) : a.grownBy c r :=
  ⟨k.os.trans h.os, k.tape.trans h.tape, k.output.trans h.output, Nat.le_trans h.size k.size, fun i hi hne => (k.block i (Nat.lt_of_lt_of_le hi h.size) hne).trans (h.block i hi hne)⟩
theorem grownBy.same (a : World) (r : Option Nat) : a.grownBy a r := ⟨rfl, rfl, rfl, Nat.le_refl _, fun _ _ _ => rfl⟩
theorem grownBy.ofBelow {a b : World} (h : Below a.heap.size a b) (r : Option Nat) : a.grownBy b r := ⟨h.os, h.tape, h.output, h.size, fun i hi _ => h.block i hi⟩
theorem grownBy.drewN {a b : World} {r : Option Nat} (h : a.grownBy b r) (n : Nat) : a.grownBy (b.drewN n) r := ⟨h.os, h.tape, h.output, h.size, h.block⟩

/-- 'append([]byte(nil), b...)': the bytes in a row of the call's own. -/
theorem wpList_copyB {w : World} {ops : Array Oper} {rest : List Oper} {o : Oper} {a : Act} {Q : Exit → Act → World → Prop} (hgd : o.guard = none) (s x : Operand)
    (ho : o.op = .call { callee := .builtin .append, args := #[s, x], argTypes := #[31, 31] })
    (v : Value) (p : List UInt8) (hs : a.eval s = .slice none 0 0) (hx : a.eval x = v) (hv : IsB w v p) (hp : p.length ≤ 140737488355328)
    (h : ∀ v' w', OwnB w.heap.size w' v' p → Below w.heap.size w w' → wpList Try.prog ops Q rest (a.put o.dst v') w') : wpList Try.prog ops Q (o :: rest) a w := by
  obtain ⟨i0, hi, hz0, hz1, hz2⟩ := info_parts infoByte
  obtain ⟨a1, c1, rfl, hc1, hl1, r1⟩ := hv
  cases a1 with
  | none =>
    obtain rfl : p = [] := by rcases r1 with h | ⟨b, o, h, _⟩; exact h; cases h
    have hcl : ∀ ty c w, (Builtin.append_ #[31, 31] ty #[.slice none 0 0, .slice none 0 c]).run Try.prog w = .ok (.slice none 0 0) w := fun ty c w => by
      simp [Builtin.append_, run_underlying Try.underlying31, sizeOf, typeInfo, hi, Builtin.lenOf, Builtin.firstCells]
    refine wpList_plain hgd fun K hK => ?_
    unfold Oper.wp
    simp only [List.length_nil] at hx
    simp [execOp, ho, resolve, invoke, builtin, hs, hx, hcl, Result.andThen]
    exact hK _ _ (h _ _ (OwnB.nil0 _ _) (Below.refl _ _))
  | some ad =>
    refine wpList_append_own _ hgd s x 31 ho w.heap.size 5 i0 (.int .u8 0) 1 1 Try.underlying31 hi hz0 hz1 hz2 rfl (by decide) _ _ _ hs (World.ownsRow_nil _ _ _ _) ad p.length c1 (cellsB p) hx (cellsB_length p) ?_ (cellsB_one p) (by unfold maxLen; omega) (by omega) (Nat.le_refl _) ?_
    · intro j u hj
      rcases r1 with rfl | ⟨b, o, e, g⟩
      · simp [cellsB] at hj
      · cases e
        exact g.news j u hj
    · intro v3 w3 hown hgrow _
      refine h v3 w3 ?_ ((Below.refl _ _).grown hgrow (Nat.le_refl _) (fun j e => by cases e))
      unfold OwnB
      simpa using hown


theorem OwnB.rows {B : Nat} {w : World} {v : Value} {p : List UInt8} (h : OwnB B w v p) :
    ∃ a cap, v = .slice a p.length cap ∧ p.length ≤ cap ∧ (p = [] ∨ ∃ b o, a = some ⟨b, o, none⟩ ∧ B ≤ b ∧ b < w.heap.size ∧ BytesAt w b o p) := by
  have h0 := h
  rcases h.2 with ⟨rfl, hn⟩ | ⟨g, cap, cur, rfl, hg, hc, hcap, rest⟩
  · have e : p = [] := List.eq_nil_of_length_eq_zero hn
    subst e
    exact ⟨none, 0, rfl, Nat.le_refl _, .inl rfl⟩
  · refine ⟨_, cap, rfl, hcap, .inr ⟨g, 0, rfl, hg, (Array.getElem?_eq_some_iff.1 hc).1, fun i hi => ?_⟩⟩
    have := h0.cellAt i (by omega)
    rw [show 0 + i = i by omega, this]
    simp [cellsB, hi]

/-- string(b). -/
theorem conv_txt {w : World} {v : Value} {p : List UInt8} (h : IsB w v p) : (convert 31 9 v).run Try.prog w = .ok (.string (txt p)) w := by
  obtain ⟨a, cap, rfl, hc, hl, r⟩ := h
  rcases r with rfl | ⟨b, o, rfl, hb⟩
  · rw [run_convert_bytes_string w _ _ _ _ _ _ Try.underlying31 Try.underlying5 Try.underlying9]
    cases a <;> simp [Conv.bytesToString, loadCells]
    all_goals rfl
  · exact run_convert_bytes_back (P := Try.prog) w _ _ _ ⟨b, o, none⟩ cap p Try.underlying31 Try.underlying5 Try.underlying9 (fun j hj => by rw [Addr.add_lit]; exact hb j hj)

theorem IsB.sub {w : World} {z : Option Addr} {q : List UInt8} {c : Nat} (h : IsB w (.slice z q.length c) q) (s n : Nat) (hn : s + n ≤ q.length) : IsB w (.slice (Option.map (fun x => x.add s) z) n (c - s)) ((q.drop s).take n) := by
  obtain ⟨a, cap, e, hc, hl, r⟩ := h
  cases e
  have hlen : ((q.drop s).take n).length = n := by rw [List.length_take, List.length_drop]; omega
  refine ⟨_, c - s, by rw [hlen], by rw [hlen]; omega, by rw [hlen]; omega, ?_⟩
  rcases r with rfl | ⟨b, o, rfl, hb⟩
  · exact .inl (by simp)
  · exact .inr ⟨b, o + s, by rw [Option.map_some, Addr.add_lit], (hb.drop s).take n⟩
theorem IsB.head {w : World} {z : Option Addr} {q : List UInt8} {c : Nat} (h : IsB w (.slice z q.length c) q) (n : Nat) (hn : n ≤ q.length) : IsB w (.slice z n c) (q.take n) := by
  obtain ⟨a, cap, e, hc, hl, r⟩ := h
  cases e
  have hlen : (q.take n).length = n := by rw [List.length_take]; omega
  refine ⟨z, c, by rw [hlen], by rw [hlen]; omega, by rw [hlen]; omega, ?_⟩
  rcases r with rfl | ⟨b, o, rfl, hb⟩
  · exact .inl (by simp)
  · exact .inr ⟨b, o, rfl, hb.take n⟩
theorem IsB.none0 {w : World} (z : Option Addr) (c : Nat) : IsB w (.slice z 0 c) [] := ⟨z, c, rfl, Nat.zero_le _, by simp, .inl rfl⟩

/-- 'append(out, b...)', out a row of the call's own, b any slice of bytes. -/
theorem wpList_appB {w : World} {ops : Array Oper} {rest : List Oper} {o : Oper} {a : Act} {Q : Exit → Act → World → Prop} (hgd : o.guard = none) (s x : Operand)
    (ho : o.op = .call { callee := .builtin .append, args := #[s, x], argTypes := #[31, 31] })
    (B : Nat) (v : Value) (D : List UInt8) (hs : a.eval s = v) (hown : OwnB B w v D) (hB : B ≤ w.heap.size) (vx : Value) (p : List UInt8) (hx : a.eval x = vx) (hv : IsB w vx p) (hl : D.length + p.length ≤ 140737488355328)
    (h : ∀ v' w', OwnB B w' v' (D ++ p) → w.grownBy w' v.ownBlock → wpList Try.prog ops Q rest (a.put o.dst v') w') : wpList Try.prog ops Q (o :: rest) a w := by
  obtain ⟨i0, hi, hz0, hz1, hz2⟩ := info_parts infoByte
  obtain ⟨a1, c1, rfl, hc1, hl1, r1⟩ := hv
  cases a1 with
  | none =>
    obtain rfl : p = [] := by rcases r1 with h | ⟨b, o, h, _⟩; exact h; cases h
    have hcl : ∀ ty, (Builtin.append_ #[31, 31] ty #[v, .slice none 0 c1]).run Try.prog w = .ok v w := fun ty => by
      rcases hown.2 with ⟨rfl, h0⟩ | ⟨g, cap, cur, rfl, _, _, hnc, _⟩
      · simp [Builtin.append_, run_underlying Try.underlying31, sizeOf, typeInfo, hi, Builtin.lenOf, Builtin.firstCells]
      · simp [Builtin.append_, run_underlying Try.underlying31, sizeOf, typeInfo, hi, Builtin.lenOf, Builtin.firstCells, hnc, storeCells]
    refine wpList_plain hgd fun K hK => ?_
    unfold Oper.wp
    simp only [List.length_nil] at hx
    simp [execOp, ho, resolve, invoke, builtin, hs, hx, hcl, Result.andThen]
    exact hK _ _ (h _ _ (by rw [List.append_nil]; exact hown) (grownBy.same _ _))
  | some ad =>
    refine wpList_append_own _ hgd s x 31 ho B 5 i0 (.int .u8 0) 1 1 Try.underlying31 hi hz0 hz1 hz2 rfl (by decide) _ _ _ hs hown ad p.length c1 (cellsB p) hx (cellsB_length p) ?_ (cellsB_one p) (by unfold maxLen; omega) (by omega) hB ?_
    · intro j u hj
      rcases r1 with rfl | ⟨b, o, e, g⟩
      · simp [cellsB] at hj
      · cases e
        exact g.news j u hj
    · intro v3 w3 hown3 hgrow _
      exact h v3 w3 (OwnB.more hown3 rfl rfl) hgrow

/-- 'append([]byte{}, b...)': where the walk stands behind the building of the empty slice. -/
theorem wpList_copyE {w : World} {ops : Array Oper} {rest : List Oper} {o : Oper} {a : Act} {Q : Exit → Act → World → Prop} (hgd : o.guard = none) (s x : Operand)
    (ho : o.op = .call { callee := .builtin .append, args := #[s, x], argTypes := #[31, 31] })
    (vx : Value) (p : List UInt8) (hs : a.eval s = .slice (some ⟨w.heap.size, 0, none⟩) 0 0) (hx : a.eval x = vx) (hv : IsB w vx p) (hp : p.length ≤ 140737488355328)
    (h : ∀ v' w', OwnB w.heap.size w' v' p → Below w.heap.size w w' → wpList Try.prog ops Q rest (a.put o.dst v') w') : wpList Try.prog ops Q (o :: rest) a (w.alloc (.cells #[] 5)) := by
  have hb : Below w.heap.size w (w.alloc (.cells #[] 5)) := (Below.refl _ _).alloc (Nat.le_refl _) _
  refine wpList_appB hgd s x ho w.heap.size _ [] hs (OwnB.empty w _ (Nat.le_refl _)) hb.size vx p hx (hv.below hb) (by simpa using hp) ?_
  intro v' w' ho' hg
  exact h v' w' ho' (hb.grown hg hb.size (OwnB.empty w _ (Nat.le_refl _)).block)

/-- A slice of these bytes that lies in another block than g. -/
def IsBn (g : Option Nat) (w : World) (v : Value) (p : List UInt8) : Prop :=
  ∃ (a : Option Addr) (cap : Nat), v = .slice a p.length cap ∧ p.length ≤ cap ∧ p.length ≤ 281474976710656 ∧ (p = [] ∨ ∃ b o, a = some ⟨b, o, none⟩ ∧ some b ≠ g ∧ BytesAt w b o p)
theorem IsBn.isB {g : Option Nat} {w : World} {v : Value} {p : List UInt8} (h : IsBn g w v p) : IsB w v p := by
  obtain ⟨a, cap, e, hc, hl, h⟩ := h
  exact ⟨a, cap, e, hc, hl, h.imp id fun ⟨b, o, e2, _, hr⟩ => ⟨b, o, e2, hr⟩⟩
theorem IsBn.below {g : Option Nat} {w w' : World} {v : Value} {p : List UInt8} (h : IsBn g w v p) (hb : Below w.heap.size w w') : IsBn g w' v p := by
  obtain ⟨a, cap, e, hc, hl, h⟩ := h
  exact ⟨a, cap, e, hc, hl, h.imp id fun ⟨b, o, e2, hn, hr⟩ => ⟨b, o, e2, hn, hr.below hb⟩⟩
theorem IsBn.grown {g : Option Nat} {w w' : World} {v : Value} {p : List UInt8} (h : IsBn g w v p) (hb : w.grownBy w' g) : IsBn g w' v p := by
  obtain ⟨a, cap, e, hc, hl, h⟩ := h
  refine ⟨a, cap, e, hc, hl, ?_⟩
  by_cases hp : p = []
  · exact .inl hp
  · obtain ⟨b, o, e2, hn, hr⟩ := h.resolve_left hp
    exact .inr ⟨b, o, e2, hn, hr.block (hb.block b (hr.lt hp) hn)⟩
theorem IsB.apart {w w' : World} {v u : Value} {p q : List UInt8} (h : IsB w v p) (hb : Below w.heap.size w w') (ho : OwnB w.heap.size w' u q) : IsBn u.ownBlock w' v p := by
  obtain ⟨a, cap, e, hc, hl, h⟩ := h
  refine ⟨a, cap, e, hc, hl, ?_⟩
  by_cases hp : p = []
  · exact .inl hp
  · obtain ⟨b, o, e2, hr⟩ := h.resolve_left hp
    refine .inr ⟨b, o, e2, fun e => ?_, hr.below hb⟩
    have h1 := ho.block b e.symm
    have h2 := hr.lt hp
    omega
theorem OwnB.apart {B : Nat} {w : World} {v : Value} {p : List UInt8} (h : OwnB B w v p) (hl : p.length ≤ 281474976710656) (g : Option Nat) (hg : ∀ k, g = some k → k < B) : IsBn g w v p := by
  obtain ⟨a, cap, e, hc, r⟩ := h.rows
  exact ⟨a, cap, e, hc, hl, r.imp id fun ⟨b, o, e2, hB, _, hr⟩ => ⟨b, o, e2, fun e3 => by have := hg b e3.symm; omega, hr⟩⟩
theorem IsBn.form {g : Option Nat} {w : World} {v : Value} {p : List UInt8} (h : IsBn g w v p) : ∃ a cap, v = .slice a p.length cap := by obtain ⟨a, cap, e, _⟩ := h; exact ⟨a, cap, e⟩
theorem flip_eq (c : UInt8) : (255 : Int) - (c.toNat : Int) = ((UInt8.ofNat (255 - c.toNat)).toNat : Int) := by
  have := UInt8.toNat_lt c
  rw [toNat_of (by omega)]
  omega
/-- One byte of an own row is written over. -/
theorem OwnB.write {B : Nat} {w : World} {g cap : Nat} {D : List UInt8} (h : OwnB B w (.slice (some ⟨g, 0, none⟩) D.length cap) D) (j : Nat) (c : UInt8) :
    OwnB B (w.setCell ⟨g, j, none⟩ (.int .u8 (c.toNat : Int))) (.slice (some ⟨g, 0, none⟩) D.length cap) (D.set j c) ∧ w.grownBy (w.setCell ⟨g, j, none⟩ (.int .u8 (c.toNat : Int))) (some g) := by
  obtain ⟨h1, h2⟩ := World.ownsRow.stored h j (.int .u8 (c.toNat : Int))
  refine ⟨?_, h2⟩
  unfold OwnB
  rw [List.length_set]
  have e : cellsB (D.set j c) = (cellsB D).set j (.int .u8 (c.toNat : Int)) := by simp [cellsB, List.map_set]
  rw [e]
  exact h1
theorem OwnB.cell {B : Nat} {w : World} {g cap n : Nat} {D : List UInt8} (h : OwnB B w (.slice (some ⟨g, 0, none⟩) n cap) D) (hn : n = D.length) {j : Nat} (hj : j < D.length) :
    w.cell? ⟨g, j, none⟩ = some (.int .u8 (D[j].toNat : Int)) ∧ w.frozen? ⟨g, j, none⟩ = false := by
  subst hn
  refine ⟨?_, World.ownsRow.frozenAt h j⟩
  rw [World.ownsRow.cellAt h j (by omega)]
  simp [cellsB, hj]

end Go.Proofs.Ytlcnfoljkcfplaa
