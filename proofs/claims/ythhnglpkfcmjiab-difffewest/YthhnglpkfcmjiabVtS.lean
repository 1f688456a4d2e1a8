/- Equality of attributes and of trees: the program's and the document's. -/
import Derived.Test.YthhnglpkfcmjiabVtA
import Derived.Lib.Strings
namespace Go.Proofs.Ythhnglpkfcmjiab
open Go.RowKit
set_option linter.unusedVariables false
set_option linter.unusedSimpArgs false

theorem txt_eq (a b : ByteArray) : (a.toList == b.toList) = decide (a = b) := by
  rw [Go.Lib.toList_data, Go.Lib.toList_data]
  by_cases e : a = b
  · subst e; simp
  · rw [decide_eq_false e]
    exact beq_eq_false_iff_ne.2 fun h => e (tx_ext h)
set_option maxRecDepth 100000 in
theorem equalAt (a b : At) (w : World) : (Op.equalIn 10000 82 (.agg #[.string a.1, .string a.2]) (.agg #[.string b.1, .string b.2])).run Try.prog w = .ok (decide (a = b)) w := by
  obtain ⟨an, av⟩ := a
  obtain ⟨bn, bv⟩ := b
  have hS : Try.prog.underlying 82 = some (.struct (Try.prog.fieldsOf 82)) := by kernel_rfl
  have hp : Try.prog.stoodInHeld 82 = false := by kernel_rfl
  rw [show (10000 : Nat) = 9999 + 1 from rfl, run_equalIn_agg w 9999 82 _ _ hS hp]
  simp only [Program.fieldsOf, Try.underlying82]
  have hn := txt_eq an bn
  have hv := txt_eq av bv
  clear hS hp
  go_simp
  by_cases h1 : an = bn
  · by_cases h2 : av = bv <;> simp [h1, h2, hn, hv]
  · simp [h1, hn]
theorem execNeqA {ev : Operand → Value} {d : Option Nat} {x y : Operand} {t t2 : TypeId} {o3 : String} {o4 : Array Edge} {o5 : Option (Nat × Bool)} {p q : At} (hx : ev x = .agg #[.string p.1, .string p.2]) (hy : ev y = .agg #[.string q.1, .string q.2]) (w : World) : (execOp ev ⟨d, .binOp .neq 82 x y t2, t, o3, o4, o5⟩).run Try.prog w = .ok (.value (.bool (!decide (p = q)))) w := by
  have h1 : (eqGuard .neq 82 x y (.agg #[.string p.1, .string p.2]) (.agg #[.string q.1, .string q.2])).run Try.prog w = .ok () w := run_eqGuard_agg w .neq 82 x y _ _ (by kernel_rfl)
  have h2 : (binOp .neq 82 (.agg #[.string p.1, .string p.2]) (.agg #[.string q.1, .string q.2])).run Try.prog w = .ok (.bool (!decide (p = q))) w := by
    rw [run_neq_struct]
    rw [equalAt p q w]
    rfl
  unfold execOp
  simp only [hx, hy, Sem.run_bind, h1, h2, Result.andThen_ok]
  rfl
theorem LsE.rowA {G : Nat → Prop} {w : World} {a : Option Addr} {n c : Nat} {D : List At} (h : LsE atCells 2 G w (.slice a n c) D) {i : Nat} (hi : i < D.length) : ∃ b o, a = some ⟨b, o, none⟩ ∧ G b ∧ b < w.heap.size ∧ w.cell? ⟨b, o + i * 2, none⟩ = some (.string D[i].1) ∧ w.cell? ⟨b, o + i * 2 + 1, none⟩ = some (.string D[i].2) := by
  obtain ⟨a1, c1, e, _, _, h3⟩ := h
  injection e with e1 e2 e3
  subst e1
  obtain ⟨b, o, e4, g, hlt, hr⟩ := h3.resolve_left (fun e => by rw [e] at hi; simp at hi)
  exact ⟨b, o, e4, g, hlt, hr i hi 0 _ rfl, hr i hi 1 _ rfl⟩

end Go.Proofs.Ythhnglpkfcmjiab
