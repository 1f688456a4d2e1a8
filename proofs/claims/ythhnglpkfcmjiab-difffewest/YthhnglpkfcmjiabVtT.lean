/- Equality of trees: both Sames. -/
import Derived.Test.YthhnglpkfcmjiabVtS
import Derived.Deep.Cut
namespace Go.Proofs.Ythhnglpkfcmjiab
open Go.RowKit
set_option linter.unusedVariables false
set_option linter.unusedSimpArgs false

theorem hide9 {p : Prop} (h : p) : Hid p := h
theorem VT.ext {a b : VT} (h1 : a.k = b.k) (h2 : a.tg = b.tg) (h3 : a.tx = b.tx) (h4 : a.at_ = b.at_) (h5 : a.ks = b.ks) : a = b := by rw [a.eta, b.eta, h1, h2, h3, h4, h5]
theorem row6 {W : World} {b : Nat} {x0 x1 x2 x3 x4 x5 : Value} {ty : TypeId} (h : W.heap[b]? = some (.cells #[x0, x1, x2, x3, x4, x5] ty)) : W.cell? ⟨b, 0, none⟩ = some x0 ∧ W.cell? ⟨b, 1, none⟩ = some x1 ∧ W.cell? ⟨b, 2, none⟩ = some x2 ∧ W.cell? ⟨b, 3, none⟩ = some x3 ∧ W.cell? ⟨b, 4, none⟩ = some x4 ∧ W.cell? ⟨b, 5, none⟩ = some x5 := by
  refine ⟨?_, ?_, ?_, ?_, ?_, ?_⟩ <;> (rw [cell_of_row W b _ _ _ _ h]; rfl)
theorem neqSt (c r c2 r2 : Int) (w : World) : (binOp .neq 23 (.agg #[.int .i64 c, .int .i64 r]) (.agg #[.int .i64 c2, .int .i64 r2])).run Try.prog w = .ok (.bool (!decide ((c, r) = (c2, r2)))) w := by
  have h := equalSt (c, r) (c2, r2) w
  have h2 : (Op.equal 23 (.agg #[.int .i64 c, .int .i64 r]) (.agg #[.int .i64 c2, .int .i64 r2])).run Try.prog w = _ := h
  simp only [binOp, Sem.run_bind, h2, Result.andThen_ok]
  rw [show decide ((c2, r2) = (c, r)) = decide ((c, r) = (c2, r2)) from decide_eq_decide.2 eq_comm]
  rfl
/-- What stands while two trees are held against one another. -/
structure SmS (w : World) (G1 G2 : Nat → Prop) (a b : VT) (aa : Option Addr) (ca : Nat) (ak : Option Addr) (ck : Nat) (ba : Option Addr) (cb : Nat) (bk : Option Addr) (dk : Nat) (W : World) : Prop where
  b1 : W.heap[w.heap.size]? = some (.cells #[.int .i64 a.k.1, .int .i64 a.k.2, .string a.tg, .string a.tx, .slice aa a.at_.length ca, .slice ak a.ks.length ck] 27)
  b2 : W.heap[w.heap.size + 1]? = some (.cells #[.int .i64 b.k.1, .int .i64 b.k.2, .string b.tg, .string b.tx, .slice ba b.at_.length cb, .slice bk b.ks.length dk] 27)
  fa : FdIs G1 W (.slice aa a.at_.length ca) (.slice ak a.ks.length ck) a.at_ a.ks
  fb : FdIs G2 W (.slice ba b.at_.length cb) (.slice bk b.ks.length dk) b.at_ b.ks
  bel : Below w.heap.size w W
section
variable {w W W' : World} {G1 G2 : Nat → Prop} {a b : VT} {aa : Option Addr} {ca : Nat} {ak : Option Addr} {ck : Nat} {ba : Option Addr} {cb : Nat} {bk : Option Addr} {dk : Nat}
theorem SmS.below (h : SmS w G1 G2 a b aa ca ak ck ba cb bk dk W) (hb : Below W.heap.size W W') : SmS w G1 G2 a b aa ca ak ck ba cb bk dk W' := ⟨(hb.block _ (row_lt h.b1)).trans h.b1, (hb.block _ (row_lt h.b2)).trans h.b2, h.fa.below hb, h.fb.below hb, h.bel.trans (hb.mono h.bel.size)⟩
theorem SmS.start (fa : FdIs G1 w (.slice aa a.at_.length ca) (.slice ak a.ks.length ck) a.at_ a.ks) (fb : FdIs G2 w (.slice ba b.at_.length cb) (.slice bk b.ks.length dk) b.at_ b.ks) : SmS w G1 G2 a b aa ca ak ck ba cb bk dk ((w.alloc (.cells #[.int .i64 a.k.1, .int .i64 a.k.2, .string a.tg, .string a.tx, .slice aa a.at_.length ca, .slice ak a.ks.length ck] 27)).alloc (.cells #[.int .i64 b.k.1, .int .i64 b.k.2, .string b.tg, .string b.tx, .slice ba b.at_.length cb, .slice bk b.ks.length dk] 27)) := by
  have hb : Below w.heap.size w ((w.alloc (.cells #[.int .i64 a.k.1, .int .i64 a.k.2, .string a.tg, .string a.tx, .slice aa a.at_.length ca, .slice ak a.ks.length ck] 27)).alloc (.cells #[.int .i64 b.k.1, .int .i64 b.k.2, .string b.tg, .string b.tx, .slice ba b.at_.length cb, .slice bk b.ks.length dk] 27)) := ((Below.refl _ _).alloc (Nat.le_refl _) _).alloc (by simp) _
  have h2 := heap_alloc_new (w.alloc (.cells #[.int .i64 a.k.1, .int .i64 a.k.2, .string a.tg, .string a.tx, .slice aa a.at_.length ca, .slice ak a.ks.length ck] 27)) (.cells #[.int .i64 b.k.1, .int .i64 b.k.2, .string b.tg, .string b.tx, .slice ba b.at_.length cb, .slice bk b.ks.length dk] 27)
  rw [show (w.alloc (.cells #[.int .i64 a.k.1, .int .i64 a.k.2, .string a.tg, .string a.tx, .slice aa a.at_.length ca, .slice ak a.ks.length ck] 27)).heap.size = w.heap.size + 1 by simp] at h2
  exact ⟨(Below.heap_alloc _ _ _ (by simp)).trans (heap_alloc_new w _), h2, fa.below hb, fb.below hb, hb⟩
end

end Go.Proofs.Ythhnglpkfcmjiab
