/- Equality of what registers have; the document's Same. -/
import Derived.Test.YtecliogffcnfiaaLwG
namespace Go.Proofs.Ytecliogffcnfiaa
open Go.RowKit
set_option linter.unusedVariables false
set_option linter.unusedSimpArgs false

set_option maxRecDepth 100000 in
theorem equalRg (a b : Rg) (w : World) : (Op.equalIn 10000 26 (rgV a) (rgV b)).run Try.prog w = .ok (decide (a = b)) w := by
  obtain ⟨⟨anc, anr⟩, anm, ⟨aac, aar⟩, avl, agn⟩ := a
  obtain ⟨⟨bnc, bnr⟩, bnm, ⟨bac, bar⟩, bvl, bgn⟩ := b
  have hS : Try.prog.underlying 26 = some (.struct (Try.prog.fieldsOf 26)) := by kernel_rfl
  have hp : Try.prog.stoodInHeld 26 = false := by kernel_rfl
  show (Op.equalIn 10000 26 (.agg #[.int .i64 anc, .int .i64 anr, .string anm, .int .i64 aac, .int .i64 aar, .string avl, .bool agn]) (.agg #[.int .i64 bnc, .int .i64 bnr, .string bnm, .int .i64 bac, .int .i64 bar, .string bvl, .bool bgn])).run Try.prog w = _
  rw [show (10000 : Nat) = 9999 + 1 from rfl, run_equalIn_agg w 9999 26 _ _ hS hp]
  simp only [Program.fieldsOf, Try.underlying26]
  have hn := txt_eq anm bnm
  have hv := txt_eq avl bvl
  clear hS hp
  go_simp
  by_cases h1 : anc = bnc
  · by_cases h2 : anr = bnr
    · by_cases h3 : anm = bnm
      · by_cases h4 : aac = bac
        · by_cases h5 : aar = bar
          · by_cases h6 : avl = bvl
            · by_cases h7 : agn = bgn <;> simp [h1, h2, h3, h4, h5, h6, h7, hn, hv]
            · simp [h1, h2, h3, h4, h5, h6, hn, hv]
          · simp [h1, h2, h3, h4, h5, hn]
        · simp [h1, h2, h3, h4, hn]
      · simp [h1, h2, h3, hn]
    · simp [h1, h2]
  · simp [h1]
theorem execEql {ev : Operand → Value} {d : Option Nat} {x y : Operand} {t t2 : TypeId} {o3 : String} {o4 : Array Edge} {o5 : Option (Nat × Bool)} {p q : Rg} (hx : ev x = rgV p) (hy : ev y = rgV q) (w : World) : (execOp ev ⟨d, .binOp .eql 26 x y t2, t, o3, o4, o5⟩).run Try.prog w = .ok (.value (.bool (decide (p = q)))) w := by
  have h1 : (eqGuard .eql 26 x y (rgV p) (rgV q)).run Try.prog w = .ok () w := run_eqGuard_agg w .eql 26 x y _ _ (by kernel_rfl)
  have h2 : (binOp .eql 26 (rgV p) (rgV q)).run Try.prog w = .ok (.bool (decide (p = q))) w := by
    rw [show rgV p = .agg #[.int .i64 p.nd.1, .int .i64 p.nd.2, .string p.nm, .int .i64 p.at_.1, .int .i64 p.at_.2, .string p.vl, .bool p.gn] from rfl, show rgV q = .agg #[.int .i64 q.nd.1, .int .i64 q.nd.2, .string q.nm, .int .i64 q.at_.1, .int .i64 q.at_.2, .string q.vl, .bool q.gn] from rfl, run_eql_struct]
    have h3 := equalRg p q w
    rw [show rgV p = .agg #[.int .i64 p.nd.1, .int .i64 p.nd.2, .string p.nm, .int .i64 p.at_.1, .int .i64 p.at_.2, .string p.vl, .bool p.gn] from rfl, show rgV q = .agg #[.int .i64 q.nd.1, .int .i64 q.nd.2, .string q.nm, .int .i64 q.at_.1, .int .i64 q.at_.2, .string q.vl, .bool q.gn] from rfl] at h3
    rw [h3]
    rfl
  unfold execOp
  simp only [hx, hy, Sem.run_bind, h1, h2, Result.andThen_ok]
  rfl
theorem execNeq {ev : Operand → Value} {d : Option Nat} {x y : Operand} {t t2 : TypeId} {o3 : String} {o4 : Array Edge} {o5 : Option (Nat × Bool)} {p q : Rg} (hx : ev x = rgV p) (hy : ev y = rgV q) (w : World) : (execOp ev ⟨d, .binOp .neq 26 x y t2, t, o3, o4, o5⟩).run Try.prog w = .ok (.value (.bool (!decide (p = q)))) w := by
  have h1 : (eqGuard .neq 26 x y (rgV p) (rgV q)).run Try.prog w = .ok () w := run_eqGuard_agg w .neq 26 x y _ _ (by kernel_rfl)
  have h2 : (binOp .neq 26 (rgV p) (rgV q)).run Try.prog w = .ok (.bool (!decide (p = q))) w := by
    rw [show rgV p = .agg #[.int .i64 p.nd.1, .int .i64 p.nd.2, .string p.nm, .int .i64 p.at_.1, .int .i64 p.at_.2, .string p.vl, .bool p.gn] from rfl, show rgV q = .agg #[.int .i64 q.nd.1, .int .i64 q.nd.2, .string q.nm, .int .i64 q.at_.1, .int .i64 q.at_.2, .string q.vl, .bool q.gn] from rfl, run_neq_struct]
    have h3 := equalRg p q w
    rw [show rgV p = .agg #[.int .i64 p.nd.1, .int .i64 p.nd.2, .string p.nm, .int .i64 p.at_.1, .int .i64 p.at_.2, .string p.vl, .bool p.gn] from rfl, show rgV q = .agg #[.int .i64 q.nd.1, .int .i64 q.nd.2, .string q.nm, .int .i64 q.at_.1, .int .i64 q.at_.2, .string q.vl, .bool q.gn] from rfl] at h3
    rw [h3]
    rfl
  unfold execOp
  simp only [hx, hy, Sem.run_bind, h1, h2, Result.andThen_ok]
  rfl
theorem take_more {A B : List Rg} {i : Nat} (ha : i < A.length) (hb : i < B.length) (h : A.take i = B.take i) (e : A[i] = B[i]) : A.take (i + 1) = B.take (i + 1) := by
  rw [List.take_succ_eq_append_getElem ha, List.take_succ_eq_append_getElem hb, h, e]

end Go.Proofs.Ytecliogffcnfiaa
