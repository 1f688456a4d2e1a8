/- A list of lists of bytes that came in, opened as data: what it holds; and how much it holds, by its bulk. -/
import Derived.Test.YtcdnppiigejjgaaBaseC
import Derived.Test.YtcdnppiigejjgaaSeB
import Derived.Deep.Matrix
import Derived.JoinedCond
namespace Go.Proofs.Ytcdnppiigejjgaa
open Go.ChangeShapes Go.WideShapes Go.ChangeAt Go.RowKit Go.Deep

theorem cellsBytes : Try.prog.cellsOf 23 = 1 := by kernel_rfl

theorem le_flatten {L : List (List UInt8)} {i : Nat} (hi : i < L.length) : L[i].length ≤ L.flatten.length := by
  induction L generalizing i with
  | nil => simp at hi
  | cons x L ih =>
    cases i with
    | zero => simp
    | succ i =>
      have := ih (i := i) (by simpa using hi)
      simp only [List.getElem_cons_succ, List.flatten_cons, List.length_append]
      omega

section
variable {H : Type} {enc : TypeId × Value → H} {W : World} {held : Bool}

theorem bulk_ints (k : IntKind) (l : List Int) : Rows.uptoBulkAll (lits (H := H) k l) = l.length := by
  induction l with
  | nil => rfl
  | cons x r ih =>
    show Rows.uptoBulk (.lit (.int k x)) + Rows.uptoBulkAll (lits k r) = _
    rw [ih, Rows.uptoBulk]
    · simp; omega
    · intro bytes h; cases h
theorem bulk_row (k : IntKind) (A : Option Addr) (n : Nat) (zs : List Int) (h : A = none → n = 0) (hn : n ≤ zs.length) : n + 1 ≤ Rows.uptoBulk (intRow (H := H) k A n zs) := by
  cases A with
  | none => rw [h rfl]; simp [intRow, Rows.uptoBulk]
  | some a =>
    show n + 1 ≤ Rows.uptoBulk (.slice (lits k (zs.take n)) (lits k (zs.drop n)))
    rw [Rows.uptoBulk, bulk_ints, List.length_take]
    omega
theorem bulk_rows (k : IntKind) (A : Nat → Option Addr) (Ln : Nat → Nat) (Z : Nat → List Int) (R : Nat → List UInt8) (l : List Nat) (h : ∀ r ∈ l, (A r = none → Ln r = 0) ∧ Ln r ≤ (Z r).length ∧ (R r).length = Ln r) :
    (l.map R).flatten.length + l.length ≤ Rows.uptoBulkAll (l.map fun r => intRow (H := H) k (A r) (Ln r) (Z r)) := by
  induction l with
  | nil => simp [Rows.uptoBulkAll]
  | cons x l ih =>
    have h1 := ih (fun r hr => h r (List.mem_cons_of_mem _ hr))
    obtain ⟨a1, a2, a3⟩ := h x (List.mem_cons_self ..)
    have h2 := bulk_row (H := H) k (A x) (Ln x) (Z x) a1 a2
    simp only [List.map_cons, List.flatten_cons, List.length_append, List.length_cons, Rows.uptoBulkAll]
    omega

set_option maxRecDepth 100000 in
theorem open_rowsU {r : Reach} {b0 : Nat} {v : Value} {d : DataW H} {p : List MemPlace} (hv : Value.okWide Try.prog W r b0 22 v) (h : DataW.Trod enc Try.prog W 0 (fun _ => true) held 22 v d p) (hb : Rows.uptoBulk d ≤ 1048576) :
    ∃ L : List (List UInt8), IsBB W v L ∧ L.flatten.length ≤ 1048576 := by
  obtain ⟨a0, len0, cap0, rfl⟩ := okWide_slice Try.underlying22 hv
  obtain ⟨fuel, hf⟩ := h
  rcases open_int_rows Try.underlying22 Try.underlying23 Try.underlying5 cellsBytes cellsByte hf with ⟨hc, hx⟩ | ⟨a, len, cap, A, Ln, C, Z, hc, _, hl, hm, hx, hcell⟩
  · simp [Value.cells] at hc
    obtain ⟨rfl, rfl, rfl⟩ := hc
    exact ⟨[], ⟨none, 0, rfl, Nat.le_refl _, by simp, .inl rfl⟩, by simp⟩
  · simp [Value.cells] at hc
    obtain ⟨rfl, rfl, rfl⟩ := hc
    simp only [Prod.mk.injEq] at hx
    obtain ⟨rfl, _⟩ := hx
    obtain ⟨R, hR⟩ : ∃ R : Nat → List UInt8, R = fun r => ((Z r).take (Ln r)).map fun n => UInt8.ofNat n.toNat := ⟨_, rfl⟩
    have hlen : ∀ r, r < cap0 → (R r).length = Ln r := fun r hr => by
      obtain ⟨_, h1, _, h3, _⟩ := hcell r hr
      rw [hR]; simp; omega
    have hbk := bulk_rows (H := H) .u8 A Ln Z R (List.range len0) (fun r hr => by
      have hr' : r < cap0 := by have := List.mem_range.1 hr; omega
      obtain ⟨_, h1, _, h3, _, h5, _⟩ := hcell r hr'
      exact ⟨fun e => by have := h5 e; omega, by omega, hlen r hr'⟩)
    rw [Rows.uptoBulk] at hb
    rw [List.length_range] at hbk
    have hLL : ((List.range len0).map R).length = len0 := by simp
    have hsub : ∀ i (hi : i < ((List.range len0).map R).length), ((List.range len0).map R)[i].length ≤ ((List.range len0).map R).flatten.length := fun i hi => by
      exact le_flatten hi
    refine ⟨(List.range len0).map R, ⟨some a, cap0, by rw [hLL], by rw [hLL]; exact hl, by rw [hLL]; omega, ?_⟩, by omega⟩
    by_cases h0 : len0 = 0
    · left; simp [h0]
    · right
      obtain ⟨b, o, spot⟩ := a
      have g0 := (hcell 0 (by omega)).1
      have hspot : spot = none := by simpa [Addr.add] using World.cell?_spot g0
      subst hspot
      refine ⟨b, o, rfl, fun i hi => ?_⟩
      have hle := hsub i hi
      rw [hLL] at hi
      have e : ((List.range len0).map R)[i]'(by rw [hLL]; exact hi) = R i := by simp
      rw [e] at hle ⊢
      obtain ⟨g, h1, h2, h3, h4, h5, h6⟩ := hcell i (by omega)
      rw [Addr.add_lit] at g
      refine ⟨_, g, A i, C i, by rw [hlen i (by omega)], by rw [hlen i (by omega)]; exact h1, by omega, ?_⟩
      by_cases hn : Ln i = 0
      · left; exact List.eq_nil_of_length_eq_zero (by rw [hlen i (by omega)]; exact hn)
      · right
        cases hA : A i with
        | none => have := h5 hA; omega
        | some a' =>
          obtain ⟨_, hcc⟩ := h6 a' hA
          obtain ⟨b', o', spot'⟩ := a'
          have g0' := hcc 0 (by omega)
          have hspot' : spot' = none := by simpa [Addr.add] using World.cell?_spot g0'
          subst hspot'
          refine ⟨b', o', rfl, fun j hj => ?_⟩
          have hj' : j < Ln i := by rw [← hlen i (by omega)]; exact hj
          have g' := hcc j (by omega)
          rw [Addr.add_lit] at g'
          have hb := bounds_u8 (h4 (Z i)[j] (List.getElem_mem (by omega)))
          have e2 : (R i)[j] = UInt8.ofNat ((Z i)[j]'(by omega)).toNat := by simp [hR]
          rw [g', e2, getD_at (by omega)]
          congr 2
          rw [toNat_of (by omega)]
          omega

end
end Go.Proofs.Ytcdnppiigejjgaa
