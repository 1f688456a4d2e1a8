/- Lists of numbers, of bytes, of texts that came in, opened as data; and how much such data may lay, by its bulk. -/
import Derived.Test.YtfjejobakknipaaBaseB
import Derived.Test.YtfjejobakknipaaOcG
import Derived.SliceStrings
import Derived.JoinedCond
namespace Go.Proofs.Ytfjejobakknipaa
open Go.ChangeShapes Go.WideShapes Go.ChangeAt Go.RowKit

theorem cellsStr : Try.prog.cellsOf 9 = 1 := by kernel_rfl

section
variable {H : Type} {enc : TypeId × Value → H} {W : World} {held : Bool}

theorem bulk_ints (k : IntKind) (l : List Int) : Rows.uptoBulkAll (lits (H := H) k l) = l.length := by
  induction l with
  | nil => rfl
  | cons x r ih =>
    show Rows.uptoBulk (.lit (.int k x)) + Rows.uptoBulkAll (lits k r) = _
    rw [ih, Rows.uptoBulk]
    · simp; omega
    · intro bytes h; cases h
theorem bulk_texts (l : List ByteArray) : (textsL l).length ≤ 10 * Rows.uptoBulkAll (strs (H := H) l) ∧ l.length ≤ Rows.uptoBulkAll (strs (H := H) l) := by
  induction l with
  | nil => exact ⟨Nat.le_refl _, Nat.le_refl _⟩
  | cons x r ih =>
    have e : Rows.uptoBulkAll (strs (H := H) (x :: r)) = (x.size + 1) + Rows.uptoBulkAll (strs (H := H) r) := by
      show Rows.uptoBulk (.lit (.string x.data.toList)) + Rows.uptoBulkAll (strs r) = _
      rw [Rows.uptoBulk, Array.length_toList]
      rfl
    have h2 : (textsL (x :: r)).length = (putL x.size).length + x.size + (textsL r).length := by
      show (textL x ++ textsL r).length = _
      rw [List.length_append, textL_length]
    have h3 : (putL x.size).length ≤ 9 + x.size := by
      by_cases hx : x.size < 9223372036854775808
      · have := putL_len9 hx; omega
      · have : ∀ n : Nat, (putL n).length ≤ n + 1 := by
          intro n
          induction n using Nat.strongRecOn with
          | ind n ih =>
            by_cases h : n < 128
            · rw [putL_lt h]; simp
            · rw [putL_ge h]
              have := ih (n / 128) (by omega)
              simp; omega
        have := this x.size
        omega
    rw [e, h2]
    have := ih.1
    have := ih.2
    simp
    omega
theorem puts_len (d : List Int) (hd : ∀ x ∈ d, x < 9223372036854775808) : (putsL d).length ≤ 9 * d.length := by
  induction d with
  | nil => simp [putsL]
  | cons x r ih =>
    have h1 := ih (fun y hy => hd y (List.mem_cons_of_mem _ hy))
    have h2 := hd x (List.mem_cons_self ..)
    have h3 := putL_len9 (n := x.toNat) (by omega)
    show (putL x.toNat ++ putsL r).length ≤ _
    rw [List.length_append, List.length_cons]
    omega

set_option maxRecDepth 100000 in
theorem open_intsU {r : Reach} {b0 : Nat} {v : Value} {d : DataW H} {p : List MemPlace} (hv : Value.okWide Try.prog W r b0 23 v) (h : DataW.Trod enc Try.prog W 0 (fun _ => true) held 23 v d p) :
    ∃ D : List Int, (∃ (a : Option Addr) (cap : Nat), v = .slice a D.length cap ∧ D.length ≤ cap ∧ (D = [] ∨ ∃ b o, a = some ⟨b, o, none⟩ ∧ IntsAt W b o D)) ∧ (∀ x ∈ D, x < 9223372036854775808) ∧
      ((d = .nil ∧ D = []) ∨ ∃ sp, d = .slice (lits .i64 D) sp) := by
  obtain ⟨a0, len0, cap0, rfl⟩ := okWide_slice Try.underlying23 hv
  obtain ⟨fuel, hf⟩ := h
  rcases open_ints Try.underlying23 Try.underlying3 cellsInt hf with ⟨hc, hx⟩ | ⟨a, len, cap, zs, hc, _, hl, hm, hz, hx, hcell, hwz⟩
  · simp [Value.cells] at hc
    obtain ⟨rfl, rfl, rfl⟩ := hc
    simp only [Prod.mk.injEq] at hx
    exact ⟨[], ⟨none, 0, rfl, Nat.le_refl _, .inl rfl⟩, by simp, .inl ⟨hx.1, rfl⟩⟩
  · simp [Value.cells] at hc
    obtain ⟨rfl, rfl, rfl⟩ := hc
    simp only [Prod.mk.injEq] at hx
    have hlm : len0 ≤ zs.length := by rw [hz]; simp; omega
    have hD : (zs.take len0).length = len0 := by simp; omega
    refine ⟨zs.take len0, ⟨some a, cap0, by rw [hD], by rw [hD]; exact hl, ?_⟩, fun x hx => (bounds_int (hwz x (List.mem_of_mem_take hx))).2, .inr ⟨_, hx.1⟩⟩
    by_cases h0 : len0 = 0
    · left; simp [h0]
    · right
      obtain ⟨b, o, spot⟩ := a
      have g0 := hcell 0 (by omega)
      have hspot : spot = none := by simpa [Addr.add] using World.cell?_spot g0
      subst hspot
      refine ⟨b, o, rfl, fun i hi => ?_⟩
      rw [hD] at hi
      have g := hcell i (by omega)
      rw [Addr.add_lit] at g
      rw [g, List.getElem_take, getD_at (by omega)]

set_option maxRecDepth 100000 in
theorem open_textsU {r : Reach} {b0 : Nat} {v : Value} {d : DataW H} {p : List MemPlace} (hv : Value.okWide Try.prog W r b0 24 v) (h : DataW.Trod enc Try.prog W 0 (fun _ => true) held 24 v d p) :
    ∃ D : List ByteArray, (∃ (a : Option Addr) (cap : Nat), v = .slice a D.length cap ∧ D.length ≤ cap ∧ (D = [] ∨ ∃ b o, a = some ⟨b, o, none⟩ ∧ TextsAt W b o D)) ∧
      ((d = .nil ∧ D = []) ∨ ∃ sp, d = .slice (strs D) sp) := by
  obtain ⟨a0, len0, cap0, rfl⟩ := okWide_slice Try.underlying24 hv
  obtain ⟨fuel, hf⟩ := h
  rcases open_strings Try.underlying24 Try.underlying9 cellsStr hf with ⟨hc, hx⟩ | ⟨a, len, cap, zs, hc, _, hl, hm, hz, hx, hcell, hwz⟩
  · simp [Value.cells] at hc
    obtain ⟨rfl, rfl, rfl⟩ := hc
    simp only [Prod.mk.injEq] at hx
    exact ⟨[], ⟨none, 0, rfl, Nat.le_refl _, .inl rfl⟩, .inl ⟨hx.1, rfl⟩⟩
  · simp [Value.cells] at hc
    obtain ⟨rfl, rfl, rfl⟩ := hc
    simp only [Prod.mk.injEq] at hx
    have hlm : len0 ≤ zs.length := by rw [hz]; simp; omega
    have hD : (zs.take len0).length = len0 := by simp; omega
    refine ⟨zs.take len0, ⟨some a, cap0, by rw [hD], by rw [hD]; exact hl, ?_⟩, .inr ⟨_, hx.1⟩⟩
    by_cases h0 : len0 = 0
    · left; simp [h0]
    · right
      obtain ⟨b, o, spot⟩ := a
      have g0 := hcell 0 (by omega)
      have hspot : spot = none := by simpa [Addr.add] using World.cell?_spot g0
      subst hspot
      refine ⟨b, o, rfl, fun i hi => ?_⟩
      rw [hD] at hi
      have g := hcell i (by omega)
      rw [Addr.add_lit] at g
      rw [g, List.getElem_take, List.getD_eq_getElem?_getD, List.getElem?_eq_getElem (by omega), Option.getD_some]

set_option maxRecDepth 100000 in
theorem open_bytesU {r : Reach} {b0 : Nat} {v : Value} {d : DataW H} {p : List MemPlace} (hv : Value.okWide Try.prog W r b0 22 v) (h : DataW.Trod enc Try.prog W 0 (fun _ => true) held 22 v d p) :
    ∃ D : List UInt8, (∃ (a : Option Addr) (cap : Nat), v = .slice a D.length cap ∧ D.length ≤ cap ∧ (D = [] ∨ ∃ b o, a = some ⟨b, o, none⟩ ∧ BytesAt W b o D)) ∧
      ((d = .nil ∧ D = []) ∨ ∃ zs sp, d = .slice (lits .u8 zs) sp ∧ zs.length = D.length) := by
  obtain ⟨D, h1, h2⟩ := open_bytesV hv h
  refine ⟨D, h1, ?_⟩
  obtain ⟨a0, len0, cap0, rfl⟩ := okWide_slice Try.underlying22 hv
  obtain ⟨fuel, hf⟩ := h
  rcases h2 with h2 | ⟨els, sp, rfl, he⟩
  · exact .inl h2
  · rcases open_ints Try.underlying22 Try.underlying5 cellsByte hf with ⟨hc, hx⟩ | ⟨a, len, cap, zs, hc, _, hl, hm, hz, hx, hcell, hwz⟩
    · simp only [Prod.mk.injEq] at hx
      cases hx.1
    · simp only [Prod.mk.injEq] at hx
      have hx1 := hx.1
      injection hx1 with e1 e2
      refine .inr ⟨zs.take len, sp, by rw [e1], ?_⟩
      rw [← he, e1]
      simp [lits]

end
end Go.Proofs.Ytfjejobakknipaa
