/- The document's Place. -/
import Derived.Test.YtmclnlpbogmbnaaRdL
namespace Go.Proofs.Ytmclnlpbogmbnaa
open Go.RowKit
set_option linter.unusedVariables false
set_option linter.unusedSimpArgs false

/-- The place of a stamp; -1: there is none. -/
def PlR (l : List St) (a : St) (n : Int) : Prop := (∃ p q, l = p ++ a :: q ∧ a ∉ p ∧ n = (p.length : Int)) ∨ (a ∉ l ∧ n = -1)
theorem nodup_split {l p q p2 q2 : List St} {a : St} (h1 : l = p ++ a :: q) (h2 : l = p2 ++ a :: q2) (n1 : a ∉ p) (n2 : a ∉ p2) : p = p2 ∧ q = q2 := by
  subst h1
  induction p generalizing p2 with
  | nil =>
    cases p2 with
    | nil => simp at h2; exact ⟨rfl, h2⟩
    | cons x p2 => simp at h2; rw [h2.1] at n2; simp at n2
  | cons x p ih =>
    cases p2 with
    | nil => simp at h2; rw [h2.1] at n1; simp at n1
    | cons y p2 =>
      simp only [List.cons_append, List.cons.injEq] at h2
      obtain ⟨e, e2⟩ := ih (p2 := p2) (fun h => n1 (by simp [h])) (fun h => n2 (by simp [h])) h2.2
      exact ⟨by rw [h2.1, e], e2⟩

set_option maxHeartbeats 2000000 in
theorem refPlace_any (G : Nat → Prop) (v : Value) (L : List St) (s : St) (w : World) (h1 : LsE stCells 2 G w v L) :
    Calls Try.prog 20 #[v, .agg #[.int .i64 s.1, .int .i64 s.2]] w fun e w' => ∃ n, e = .returned (.int .i64 n) ∧ PlR L s n ∧ Below w.heap.size w w' := by
  obtain ⟨c, r⟩ := s
  obtain ⟨a1, c1, rfl, hc1, hl1, r1⟩ := h1
  have hbox : Below w.heap.size w (w.alloc (.cells #[.int .i64 c, .int .i64 r] 30)) := (Below.refl _ _).alloc (Nat.le_refl _) _
  go_enter Try.func20, Try.ntmps20
  go_wp2
  go_loopw [5] (fun i wr => ∃ k : Nat, k ≤ L.length ∧ i = .int .i64 (k : Int) ∧ Hid ((c, r) ∉ L.take k) ∧ Below (w.heap.size + 1) (w.alloc (.cells #[.int .i64 c, .int .i64 r] 30)) wr) (fun i _ => L.length - (intOf i).toNat)
  case atStart => exact ⟨0, Nat.zero_le _, rfl, by (show _ ∉ _; simp), Below.refl _ _⟩
  case round =>
    obtain ⟨k, hk, rfl, HT, hb⟩ := hrel
    have hbw : Below w.heap.size w wr := hbox.trans (hb.mono (by omega))
    have y1 : wr.cell? ⟨w.heap.size, 0, none⟩ = some (.int .i64 c) := (hb.cell (p := ⟨w.heap.size, 0, none⟩) (by show w.heap.size < _; omega)).trans (by simp [go_sem])
    have y2 : wr.cell? ⟨w.heap.size, 1, none⟩ = some (.int .i64 r) := (hb.cell (p := ⟨w.heap.size, 1, none⟩) (by show w.heap.size < _; omega)).trans (by simp [go_sem])
    by_cases hlt : k < L.length
    · obtain ⟨b1, o1, rfl, hg1, hbl, g1⟩ := r1.resolve_left (by intro e; subst e; simp at hlt)
      have x11 : wr.cell? ⟨b1, o1 + k * 2, none⟩ = some (.int .i64 L[k].1) := (hbw.cell (p := ⟨b1, _, none⟩) hbl).trans (g1 k hlt 0 _ rfl)
      have x12 : wr.cell? ⟨b1, o1 + k * 2 + 1, none⟩ = some (.int .i64 L[k].2) := (hbw.cell (p := ⟨b1, _, none⟩) hbl).trans (g1 k hlt 1 _ rfl)
      have k1 : (k : Int) < (L.length : Int) := by omega
      have k0 : (0 : Int) ≤ (k : Int) := by omega
      by_cases hx : L[k] = (c, r)
      · have HM : Hid (PlR L (c, r) (k : Int)) := .inl ⟨L.take k, L.drop (k + 1), by (rw [← hx, List.getElem_cons_drop]; exact (List.take_append_drop k L).symm), HT.out, by simp; omega⟩
        rw [hx] at x11 x12
        clear hx g1 r1
        go_wp2
        go_quiet (fail)
        go_wp2
        go_ret
        exact ⟨_, rfl, HM.out, below_drewN hbw _⟩
      · have HM : Hid ((c, r) ∉ L.take (k + 1)) := by
          show _ ∉ _
          rw [List.take_succ_eq_append_getElem hlt, List.mem_append]
          rintro (h | h)
          · exact HT.out h
          · simp at h; exact hx h.symm
        by_cases hf : L[k].1 = c
        · have q2 : (L[k].2 == r) = false := by
            rw [beq_eq_false_iff_ne]; intro e; exact hx (Prod.ext hf e)
          rw [hf] at x11
          clear hf hx g1 r1
          go_wp2
          go_quiet (fail)
          go_wp2
          go_roundw
          case rel => exact ⟨k + 1, by omega, by go_num, HM, below_drewN hb _⟩
          case measure => simp [intOf]; omega
        · have q2 : (L[k].1 == c) = false := by rw [beq_eq_false_iff_ne]; exact hf
          clear hf hx g1 r1
          go_wp2
          go_quiet (fail)
          go_wp2
          go_roundw
          case rel => exact ⟨k + 1, by omega, by go_num, HM, below_drewN hb _⟩
          case measure => simp [intOf]; omega
    · have he : Hid (PlR L (c, r) (-1)) := .inr ⟨by
        have h := HT.out
        rw [List.take_of_length_le (by omega)] at h
        exact h, rfl⟩
      go_wp2
      go_ret
      exact ⟨_, rfl, he.out, hbw⟩

end Go.Proofs.Ytmclnlpbogmbnaa
