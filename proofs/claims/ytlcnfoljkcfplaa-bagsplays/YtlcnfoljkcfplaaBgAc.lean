/- Calls as data: lists of them in memory; how many parcels a net has, call by call. -/
import Derived.Test.YtlcnfoljkcfplaaBgT
namespace Go.Proofs.Ytlcnfoljkcfplaa
open Go.RowKit
set_option linter.unusedVariables false
set_option linter.unusedSimpArgs false

structure Ac where
  kind : Int
  fr : Int
  to : Int
  i : Int
  at_ : Int
  mask : Int
  p : List UInt8
def acCells (a : Ac) (pv : Value) : List Value := [.int .i64 a.kind, .int .i64 a.fr, .int .i64 a.to, .int .i64 a.i, .int .i64 a.at_, .int .i64 a.mask, pv]
def AcOk (a : Ac) : Prop := a.p.length ≤ 140737488351232 ∧ -9223372036854775808 ≤ a.mask ∧ a.mask < 9223372036854775808
/-- From block b, offset o on lies this call. -/
def AcAt (w : World) (b o : Nat) (a : Ac) : Prop := ∃ pv, (∀ j u, (acCells a pv)[j]? = some u → w.cell? ⟨b, o + j, none⟩ = some u) ∧ IsB w pv a.p ∧ AcOk a
theorem AcAt.lt {w : World} {b o : Nat} {a : Ac} (h : AcAt w b o a) : b < w.heap.size := by
  obtain ⟨pv, h, _⟩ := h
  have h0 := h 0 _ rfl
  rcases Nat.lt_or_ge b w.heap.size with h' | h'
  · exact h'
  · simp [World.cell?, h'] at h0
theorem AcAt.below {w w' : World} {b o : Nat} {a : Ac} (h : AcAt w b o a) (hb : Below w.heap.size w w') : AcAt w' b o a := by
  have hlt := h.lt
  obtain ⟨pv, h, hi, hs⟩ := h
  exact ⟨pv, fun j u hj => (hb.cell (p := ⟨b, o + j, none⟩) hlt).trans (h j u hj), hi.below hb, hs⟩
def IsA (w : World) (v : Value) (L : List Ac) : Prop :=
  ∃ (a : Option Addr) (cap : Nat), v = .slice a L.length cap ∧ L.length ≤ cap ∧ L.length ≤ 281474976710656 ∧ (L = [] ∨ ∃ b o, a = some ⟨b, o, none⟩ ∧ ∀ i (h : i < L.length), AcAt w b (o + i * 7) L[i])
theorem IsA.below {w w' : World} {v : Value} {L : List Ac} (h : IsA w v L) (hb : Below w.heap.size w w') : IsA w' v L := by
  obtain ⟨a, cap, e, hc, hl, h⟩ := h
  exact ⟨a, cap, e, hc, hl, h.imp id fun ⟨b, o, e2, hr⟩ => ⟨b, o, e2, fun i hi => (hr i hi).below hb⟩⟩
theorem IsA.non {w : World} (cap : Nat) : IsA w (.slice none 0 cap) [] := ⟨none, cap, rfl, Nat.zero_le _, by simp, .inl rfl⟩

def sumN (g : Nat → Nat) : Nat → Nat
  | 0 => 0
  | k + 1 => sumN g k + g k
theorem sumN_congr {g g' : Nat → Nat} {k : Nat} (h : ∀ x, x < k → g x = g' x) : sumN g k = sumN g' k := by
  induction k with
  | zero => rfl
  | succ k ih => rw [sumN, sumN, ih (fun x hx => h x (by omega)), h k (by omega)]
theorem sumN_change {g g' : Nat → Nat} {k j : Nat} (hj : j < k) (h : ∀ x, x < k → x ≠ j → g' x = g x) : sumN g' k + g j = sumN g k + g' j := by
  induction k with
  | zero => omega
  | succ k ih =>
    rw [sumN, sumN]
    by_cases hk : j = k
    · subst hk
      rw [sumN_congr (fun x hx => h x (by omega) (by omega))]
      omega
    · have := ih (by omega) (fun x hx hn => h x (by omega) hn)
      have := h k (by omega) (fun e => hk e.symm)
      omega
/-- How many parcels a net has. -/
def tot (n : Nat) (B : Nat → List Pc) : Nat := sumN (fun f => sumN (fun t => wt n B f t) n) n
theorem sumW_append (D E : List (Nat × Nat × Nat)) : sumW (D ++ E) = sumW D + sumW E := by unfold sumW; rw [List.map_append, List.sum_append]
theorem wrow_sum (n : Nat) (B : Nat → List Pc) (f k : Nat) : sumW (wrow n B f k) = sumN (fun t => wt n B f t) k := by
  induction k with
  | zero => rfl
  | succ k ih =>
    rw [wrow_succ, sumW_append, ih, sumN]
    congr 1
    unfold wone
    by_cases h : 0 < wt n B f k
    · rw [if_pos h]; simp [sumW]
    · rw [if_neg h]; simp [sumW]; omega
theorem wall_sum (n : Nat) (B : Nat → List Pc) (k : Nat) : sumW (wall n B k) = sumN (fun f => sumN (fun t => wt n B f t) n) k := by
  induction k with
  | zero => rfl
  | succ k ih => rw [wall_succ, sumW_append, ih, sumN, wrow_sum]
theorem tot_is (n : Nat) (B : Nat → List Pc) : sumW (wall n B n) = tot n B := wall_sum n B n
theorem plc_inj {n f t f' t' : Nat} (ht : t < n) (ht' : t' < n) (h : f * n + t = f' * n + t') : f = f' ∧ t = t' := by
  have hn : 0 < n := by omega
  have h1 : (f * n + t) / n = f := by rw [Nat.mul_comm, Nat.mul_add_div hn, Nat.div_eq_of_lt ht]; rfl
  have h2 : (f' * n + t') / n = f' := by rw [Nat.mul_comm, Nat.mul_add_div hn, Nat.div_eq_of_lt ht']; rfl
  have h3 : f = f' := by rw [← h1, ← h2, h]
  subst h3
  exact ⟨rfl, by omega⟩
theorem tot_upd {n : Nat} (B : Nat → List Pc) {f t : Int} (hl : linkE n f t = 0) (b : List Pc) : tot n (upd B (plc n f t) b) + (B (plc n f t)).length = tot n B + b.length := by
  obtain ⟨⟨h1, h2⟩, ⟨h3, h4⟩, h5⟩ := linkE_ok hl
  obtain ⟨a, rfl⟩ := Int.eq_ofNat_of_zero_le h1
  obtain ⟨c, rfl⟩ := Int.eq_ofNat_of_zero_le h3
  have ha : a < n := by omega
  have hc : c < n := by omega
  have hac : ¬ a = c := by omega
  have hp : plc n (a : Int) (c : Int) = a * n + c := by unfold plc; simp
  rw [hp]
  have hw : ∀ f' t', f' < n → t' < n → ¬ (f' = a ∧ t' = c) → wt n (upd B (a * n + c) b) f' t' = wt n B f' t' := fun f' t' hf ht hne => by
    unfold wt
    by_cases he : f' = t'
    · rw [if_pos he, if_pos he]
    · rw [if_neg he, if_neg he, upd_other B b (fun e => hne (plc_inj ht hc e))]
  have hr := sumN_change (g := fun t => wt n B a t) (g' := fun t => wt n (upd B (a * n + c) b) a t) hc (fun x hx hn => hw a x ha hx (fun h => hn h.2))
  have ht := sumN_change (g := fun f => sumN (fun t => wt n B f t) n) (g' := fun f => sumN (fun t => wt n (upd B (a * n + c) b) f t) n) ha (fun x hx hn => sumN_congr (fun t ht => hw x t hx ht (fun h => hn h.1)))
  have e1 : wt n B a c = (B (a * n + c)).length := by unfold wt; rw [if_neg hac]
  have e2 : wt n (upd B (a * n + c) b) a c = b.length := by unfold wt; rw [if_neg hac, upd_same]
  (try simp only at hr ht)
  rw [e1, e2] at hr
  unfold tot
  omega
theorem tot_send (n : Nat) (B : Nat → List Pc) (f t : Int) (p : List UInt8) : tot n (sendN n B f t p) = tot n B + (if sendE n B f t p = 0 then 1 else 0) := by
  unfold sendE sendN putE putN
  by_cases hl : linkE n f t = 0
  · by_cases h2 : 65545 < p.length
    · rw [if_pos hl, if_pos h2, if_neg (fun h => h.2 h2)]; simp
    · rw [if_pos hl, if_neg h2, if_pos ⟨hl, h2⟩]
      by_cases h3 : (B (plc n f t)).length < 256
      · rw [if_pos h3, if_pos h3]
        have := tot_upd B hl (B (plc n f t) ++ [(p, false)])
        rw [List.length_append, List.length_singleton] at this
        simp
        omega
      · rw [if_neg h3, if_neg h3]; simp
  · rw [if_neg hl, if_neg hl, if_neg (fun h => hl h.1)]; rfl
theorem tot_lose (n : Nat) (B : Nat → List Pc) (f t i : Int) : tot n (loseN n B f t i) + (if withE n B f t i = 0 then 1 else 0) = tot n B := by
  unfold loseN
  by_cases he : withE n B f t i = 0
  · obtain ⟨hl, h1, h2⟩ := withE_ok he
    rw [if_pos he, if_pos he]
    have := tot_upd B hl ((B (plc n f t)).eraseIdx i.toNat)
    rw [List.length_eraseIdx_of_lt (by omega)] at this
    omega
  · rw [if_neg he, if_neg he]; rfl
theorem tot_dbl (n : Nat) (B : Nat → List Pc) (f t i : Int) : tot n (dblN n B f t i) = tot n B + (if dblE n B f t i = 0 then 1 else 0) := by
  unfold dblE dblN putE putN
  by_cases he : withE n B f t i = 0
  · obtain ⟨hl, h1, h2⟩ := withE_ok he
    rw [if_pos he, if_pos he]
    by_cases h3 : (B (plc n f t)).length < 256
    · rw [if_pos h3, if_pos h3]
      have := tot_upd B hl (B (plc n f t) ++ [pcAt n B f t i])
      rw [List.length_append, List.length_singleton] at this
      simp
      omega
    · rw [if_neg h3, if_neg h3]; simp
  · rw [if_neg he, if_neg he, if_neg he]; rfl
theorem tot_none (n : Nat) : tot n noB = 0 := by
  have h0 : ∀ k, sumN (fun _ => 0) k = 0 := fun k => by induction k with | zero => rfl | succ k ih => rw [sumN, ih]
  unfold tot
  have : (fun f => sumN (fun t => wt n noB f t) n) = fun _ => 0 := by
    funext f
    have : (fun t => wt n noB f t) = fun _ => 0 := by funext t; unfold wt noB; split <;> rfl
    rw [this, h0]
  rw [this, h0]
/-- A net made since w. -/
def NetN (w : World) (nb n : Nat) (B : Nat → List Pc) (F : Nat → Prop) (W : World) : Prop := NetOk F W nb n B ∧ (∀ k, F k → w.heap.size ≤ k) ∧ Below w.heap.size w W
section
variable {w W W' : World} {nb n : Nat} {B B' : Nat → List Pc} {F F' : Nat → Prop}
theorem NetN.below (h : NetN w nb n B F W) (hb : Below W.heap.size W W') : NetN w nb n B F W' := ⟨h.1.below hb, h.2.1, h.2.2.trans (hb.mono h.2.2.size)⟩
theorem NetN.s (h : NetN w nb n B F W) (hs : NetS F nb n W W' B') : NetN w nb n B' F W' := ⟨hs.1, h.2.1, h.2.2.trans (hs.2.below h.2.1 h.2.2.size)⟩
theorem NetN.p (h : NetN w nb n B F W) (hn : NetOk F' W' nb n B') (hF : ∀ k, F' k → F k ∨ W.heap.size ≤ k) (ht : Touch F W W') : NetN w nb n B' F' W' := ⟨hn, fun k hk => (hF k hk).elim (h.2.1 k) (fun h2 => Nat.le_trans h.2.2.size h2), h.2.2.trans (ht.below h.2.1 h.2.2.size)⟩
end

end Go.Proofs.Ytlcnfoljkcfplaa
