/- Plainly: all links' frames together are the net's. -/
import Derived.Test.YtlcnfoljkcfplaaDsR
namespace Go.Proofs.Ytlcnfoljkcfplaa
set_option linter.unusedVariables false
set_option linter.unusedSimpArgs false

/-- The sum of f k, k below n. -/
def sumR (f : Nat → Nat) : Nat → Nat
  | 0 => 0
  | n + 1 => sumR f n + f n
theorem sumR_congr {f g : Nat → Nat} : ∀ (n : Nat), (∀ k, k < n → f k = g k) → sumR f n = sumR g n
  | 0, _ => rfl
  | n + 1, h => by rw [sumR, sumR, sumR_congr n (fun k hk => h k (by omega)), h n (by omega)]
theorem sumR_add (f g : Nat → Nat) : ∀ (n : Nat), sumR (fun k => f k + g k) n = sumR f n + sumR g n
  | 0 => rfl
  | n + 1 => by rw [sumR, sumR, sumR, sumR_add f g n]; omega
theorem sumR_zero : ∀ (n : Nat), sumR (fun _ => 0) n = 0
  | 0 => rfl
  | n + 1 => by rw [sumR, sumR_zero n]
theorem sumR_one (a c : Nat) : ∀ (n : Nat), sumR (fun k => if k = a then c else 0) n = if a < n then c else 0
  | 0 => by simp [sumR]
  | n + 1 => by
    rw [sumR, sumR_one a c n]
    by_cases h1 : a < n
    · rw [if_pos h1, if_neg (by omega), if_pos (by omega)]
      omega
    · by_cases h2 : n = a
      · rw [if_neg h1, if_pos h2, if_pos (by omega)]
        omega
      · rw [if_neg h1, if_neg h2, if_neg (by omega)]
theorem sumW_row (n : Nat) (B : Nat → List Pc) (f : Nat) : ∀ (k : Nat), sumW (wrow n B f k) = sumR (wt n B f) k
  | 0 => rfl
  | k + 1 => by
    rw [wrow_succ, sumW_append, sumW_row n B f k, sumR]
    congr 1
    unfold wone
    by_cases h : 0 < wt n B f k
    · rw [if_pos h]; simp [sumW]
    · rw [if_neg h]; simp [sumW]; omega
theorem sumW_wall (n : Nat) (B : Nat → List Pc) : ∀ (k : Nat), sumW (wall n B k) = sumR (fun f => sumR (wt n B f) n) k
  | 0 => rfl
  | k + 1 => by rw [wall_succ, sumW_append, sumW_wall n B k, sumW_row, sumR]
theorem wait_cons (s : Sn) (L : List Sn) (f t : Int) : waitL (s :: L) f t = waitL L f t + if onL f t s = true then 1 else 0 := by
  show (linkL (s :: L) f t).length = (linkL L f t).length + _
  unfold linkL
  rw [List.filter_cons]
  split <;> simp
theorem sum_waits (n : Nat) : ∀ (L : List Sn), (∀ s ∈ L, linkE n s.fr s.to = 0) → sumR (fun f => sumR (fun t => waitL L (f : Int) (t : Int)) n) n = L.length
  | [], _ => by
    have e : ∀ f, f < n → sumR (fun t => waitL [] (f : Int) (t : Int)) n = (fun _ => 0) f := fun f _ => sumR_zero n
    rw [sumR_congr n e]
    exact sumR_zero n
  | s :: L, h => by
    obtain ⟨⟨a1, a2⟩, ⟨b1, b2⟩, _⟩ := linkE_ok (h s (by simp))
    have ih := sum_waits n L (fun x hx => h x (by simp [hx]))
    have e1 : ∀ f, f < n → sumR (fun t => waitL (s :: L) (f : Int) (t : Int)) n = sumR (fun t => waitL L (f : Int) (t : Int)) n + if f = s.fr.toNat then 1 else 0 := fun f hf => by
      rw [sumR_congr (g := fun t => waitL L (f : Int) (t : Int) + if t = s.to.toNat then (if f = s.fr.toNat then 1 else 0) else 0) n (fun t ht => by
        rw [wait_cons]
        congr 1
        by_cases h1 : onL (f : Int) (t : Int) s = true
        · have h2 := (onL_iff _ _ _).1 h1
          rw [if_pos h1, if_pos (by omega), if_pos (by omega)]
        · have h2 : ¬ (s.fr = (f : Int) ∧ s.to = (t : Int)) := fun q => h1 ((onL_iff _ _ _).2 q)
          rw [if_neg h1]
          by_cases h3 : t = s.to.toNat
          · rw [if_pos h3, if_neg (by omega)]
          · rw [if_neg h3]), sumR_add, sumR_one, if_pos (by omega)]
    rw [sumR_congr n e1, sumR_add, ih, sumR_one, if_pos (by omega), List.length_cons]
/-- As many parcels as frames. -/
theorem Rel.total {n : Nat} {B : Nat → List Pc} {L : List Sn} (h : Rel n B L) : sumW (wall n B n) = L.length := by
  rw [sumW_wall, sumR_congr n (fun f hf => sumR_congr (g := fun t => waitL L (f : Int) (t : Int)) n (fun t ht => (h.wt hf ht).symm))]
  exact sum_waits n L h.on

end Go.Proofs.Ytlcnfoljkcfplaa
