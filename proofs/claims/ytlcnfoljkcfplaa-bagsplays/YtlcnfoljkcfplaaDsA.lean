/- The document's net: frames that were sent, as data and in memory; Link, Waiting, Place. -/
import Derived.Test.YtlcnfoljkcfplaaBgB
namespace Go.Proofs.Ytlcnfoljkcfplaa
open Go.RowKit
set_option linter.unusedVariables false
set_option linter.unusedSimpArgs false

structure Sn where
  fr : Int
  to : Int
  p : List UInt8
  sp : Bool
def snCells (s : Sn) (pv : Value) : List Value := [.int .i64 s.fr, .int .i64 s.to, pv, .bool s.sp]
/-- From block b, offset o on lies this frame. -/
def SnAt (w : World) (b o : Nat) (s : Sn) : Prop := ∃ pv, (∀ j u, (snCells s pv)[j]? = some u → w.cell? ⟨b, o + j, none⟩ = some u) ∧ IsB w pv s.p
theorem SnAt.lt {w : World} {b o : Nat} {s : Sn} (h : SnAt w b o s) : b < w.heap.size := by
  obtain ⟨pv, h, _⟩ := h
  have h0 := h 0 _ rfl
  rcases Nat.lt_or_ge b w.heap.size with h' | h'
  · exact h'
  · simp [World.cell?, h'] at h0
theorem SnAt.below {w w' : World} {b o : Nat} {s : Sn} (h : SnAt w b o s) (hb : Below w.heap.size w w') : SnAt w' b o s := by
  have hlt := h.lt
  obtain ⟨pv, h, hi⟩ := h
  exact ⟨pv, fun j u hj => (hb.cell (p := ⟨b, o + j, none⟩) hlt).trans (h j u hj), hi.below hb⟩
theorem SnAt.all {w : World} {b o : Nat} {s : Sn} (h : SnAt w b o s) : ∃ (a : Option Addr) (c : Nat), IsB w (.slice a s.p.length c) s.p ∧ w.cell? ⟨b, o, none⟩ = some (.int .i64 s.fr) ∧ w.cell? ⟨b, o + 1, none⟩ = some (.int .i64 s.to) ∧ w.cell? ⟨b, o + 2, none⟩ = some (.slice a s.p.length c) ∧ w.cell? ⟨b, o + 3, none⟩ = some (.bool s.sp) := by
  obtain ⟨pv, h, hi⟩ := h
  obtain ⟨a, c, e⟩ := hi.form
  subst e
  exact ⟨a, c, hi, h 0 _ rfl, h 1 _ rfl, h 2 _ rfl, h 3 _ rfl⟩
def IsS (w : World) (v : Value) (L : List Sn) : Prop :=
  ∃ (a : Option Addr) (cap : Nat), v = .slice a L.length cap ∧ L.length ≤ cap ∧ L.length ≤ 281474976710656 ∧ (L = [] ∨ ∃ b o, a = some ⟨b, o, none⟩ ∧ ∀ i (h : i < L.length), SnAt w b (o + i * 4) L[i])
theorem IsS.below {w w' : World} {v : Value} {L : List Sn} (h : IsS w v L) (hb : Below w.heap.size w w') : IsS w' v L := by
  obtain ⟨a, cap, e, hc, hl, h⟩ := h
  exact ⟨a, cap, e, hc, hl, h.imp id fun ⟨b, o, e2, hr⟩ => ⟨b, o, e2, fun i hi => (hr i hi).below hb⟩⟩
theorem IsS.form {w : World} {v : Value} {L : List Sn} (h : IsS w v L) : ∃ a cap, v = .slice a L.length cap := by obtain ⟨a, cap, e, _⟩ := h; exact ⟨a, cap, e⟩
/-- It is on the link from f to t. -/
def onL (f t : Int) (s : Sn) : Bool := decide (s.fr = f) && decide (s.to = t)
theorem onL_yes {f t : Int} {s : Sn} (h1 : s.fr = f) (h2 : s.to = t) : onL f t s = true := by simp [onL, h1, h2]
theorem onL_fr {f t : Int} {s : Sn} (h1 : s.fr ≠ f) : onL f t s = false := by simp [onL, h1]
theorem onL_to {f t : Int} {s : Sn} (h1 : s.to ≠ t) : onL f t s = false := by simp [onL, h1]
def waitL (L : List Sn) (f t : Int) : Nat := (L.filter (onL f t)).length
def placeF (f t i : Int) : List Sn → Int → Nat → Int
  | [], _, _ => -1
  | s :: r, n, k => if onL f t s = true then (if n = i then (k : Int) else placeF f t i r (n + 1) (k + 1)) else placeF f t i r n (k + 1)
/-- Where the link's frame number i stands among all. -/
def placeL (L : List Sn) (f t i : Int) : Int := placeF f t i L 0 0
theorem wait_next {L : List Sn} {k : Nat} (h : k < L.length) (f t : Int) : waitL (L.take (k + 1)) f t = waitL (L.take k) f t + (if onL f t L[k] = true then 1 else 0) := by
  unfold waitL
  rw [List.take_succ_eq_append_getElem h, List.filter_append, List.length_append]
  congr 1
  by_cases e : onL f t L[k] = true
  · simp [e]
  · simp [e]
theorem wait_le (L : List Sn) (f t : Int) : waitL L f t ≤ L.length := List.length_filter_le _ _

set_option maxRecDepth 100000 in
set_option maxHeartbeats 2000000 in
theorem refWaiting_any (N : Int) (v : Value) (L : List Sn) (f t : Int) (w : World) (h : IsS w v L) :
    Calls Try.prog 31 #[.agg #[.int .i64 N, v], .int .i64 f, .int .i64 t] w fun e w' => e = .returned (.int .i64 (waitL L f t : Int)) ∧ Below w.heap.size w w' := by
  obtain ⟨a1, c1, e1⟩ := h.form
  subst e1
  obtain ⟨W0, eW⟩ : ∃ X, X = w.alloc (.cells #[.int .i64 N, .slice a1 L.length c1] 30) := ⟨_, rfl⟩
  have hb : Below w.heap.size w W0 := by rw [eW]; exact (Below.refl _ _).alloc (Nat.le_refl _) _
  have HB : Hid (Below w.heap.size w W0) := hb
  have HS : Hid (IsS W0 (.slice a1 L.length c1) L) := h.below hb
  have x_0 : W0.cell? ⟨w.heap.size, 0, none⟩ = some (.int .i64 N) := by rw [cell_of_row _ _ _ _ _ _ (show W0.heap[w.heap.size]? = _ by rw [eW]; exact heap_alloc_new _ _)]; rfl
  have x_1 : W0.cell? ⟨w.heap.size, 1, none⟩ = some (.slice a1 L.length c1) := by rw [cell_of_row _ _ _ _ _ _ (show W0.heap[w.heap.size]? = _ by rw [eW]; exact heap_alloc_new _ _)]; rfl
  clear h hb
  go_enter Try.func31, Try.ntmps31
  go_wp2
  rw [← eW]
  clear eW
  go_loop [7, 8] (fun nv iv => ∃ k : Nat, k ≤ L.length ∧ nv = .int .i64 (waitL (L.take k) f t : Int) ∧ iv = .int .i64 (k : Int)) (fun _ iv => L.length - (intOf iv).toNat)
  case atStart => exact ⟨0, Nat.zero_le _, rfl, rfl⟩
  case round =>
    obtain ⟨k, hk, rfl, rfl⟩ := hrel
    obtain ⟨_, _, e, _, hll, hrow⟩ := HS.out
    cases e
    have hwl : waitL (L.take k) f t ≤ L.length := Nat.le_trans (wait_le _ _ _) (by rw [List.length_take]; omega)
    by_cases hlt : k < L.length
    · obtain ⟨b, o, rfl, hr⟩ := hrow.resolve_left (by intro e; subst e; simp at hlt)
      obtain ⟨a3, c3, _, q0, q1, _, _⟩ := (hr k hlt).all
      have hn := wait_next hlt f t
      have k1 : (k : Int) < (L.length : Int) := by omega
      have k0 : (0 : Int) ≤ (k : Int) := by omega
      obtain ⟨n, en⟩ : ∃ n, n = waitL (L.take k) f t := ⟨_, rfl⟩
      rw [← en] at hn hwl ⊢
      have HN : Hid (waitL (L.take (k + 1)) f t = n + (if onL f t L[k] = true then 1 else 0)) := hn
      clear hn en hrow hr
      by_cases h1 : L[k].fr = f
      · by_cases h2 : L[k].to = t
        · have g1 : (L[k].fr == f) = true := by simp [h1]
          have g2 : (L[k].to == t) = true := by simp [h2]
          have HM : Hid (waitL (L.take (k + 1)) f t = n + 1) := by have := HN.out; rw [if_pos (onL_yes h1 h2)] at this; exact this
          generalize L[k].fr = x1 at *
          generalize L[k].to = x2 at *
          clear h1 h2 HN
          go_wp2
          go_round
          case rel => exact ⟨k + 1, by omega, by rw [HM.out]; go_num, by go_num⟩
          case measure => simp [intOf]; omega
        · have g1 : (L[k].fr == f) = true := by simp [h1]
          have g2 : (L[k].to == t) = false := by simp [h2]
          have HM : Hid (waitL (L.take (k + 1)) f t = n) := by have := HN.out; rw [if_neg (by rw [onL_to h2]; simp)] at this; exact this
          generalize L[k].fr = x1 at *
          generalize L[k].to = x2 at *
          clear h1 h2 HN
          go_wp2
          go_round
          case rel => exact ⟨k + 1, by omega, by rw [HM.out], by go_num⟩
          case measure => simp [intOf]; omega
      · have g1 : (L[k].fr == f) = false := by simp [h1]
        have HM : Hid (waitL (L.take (k + 1)) f t = n) := by have := HN.out; rw [if_neg (by rw [onL_fr h1]; simp)] at this; exact this
        generalize L[k].fr = x1 at *
        generalize L[k].to = x2 at *
        clear h1 HN
        go_wp2
        go_round
        case rel => exact ⟨k + 1, by omega, by rw [HM.out], by go_num⟩
        case measure => simp [intOf]; omega
    · obtain rfl : k = L.length := by omega
      rw [List.take_length]
      go_wp2
      go_ret
      exact ⟨rfl, HB.out⟩

end Go.Proofs.Ytlcnfoljkcfplaa
