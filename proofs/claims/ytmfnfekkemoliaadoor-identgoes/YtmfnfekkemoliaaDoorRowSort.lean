/- What the document's Sort does: stamps, each once, at their places. -/
import Derived.Test.YtmfnfekkemoliaaDoorRowPut
namespace Go.Proofs.YtmfnfekkemoliaaDoor
open Go.RowKit
set_option linter.unusedVariables false

def sortL (l : List (Int × Int)) : List (Int × Int) := l.foldl putL []
theorem sortL_next (l : List (Int × Int)) (k : Nat) (h : k < l.length) : sortL (l.take (k + 1)) = putL (sortL (l.take k)) l[k] := by
  unfold sortL
  rw [List.take_succ_eq_append_getElem h, List.foldl_append]
  rfl
theorem putL_length (d : List (Int × Int)) (s : Int × Int) : (putL d s).length ≤ d.length + 1 := by
  unfold putL
  have h := putTo_length s d
  split
  · omega
  · split
    · rename_i h2; rw [if_pos h2] at h; omega
    · rename_i h2; rw [if_neg h2] at h; simp; omega
theorem sortL_length (l : List (Int × Int)) : ∀ k, k ≤ l.length → (sortL (l.take k)).length ≤ k := by
  intro k
  induction k with
  | zero => intro _; simp [sortL]
  | succ k ih =>
    intro h
    rw [sortL_next l k (by omega)]
    have := putL_length (sortL (l.take k)) l[k]
    have := ih (by omega)
    omega

theorem put_any (v : Value) (d : List (Int × Int)) (c r : Int) (w : World) (h1 : IsS w v d) (hlen : d.length < 8796093022208) :
    Calls Tryd.prog 38 #[v, .agg #[.int .i64 c, .int .i64 r]] w fun e w' => ∃ v', e = .returned v' ∧ IsS w' v' (putL d (c, r)) ∧ Below w.heap.size w w' := by
  by_cases hm : (c, r) ∈ d
  · refine (put_there v d c r w h1 hm).mono fun e w' ⟨he, hb⟩ => ⟨v, he, ?_, hb⟩
    unfold putL
    rw [if_pos hm]
    exact h1.below hb
  · exact put_new v d c r w h1 hm hlen

theorem IsS.form {w : World} {v : Value} {d : List (Int × Int)} (h : IsS w v d) : ∃ a cap, v = .slice a d.length cap := by
  obtain ⟨a, cap, e, _⟩ := h
  exact ⟨a, cap, e⟩
theorem isS_empty (w : World) (a : Option Addr) : IsS w (.slice a 0 0) [] := ⟨a, 0, rfl, Nat.le_refl _, by simp, .inl rfl⟩

set_option maxHeartbeats 1000000 in
theorem refSort_any (v : Value) (l : List (Int × Int)) (w : World) (h1 : IsS w v l) :
    Calls Tryd.prog 27 #[v] w fun e w' => ∃ v', e = .returned v' ∧ IsS w' v' (sortL l) ∧ Below w.heap.size w w' := by
  obtain ⟨a1, c1, rfl, hc1, hl1, r1⟩ := h1
  go_enter Tryd.func27, Tryd.ntmps27
  go_wp2
  go_loopw [3, 4] (fun ov iv wr => ∃ (k : Nat) (ao : Option Addr) (co : Nat), k ≤ l.length ∧ iv = .int .i64 (k : Int) ∧ ov = .slice ao (sortL (l.take k)).length co ∧ IsS wr (.slice ao (sortL (l.take k)).length co) (sortL (l.take k)) ∧ Below w.heap.size w wr) (fun _ iv _ => l.length - (intOf iv).toNat)
  case atStart => exact ⟨0, _, _, Nat.zero_le _, rfl, rfl, isS_empty _ _, (Below.refl _ _).alloc (Nat.le_refl _) _⟩
  case round =>
    obtain ⟨k, ao, co, hk, rfl, rfl, ho, hb⟩ := hrel
    by_cases hlt : k < l.length
    · obtain ⟨b1, o1, rfl, g1⟩ := r1.resolve_left (by intro e; subst e; simp at hlt)
      obtain ⟨x11, x12⟩ := (g1.below hb) k hlt
      have k1 : (k : Int) < (l.length : Int) := by omega
      have k0 : (0 : Int) ≤ (k : Int) := by omega
      have NX : Hid (sortL (l.take (k + 1)) = putL (sortL (l.take k)) l[k]) := sortL_next l k hlt
      have hz := hb.size
      have hlen := sortL_length l k hk
      generalize sortL (l.take k) = D at *
      have HO : Hid (IsS wr (.slice ao D.length co) D) := ho
      clear ho g1 r1
      go_wp2_with fail
      refine (put_any _ D _ _ _ HO.out (by omega)).mono ?_
      rintro e w2 ⟨v2, rfl, h2, hb2⟩
      have HV : Hid (IsS w2 v2 (putL D (l[k].1, l[k].2))) := h2
      obtain ⟨a2, c2, e2⟩ := h2.form
      clear h2
      subst e2
      go_wp2
      go_roundw
      case rel =>
        refine ⟨k + 1, a2, c2, by omega, by go_num, by rw [NX.out], by rw [NX.out]; exact HV.out, hb.trans (hb2.mono hz)⟩
      case measure => simp [intOf]; omega
    · have e : l.take k = l := List.take_of_length_le (by omega)
      rw [e] at ho
      have HO : Hid (IsS wr (.slice ao (sortL l).length co) (sortL l)) := ho
      rw [e]
      clear ho e
      go_wp2
      go_ret
      exact ⟨_, rfl, HO.out, hb⟩

end Go.Proofs.YtmfnfekkemoliaaDoor
