/- The walk of LisBoth. -/
import Derived.Test.YtjnccmkhhnaaiaaLiE
import Derived.Test.YtjnccmkhhnaaiaaLiW
namespace Go.Proofs.Ytjnccmkhhnaaiaa
open Go.RowKit
set_option linter.unusedVariables false

theorem pick_mem (d : List Int) : ∀ (f i : Nat) (left : Int) (p : Int), p ∈ pick d f i left → (i : Int) ≤ p
  | 0, _, _, p, h => by simp [pick] at h
  | f + 1, i, left, p, h => by
    simp only [pick] at h
    split at h
    · rcases List.mem_cons.1 h with rfl | h
      · exact Int.le_refl _
      · have := pick_mem d f (i + 1) (left - 1) p h; omega
    · have := pick_mem d f (i + 1) left p h; omega
theorem rst_mem {d : List Int} {i : Nat} {left p : Int} (h : p ∈ rstL d i left) : (i : Int) ≤ p := pick_mem d _ _ _ _ h
theorem drop_at {a t : List Int} {i : Nat} {x : Int} (h : a.drop i = x :: t) : ∃ hi : i < a.length, a[i] = x ∧ a.drop (i + 1) = t := by
  have hi : i < a.length := by
    rcases Nat.lt_or_ge i a.length with h1 | h1
    · exact h1
    · rw [List.drop_eq_nil_of_le h1] at h; cases h
  rw [List.drop_eq_getElem_cons hi] at h
  injection h with h1 h2
  exact ⟨hi, h1, h2⟩
theorem drop_none {a : List Int} {i : Nat} (hi : i ≤ a.length) (h : a.drop i = []) : i = a.length := by
  have := congrArg List.length h
  simp at this
  omega

set_option maxHeartbeats 2000000 in
theorem lisBoth_walk (v1 : Value) (d : List Int) (w : World) (h1 : IsI w v1 d) :
    Calls Try.prog 6 #[v1] w fun e w' => e = .returned (.bool true) ∧ Below w.heap.size w w' := by
  have H1 := hide9 h1
  obtain ⟨a1, c1, e1, _, hl1, _⟩ := h1
  subst e1
  go_enter Try.func6, Try.ntmps6
  go_wp2_with fail
  refine (rising_any _ d _ H1.out).mono ?_
  rintro e w1 ⟨v3, rfl, ho, hb1⟩
  have hrl := ris_len d
  have hol : (othL d).length ≤ d.length := oth_len _ _ _
  have B1 := hide9 hb1
  have H3 := hide9 (H1.out.below hb1)
  have H5 := hide9 (ho.isI (by omega))
  clear hb1 ho
  go_wp2_with fail
  refine (others_any _ d _ H3.out).mono ?_
  rintro e w2 ⟨v4, rfl, ho, hb2⟩
  have B2 := hide9 (B1.out.trans (hb2.mono B1.out.size))
  have H4 := hide9 (H3.out.below hb2)
  have HA := hide9 (H5.out.below hb2)
  have HO := hide9 (ho.isI (by omega))
  clear hb2 ho H5 H3 B1
  have tl := hide9 (ris_ris d).2
  obtain ⟨A, eA⟩ : ∃ A, A = risL d := ⟨_, rfl⟩
  obtain ⟨O, eO⟩ : ∃ O, O = othL d := ⟨_, rfl⟩
  rw [← eA] at HA hrl tl
  rw [← eO] at HO hol
  have E1 := hide9 eA
  have E2 := hide9 eO
  clear eA eO
  obtain ⟨a3, c3, e3, hc3, _, r3⟩ := HA.out
  obtain ⟨a4, c4, e4, hc4, _, r4⟩ := HO.out
  subst e3 e4
  have R3 := hide9 r3
  have R4 := hide9 r4
  clear r3 r4
  go_wp2
  go_loopw [5, 6, 7] (fun iv kv nv wr => ∃ (i k n : Nat) (left : Int), i ≤ A.length ∧ k ≤ O.length ∧ n ≤ d.length ∧ iv = .int .i64 (i : Int) ∧ kv = .int .i64 (k : Int) ∧ nv = .int .i64 (n : Int) ∧ Hid (A.drop i = rstL d n left) ∧ Hid (oth (A.drop i) (d.length - n) n = O.drop k) ∧ wr = w2) (fun _ _ nv _ => d.length - (intOf nv).toNat)
  case atStart => exact ⟨0, 0, 0, lngL d, Nat.zero_le _, Nat.zero_le _, Nat.zero_le _, rfl, rfl, rfl, by (show _ = _; rw [E1.out]; rfl), by (show _ = _; rw [E1.out, E2.out]; rfl), rfl⟩
  case round =>
    obtain ⟨i, k, n, left, hi, hk, hn, rfl, rfl, rfl, HI, HK, rfl⟩ := hrel
    by_cases hlt : n < d.length
    · have k1 : (n : Int) < (d.length : Int) := by omega
      have HF : Hid (d.length - n = (d.length - (n + 1)) + 1) := by show _ = _; omega
      have i0 : (0 : Int) ≤ (i : Int) := by omega
      have j0 : (0 : Int) ≤ (k : Int) := by omega
      by_cases hb : bgA d n = left
      · have h2 := HI.out
        rw [rstL_yes hlt hb] at h2
        obtain ⟨hia, h3, h4⟩ := drop_at h2
        have i1 : (i : Int) < (A.length : Int) := by omega
        obtain ⟨b, o, rfl, g⟩ := R3.out.resolve_left (by intro e; rw [e] at hia; simp at hia)
        have x1 := g i hia
        rw [h3] at x1
        have HI2 := hide9 h4
        have HK2 : Hid (oth (A.drop (i + 1)) (d.length - (n + 1)) (n + 1) = O.drop k) := by show _ = _; have := HK.out; rw [h2, HF.out, oth_yes, ← h4] at this; exact this
        clear g h2 h3 h4 HI HK hb
        go_wp2
        go_roundw
        case rel => exact ⟨i + 1, k, n + 1, left - 1, by omega, hk, by omega, by go_num, rfl, by go_num, HI2, HK2, by first | rfl | trivial⟩
        case measure => simp [intOf]; omega
      · have h2 := HI.out
        rw [rstL_no hlt hb] at h2
        have h3 : ∀ p, (A.drop i).head? = some p → p ≠ (n : Int) := fun p hp e => by
          have hm : p ∈ rstL d (n + 1) left := by rw [← h2]; exact List.mem_of_head? hp
          have := rst_mem hm
          omega
        have h4 := HK.out
        rw [HF.out, oth_no h3] at h4
        obtain ⟨hko, h5, h6⟩ := drop_at h4.symm
        have j1 : (k : Int) < (O.length : Int) := by omega
        obtain ⟨b4, o4, rfl, g4⟩ := R4.out.resolve_left (by intro e; rw [e] at hko; simp at hko)
        have x4 := g4 k hko
        rw [h5] at x4
        have HI2 := hide9 h2
        have HK2 := hide9 h6.symm
        have H33 := hide9 h3
        clear g4 h2 h3 h4 h5 h6 HI HK hb
        by_cases hia : i < A.length
        · have i1 : (i : Int) < (A.length : Int) := by omega
          obtain ⟨b, o, rfl, g⟩ := R3.out.resolve_left (by intro e; rw [e] at hia; simp at hia)
          have x1 := g i hia
          have hne := H33.out A[i] (by rw [List.drop_eq_getElem_cons hia]; rfl)
          obtain ⟨x, ex⟩ : ∃ x, x = A[i] := ⟨_, rfl⟩
          rw [← ex] at x1 hne
          have q1 : (x == (n : Int)) = false := by simp [hne]
          clear g ex hne
          go_wp2
          go_roundw
          case rel => exact ⟨i, k + 1, n + 1, left, hi, by omega, by omega, rfl, by go_num, by go_num, HI2, HK2, by first | rfl | trivial⟩
          case measure => simp [intOf]; omega
        · have i1 : ¬ (i : Int) < (A.length : Int) := by omega
          go_wp2
          go_roundw
          case rel => exact ⟨i, k + 1, n + 1, left, hi, by omega, by omega, rfl, by go_num, by go_num, HI2, HK2, by first | rfl | trivial⟩
          case measure => simp [intOf]; omega
    · have e1 : i = A.length := drop_none hi (by rw [HI.out, rstL_end (by omega)])
      have e2 : k = O.length := drop_none hk (by rw [← HK.out, show d.length - n = 0 by omega]; cases A.drop i <;> rfl)
      subst e1 e2
      have k9 : ¬ (n : Int) < (d.length : Int) := by omega
      go_wp2_with fail
      refine (long_any _ d _ H4.out).mono ?_
      rintro e w3 ⟨rfl, hb3⟩
      rw [← tl.out]
      have B3 := hide9 (B2.out.trans (hb3.mono B2.out.size))
      clear hb3
      go_wp2_with fail
      refine (awake_any _).mono ?_
      rintro e w4 ⟨rfl, hb4⟩
      have B4 := hide9 (B3.out.trans (hb4.mono B3.out.size))
      clear hb4
      go_wp2
      go_ret
      exact ⟨rfl, B4.out⟩

end Go.Proofs.Ytjnccmkhhnaaiaa
