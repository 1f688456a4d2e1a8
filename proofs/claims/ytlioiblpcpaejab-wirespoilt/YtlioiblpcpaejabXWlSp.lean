/- A frame's bytes of which one was turned are refused; the walk of WireSpoilt. -/
import Derived.Test.YtlioiblpcpaejabXM
import Derived.Test.YtlioiblpcpaejabXWsG
namespace Go.Proofs.Ytlioiblpcpaejab
open Go.RowKit
set_option linter.unusedVariables false
set_option linter.unusedSimpArgs false

theorem writeF_lenS (f : Fr) : (writeF f).1.length ≤ 65545 := by
  unfold writeF
  split
  · rename_i h
    have := loadFr_len h
    rw [frameL_length]
    omega
  · simp
/-- A byte turned, as a number. -/
theorem leL_xor (l : List UInt8) (i m : Nat) (hi : i < l.length) (hm : m < 256) : leL (l.set i (UInt8.ofNat (l[i].toNat ^^^ m))) = leL l ^^^ (2 ^ (8 * i) * m) := by
  induction l generalizing i with
  | nil => simp at hi
  | cons c l ih =>
    have hc := UInt8.toNat_lt c
    cases i with
    | zero =>
      have hx : c.toNat ^^^ m < 256 := Nat.xor_lt_two_pow (n := 8) hc hm
      simp only [List.set_cons_zero, leL, List.getElem_cons_zero]
      rw [toNat_of hx, add_xor _ hx, add_xor _ hc, show 2 ^ (8 * 0) * m = m by simp, Nat.xor_assoc, Nat.xor_comm m, ← Nat.xor_assoc]
    | succ i =>
      simp only [List.set_cons_succ, leL, List.getElem_cons_succ]
      have hi' : i < l.length := by simpa using hi
      rw [ih i hi', add_xor _ hc, add_xor _ hc, show 256 = 2 ^ 8 from rfl, shl_xor, Nat.xor_assoc, show 2 ^ 8 * (2 ^ (8 * i) * m) = 2 ^ (8 * (i + 1)) * m by rw [← Nat.mul_assoc, ← Nat.pow_add]; congr 2; omega]
theorem spoil_refused {p : List UInt8} {at_ mask : Int} (hp : (openL p).2.2 = 0) (h : (spoilL p at_ mask).2 = 0) : (openL (spoilL p at_ mask).1).2.2 ≠ 0 := by
  unfold spoilL at h ⊢
  by_cases h1 : 0 ≤ at_ ∧ at_ < (p.length : Int)
  · rw [if_pos h1] at h ⊢
    by_cases h2 : mask % 256 = 0
    · rw [if_pos h2] at h; cases h
    · rw [if_neg h2] at h ⊢
      simp only
      intro hq
      obtain ⟨n, hn⟩ : ∃ n : Nat, at_ = (n : Int) := ⟨at_.toNat, by omega⟩
      subst hn
      rw [Int.toNat_natCast] at hq
      have hnl : n < p.length := by omega
      obtain ⟨m, hm⟩ : ∃ m : Nat, mask % 256 = (m : Int) := ⟨(mask % 256).toNat, by omega⟩
      rw [hm, Int.toNat_natCast] at hq
      have hm2 : m < 256 := by omega
      have hm0 : m ≠ 0 := by omega
      rw [List.getD_eq_getElem?_getD, List.getElem?_eq_getElem hnl] at hq
      simp only [Option.getD_some] at hq
      have s1 := seal_open hp
      have s2 := seal_open hq
      have hl1 : 9 ≤ p.length := frameB_nine s1.2.2.2.2.2.1
      have hl : (p.set n (UInt8.ofNat (p[n].toNat ^^^ m))).length = p.length := List.length_set ..
      have f1 := fold_frame (p := p) (e := p.length - 4) (by omega) s1.2.2.2.2.2.2
      have f2 := fold_frame (p := p.set n (UInt8.ofNat (p[n].toNat ^^^ m))) (e := p.length - 4) (by rw [hl]; omega) (by
        have := s2.2.2.2.2.2.2
        rw [hl] at this
        exact this)
      exact burst hl (leL_xor p n m hnl hm2) (by omega) hm0 (by omega) f1 f2
  · rw [if_neg h1] at h; cases h

set_option maxRecDepth 100000 in
set_option maxHeartbeats 8000000 in
theorem wireSpoilt_walk (kd fm : Int) (a1 : Option Addr) (cl : List Int) (cc : Nat) (mo : Bool) (a2 : Option Addr) (L : List Ch) (ch : Nat) (at_ mask : Int) (w : World) (h1 : IsI w (.slice a1 cl.length cc) cl) (h2 : IsH w (.slice a2 L.length ch) L) (hat : (Lit.int .i64 at_).wf = true) (hmk : (Lit.int .i64 mask).wf = true) :
    Calls Try.prog 4 #[.agg #[.int .i64 kd, .int .i64 fm, .slice a1 cl.length cc, .bool mo, .slice a2 L.length ch], .int .i64 at_, .int .i64 mask] w fun e w' => e = .returned (.bool true) ∧ Below w.heap.size w w' := by
  have K0 := KeptC.start w [.int .i64 kd, .int .i64 fm, .slice a1 cl.length cc, .bool mo, .slice a2 L.length ch] 38
  have H1 : Hid (IsI w (.slice a1 cl.length cc) cl) := h1
  have H2 : Hid (IsH w (.slice a2 L.length ch) L) := h2
  have HMB := bounds_int hmk
  have hwl := writeF_lenS ⟨kd, fm, cl, mo, L⟩
  obtain ⟨⟨B, ee⟩, eW⟩ : ∃ r, writeF ⟨kd, fm, cl, mo, L⟩ = r := ⟨_, rfl⟩
  have HB : Hid (ee = 0 → (openL B).2.2 = 0) := fun h => by
    have h0 := readF_write (f := ⟨kd, fm, cl, mo, L⟩) (by rw [eW]; exact h)
    rw [eW] at h0
    by_cases ho : (openL B).2.2 = 0
    · exact ho
    · have h1 := h0.2
      unfold readF at h1
      rw [if_neg ho] at h1
      exact congrArg Prod.snd h1
  have HN : Hid (ee ≠ 0 → B = []) := fun h => by
    unfold writeF at eW
    split at eW
    · exact absurd (congrArg Prod.snd eW).symm h
    · exact (congrArg Prod.fst eW).symm
  have C1 : Hid (∀ W, IsI W (.slice a1 cl.length cc) cl → IsH W (.slice a2 L.length ch) L → Calls Try.prog 9 #[.agg #[.int .i64 kd, .int .i64 fm, .slice a1 cl.length cc, .bool mo, .slice a2 L.length ch]] W fun e w' => ∃ v, e = .returned (.tuple #[v, .int .i64 ee]) ∧ OwnB W.heap.size w' v B ∧ Below W.heap.size W w') := fun W i1 i2 => by
    have := write_any kd fm a1 cl cc mo a2 L ch W i1 i2
    rw [eW] at this
    exact this
  rw [eW] at hwl
  have hBl : B.length ≤ 140737488355328 := Nat.le_trans hwl (by decide)
  clear h1 h2 eW hwl
  go_enter Try.func4, Try.ntmps4
  go_wp2_with fail
  refine (C1.out _ (H1.out.below K0.2.2) (H2.out.below K0.2.2)).mono ?_
  rintro e w1 ⟨v1, rfl, o1, hb1⟩
  have K1 := K0.step hb1
  have I1 : Hid (IsB w1 v1 B) := o1.isB (by omega)
  clear hb1 o1 K0 C1
  obtain ⟨av, cv, ev⟩ := I1.out.form
  subst ev
  by_cases hee : ee = 0
  · have HO := HB.out hee
    have hsl : (spoilL B at_ mask).1.length ≤ B.length := by
      unfold spoilL
      split
      · split
        · simp
        · simp
      · simp
    obtain ⟨⟨Q, e3⟩, eS⟩ : ∃ r, spoilL B at_ mask = r := ⟨_, rfl⟩
    have HQ : Hid (e3 = 0 → (openL Q).2.2 ≠ 0) := fun h => by
      have h0 := spoil_refused (p := B) (at_ := at_) (mask := mask) HO (by rw [eS]; exact h)
      rw [eS] at h0
      exact h0
    have C2 : Hid (∀ W, IsB W (.slice av B.length cv) B → Calls Try.prog 10 #[.slice av B.length cv, .int .i64 at_, .int .i64 mask] W fun e w' => ∃ v', e = .returned (.tuple #[v', .int .i64 e3]) ∧ OwnB W.heap.size w' v' Q ∧ Below W.heap.size W w') := fun W hW => by
      have := refSpoil_any (.slice av B.length cv) B at_ mask W hW hBl HMB
      rw [eS] at this
      exact this
    rw [eS] at hsl
    have hQl : Q.length ≤ 281474976710656 := by have : Q.length ≤ B.length := hsl; omega
    clear HO HB HN eS hsl HMB
    subst hee
    go_wp2_with fail
    refine (C2.out _ I1.out).mono ?_
    rintro e w2 ⟨v2, rfl, o2, hb2⟩
    have K2 := K1.step hb2
    have I2 : Hid (IsB w2 v2 Q) := o2.isB hQl
    clear o2 hb2 K1 I1 C2
    by_cases he3 : e3 = 0
    · have HQ2 := HQ.out he3
      have C3 : Hid (∀ W, IsB W v2 Q → Calls Try.prog 11 #[v2] W fun e w' => ∃ f2 e4, GotFr f2 e4 W e w' ∧ (e4 = 2 ∨ e4 = 9)) := fun W hW => by
        refine (read_any v2 Q W hW).mono fun e w' h => ⟨_, _, h, ?_⟩
        rcases readF_err Q with h0 | h0 | h0
        · have : readF Q = (Fr.none, (openL Q).2.2) := by unfold readF; rw [if_neg HQ2]
          rw [this] at h0
          exact absurd h0 HQ2
        · rw [h0]; exact .inl rfl
        · rw [h0]; exact .inr rfl
      clear HQ2 HQ
      subst he3
      go_wp2_with fail
      refine (C3.out _ I2.out).mono ?_
      rintro e w3 ⟨f2, e4, ⟨a5, c5, a6, c6, rfl, _, _, hb3⟩, h29⟩
      have K3 := K2.step hb3
      have K4 := K3.step ((Below.refl w3.heap.size w3).alloc (Nat.le_refl _) (.cells #[.int .i64 f2.kind, .int .i64 f2.from_, .slice a5 f2.clock.length c5, .bool f2.more, .slice a6 f2.changes.length c6] 38))
      clear hb3 K2 I2 C3 K3
      rcases h29 with rfl | rfl
      · go_wp2_with fail
        refine (wawake_any _).mono ?_
        rintro e w5 ⟨rfl, hb5⟩
        have K5 := K4.step hb5
        go_wp2
        go_ret
        exact ⟨rfl, K5.2.2⟩
      · go_wp2_with fail
        refine (wawake_any _).mono ?_
        rintro e w5 ⟨rfl, hb5⟩
        have K5 := K4.step hb5
        go_wp2
        go_ret
        exact ⟨rfl, K5.2.2⟩
    · have q : (e3 != 0) = true := by simp [he3]
      clear he3
      go_wp2_with fail
      refine (wawake_any _).mono ?_
      rintro e w3 ⟨rfl, hb3⟩
      have K3 := K2.step hb3
      go_wp2
      go_ret
      exact ⟨rfl, K3.2.2⟩
  · have hB := HN.out hee
    have q : (ee != 0) = true := by simp [hee]
    clear hee HB HN
    subst hB
    go_wp2_with fail
    refine (wawake_any _).mono ?_
    rintro e w2 ⟨rfl, hb2⟩
    have K2 := K1.step hb2
    go_wp2
    go_ret
    exact ⟨rfl, K2.2.2⟩

end Go.Proofs.Ytlioiblpcpaejab
