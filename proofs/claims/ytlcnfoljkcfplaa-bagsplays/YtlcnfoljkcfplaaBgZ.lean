/- The program answers (awake). -/
import Derived.Test.YtlcnfoljkcfplaaBgY
namespace Go.Proofs.Ytlcnfoljkcfplaa
open Go.RowKit Go.Shelf
set_option linter.unusedVariables false
set_option linter.unusedSimpArgs false

/-- What is new stays new. -/
theorem NetP.new {F : Nat → Prop} {nb n : Nat} {w0 w w' : World} {B : Nat → List Pc} (h : NetP F nb n w w' B) (hF : ∀ k, F k → w0.heap.size ≤ k) (hb : Below w0.heap.size w0 w) : ∃ F', NetOk F' w' nb n B ∧ (∀ k, F' k → w0.heap.size ≤ k) ∧ Below w0.heap.size w0 w' := by
  obtain ⟨F', h1, h2, h3, h4⟩ := h
  exact ⟨F', h1, fun k hk => (h3 k hk).elim (hF k) (fun h => Nat.le_trans hb.size h), hb.trans (h4.below hF hb.size)⟩

set_option maxRecDepth 100000 in
set_option maxHeartbeats 4000000 in
theorem awake_any (w : World) : Calls Try.prog 5 #[] w fun e w' => e = .returned (.bool true) ∧ Below w.heap.size w w' := by
  have HN1 : Hid (sendE 2 noB 0 1 [97] = 0) := by show _ = _; decide
  have HN2 : Hid (sendE 2 (sendN 2 noB 0 1 [97]) 0 0 [] = 7) := by show _ = _; decide
  have HN3 : Hid ((if linkE 2 0 1 = 0 then (((sendN 2 (sendN 2 noB 0 1 [97]) 0 0 []) (plc 2 0 1)).length : Int) else 0) = 1) := by show _ = _; decide
  go_enter Try.func5, Try.ntmps5
  go_wp2_with fail
  refine (new_any 2 _).mono ?_
  rintro e w1 ⟨hp, hb⟩
  rcases hp with ⟨h, _⟩ | ⟨k, hk, _, _, nb, F, rfl, hn, hF⟩
  · omega
  obtain rfl : k = 2 := by omega
  have HO1 : Hid (NetOk F w1 nb 2 noB ∧ (∀ k, F k → w.heap.size ≤ k) ∧ Below w.heap.size w w1) := ⟨hn, hF, hb⟩
  have kc := conv_lit w1 #[.int .u8 97] 1 1 w1.heap.size rfl
  have HI : Hid (IsB (w1.alloc (.cells #[.int .u8 97] 5 (1, 2))) (.slice (some ⟨w1.heap.size, 0, none⟩) 1 1) [97]) := IsB.lit w1 [97] #[.int .u8 97] (by simp [cellsB]) (by simp) _
  have HB2 : Hid (Below w1.heap.size w1 (w1.alloc (.cells #[.int .u8 97] 5 (1, 2)))) := (Below.refl _ _).alloc (Nat.le_refl _) _
  clear hn hF hb hk
  go_wp2_with fail
  refine (send_any F nb 2 noB 0 1 _ [97] _ (HO1.out.1.below HB2.out) HI.out).mono ?_
  rintro e w2 ⟨rfl, hp⟩
  obtain ⟨F2, hn2, hF2, hb2⟩ := hp.new HO1.out.2.1 (HO1.out.2.2.trans (HB2.out.mono HO1.out.2.2.size))
  have HO2 : Hid (NetOk F2 w2 nb 2 (sendN 2 noB 0 1 [97]) ∧ (∀ k, F2 k → w.heap.size ≤ k) ∧ Below w.heap.size w w2) := ⟨hn2, hF2, hb2⟩
  rw [HN1.out]
  clear hp hn2 hF2 hb2 kc
  go_wp2_with fail
  refine (send_any F2 nb 2 _ 0 0 _ [] _ HO2.out.1 (IsB.non 0)).mono ?_
  rintro e w3 ⟨rfl, hp⟩
  obtain ⟨F3, hn3, hF3, hb3⟩ := hp.new HO2.out.2.1 HO2.out.2.2
  have HO3 : Hid (NetOk F3 w3 nb 2 (sendN 2 (sendN 2 noB 0 1 [97]) 0 0 []) ∧ (∀ k, F3 k → w.heap.size ≤ k) ∧ Below w.heap.size w w3) := ⟨hn3, hF3, hb3⟩
  rw [HN2.out]
  clear hp hn3 hF3 hb3
  go_wp2_with fail
  refine (waiting_any F3 nb 2 _ 0 1 _ HO3.out.1).mono ?_
  rintro e w4 ⟨rfl, hb4⟩
  rw [HN3.out]
  have HB4 : Hid (Below w.heap.size w w4) := HO3.out.2.2.trans (hb4.mono HO3.out.2.2.size)
  clear hb4
  go_wp2
  go_ret
  exact ⟨rfl, HB4.out⟩

end Go.Proofs.Ytlcnfoljkcfplaa
