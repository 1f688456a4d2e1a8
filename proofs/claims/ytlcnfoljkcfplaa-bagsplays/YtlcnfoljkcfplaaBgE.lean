/- What New, Send, Lose, Double, Peek, Deliver do with a net. -/
import Derived.Test.YtlcnfoljkcfplaaBgD
import Derived.Lib.ConvBytes
import Derived.Laws.OwnMore
namespace Go.Proofs.Ytlcnfoljkcfplaa
open Go.RowKit
set_option linter.unusedVariables false
set_option linter.unusedSimpArgs false

/-- New bytes, to be written over by whoever has them. -/
def FreshB (b : Nat) (w : World) (v : Value) (p : List UInt8) : Prop := (v = .slice none 0 0 ∧ p = []) ∨ ∃ g cap, v = .slice (some ⟨g, 0, none⟩) p.length cap ∧ b ≤ g ∧ g < w.heap.size ∧ p.length ≤ cap ∧ BytesAt w g 0 p ∧ ∀ j, j < p.length → w.frozen? ⟨g, j, none⟩ = false
theorem FreshB.isB {b : Nat} {w : World} {v : Value} {p : List UInt8} (h : FreshB b w v p) (hl : p.length ≤ 281474976710656) : IsB w v p := by
  rcases h with ⟨rfl, rfl⟩ | ⟨g, cap, rfl, _, _, hc, hb, _⟩
  · exact IsB.non 0
  · exact ⟨_, cap, rfl, hc, hl, .inr ⟨g, 0, rfl, hb⟩⟩
theorem FreshB.keep {b : Nat} {w w' : World} {v : Value} {p : List UInt8} (h : FreshB b w v p) (hk : ∀ k, b ≤ k → k < w.heap.size → w'.heap[k]? = w.heap[k]?) (hs : w.heap.size ≤ w'.heap.size) : FreshB b w' v p := by
  rcases h with h | ⟨g, cap, e, hg, hlt, hc, hb, hf⟩
  · exact .inl h
  · exact .inr ⟨g, cap, e, hg, by omega, hc, hb.block (hk g hg hlt), fun j hj => by rw [World.frozen?_of_block (hk g hg hlt)]; exact hf j hj⟩
theorem FreshB.below {b : Nat} {w w' : World} {v : Value} {p : List UInt8} (h : FreshB b w v p) (hb : Below w.heap.size w w') : FreshB b w' v p := h.keep (fun k _ hk => hb.block k hk) hb.size
theorem FreshB.low {b b' : Nat} {w : World} {v : Value} {p : List UInt8} (h : FreshB b w v p) (hb : b' ≤ b) : FreshB b' w v p := h.imp id fun ⟨g, cap, e, hg, rest⟩ => ⟨g, cap, e, by omega, rest⟩
theorem FreshB.form {b : Nat} {w : World} {v : Value} {p : List UInt8} (h : FreshB b w v p) : ∃ a cap, v = .slice a p.length cap := by
  rcases h with ⟨rfl, rfl⟩ | ⟨g, cap, rfl, _⟩
  · exact ⟨none, 0, rfl⟩
  · exact ⟨_, cap, rfl⟩
/-- []byte(s). -/
theorem conv_bytes (w : World) (p : List UInt8) : ∃ cap w1, (convert 9 31 (.string (txt p))).run Try.prog w = .ok (.slice (some ⟨w.heap.size, 0, none⟩) p.length cap) w1 ∧ FreshB w.heap.size w1 (.slice (some ⟨w.heap.size, 0, none⟩) p.length cap) p ∧ Below w.heap.size w w1 := by
  have h := Lib.run_convert_string_bytes (P := Try.prog) w 9 31 5 (txt p) Try.underlying9 Try.underlying31 Try.underlying5
  have hs : (txt p).size = p.length := by simp [txt, ByteArray.size]
  rw [hs] at h
  refine ⟨_, _, h, .inr ⟨w.heap.size, _, rfl, Nat.le_refl _, by rw [Lib.bytesWorld_size]; omega, grownCap_ge w _ _ _, fun i hi => ?_, fun j hj => ?_⟩, ⟨rfl, rfl, rfl, by rw [Lib.bytesWorld_size]; omega, fun k hk => Lib.bytesWorld_at_old w _ _ k hk⟩⟩
  · rw [Nat.zero_add, Lib.bytesWorld_cell w 5 (txt p) i (by rw [hs]; exact hi)]
    simp [txt, List.getD, hi]
  · unfold World.frozen?
    rw [Lib.bytesWorld_at_new]
    have : p.length ≤ (Lib.bytesCells w 5 (txt p)).size := by
      unfold Lib.bytesCells
      rw [Array.size_append]
      have e : (Lib.strCells (txt p)).length = p.length := by simp [Lib.strCells, txt]
      simp [txt]
    simp
    omega

def noB : Nat → List Pc := fun _ => []
/-- What New answers. -/
def NewP (n : Int) (w : World) (e : Ending) (w' : World) : Prop := ((n < 1 ∨ 64 < n) ∧ e = .returned (.tuple #[.pointer none, .int .i64 1])) ∨ (∃ k : Nat, n = (k : Int) ∧ 1 ≤ k ∧ k ≤ 64 ∧ ∃ nb F, e = .returned (.tuple #[.pointer (some ⟨nb, 0, none⟩), .int .i64 0]) ∧ NetOk F w' nb k noB ∧ ∀ j, F j → w.heap.size ≤ j)

theorem infoBag : (Try.prog.info? 47).map (fun i => (i.zero, i.size, i.bytes)) = some (some (.agg #[.slice none 0 0]), 1, 24) := by kernel_rfl

set_option maxRecDepth 100000 in
set_option maxHeartbeats 2000000 in
theorem new_any (n : Int) (w : World) :
    Calls Try.prog 4 #[.int .i64 n] w fun e w' => NewP n w e w' ∧ Below w.heap.size w w' := by
  by_cases h0 : n < 1
  · go_enter Try.func4, Try.ntmps4
    go_wp2
    go_ret2
    exact ⟨.inl ⟨.inl h0, rfl⟩, Below.refl _ _⟩
  · by_cases h1 : 64 < n
    · go_enter Try.func4, Try.ntmps4
      go_wp2
      go_ret2
      exact ⟨.inl ⟨.inr h1, rfl⟩, Below.refl _ _⟩
    · obtain ⟨k, rfl⟩ := Int.eq_ofNat_of_zero_le (show 0 ≤ n by omega)
      obtain ⟨i0, hi, hz0, hz1, hz2⟩ := info_parts infoBag
      have hk : k ≤ 64 := by omega
      have hkk : k * k ≤ 4096 := Nat.mul_le_mul hk hk
      obtain ⟨m, hm⟩ : ∃ m, m = k * k := ⟨_, rfl⟩
      rw [← hm] at hkk
      obtain ⟨w1, hmk, ho1, hg1⟩ := run_makeSlice_full (P := Try.prog) w w.heap.size 41 47 i0 (.agg #[.slice none 0 0]) 1 Try.underlying41 hi hz0 hz1 .i64 .i64 m (by omega) (by rw [hz2]; omega) (by unfold maxLen; omega) (Nat.le_refl _)
      have hB1 : Below w.heap.size w w1 := (Below.refl _ _).grown hg1 (Nat.le_refl _) (fun j e => by cases e)
      have e3 : (madeCells (Value.agg #[.slice none 0 0]).cells (m * 1)).toList = List.replicate m (.slice none 0 0) := by
        rw [Nat.mul_one]; exact toList_madeCells_one _ _
      rw [e3] at ho1
      have hrow : ∃ cur, w1.heap[w.heap.size]? = some (.cells cur 47 (0, 0)) ∧ cur.toList = List.replicate m (.slice none 0 0) := by
        rcases ho1.2 with ⟨hn, _⟩ | ⟨g, cap, cur, hv, _, hc, _, _, hsz, htk⟩
        · cases hn
        · injection hv with e1 _ e2
          injection e1 with e1
          injection e1 with e1
          subst e1 e2
          refine ⟨cur, hc, ?_⟩
          rw [← htk, List.take_of_length_le (by simp [hsz])]
      obtain ⟨cur, hc, hcl⟩ := hrow
      have HX : Hid (∀ W, W = w1.alloc (.cells #[.int .i64 (k : Int), .slice (some ⟨w.heap.size, 0, none⟩) m m] 43) → NetOk (fun j => j = w.heap.size ∨ j = w1.heap.size) W w1.heap.size k noB ∧ Below w.heap.size w W) := by
        intro W hW
        have hb2 : Below w1.heap.size w1 W := by rw [hW]; exact (Below.refl _ _).alloc (Nat.le_refl _) _
        have hlt : w.heap.size < w1.heap.size := row_lt hc
        have hsz : W.heap.size = w1.heap.size + 1 := by rw [hW]; simp
        refine ⟨⟨w.heap.size, List.replicate m (.slice none 0 0), ?_⟩, hB1.trans (hb2.mono hB1.size)⟩
        refine ⟨by rw [hW, hm]; exact heap_alloc_new w1 _, ?_, by rw [List.length_replicate, hm], fun i h => ?_, hk, fun i => ⟨by simp [noB], fun p hp => by simp [noB] at hp⟩, .inr rfl, .inl rfl, fun i h j e => ?_, fun i h j h' _ l e => ?_, fun j hj => ?_⟩
        · rw [hb2.block _ hlt, hc, ← hcl, Array.toArray_toList]
        · rw [List.getElem_replicate]; exact OwnP.nil0 _ _
        · rw [List.getElem_replicate] at e; cases e
        · rw [List.getElem_replicate] at e; cases e
        · rcases hj with rfl | rfl <;> omega
      have q0 : IntKind.i64.wrap (((k : Int)) * (k : Int)) = (m : Int) := by
        have : (k : Int) * (k : Int) = (m : Int) := by rw [hm]; simp
        rw [this, IntKind.wrap_i64]; omega
      replace hmk : (Instr.makeSlice 41 (.int .i64 (m : Int)) (.int .i64 (m : Int))).run Try.prog w = .ok (.slice (some ⟨w.heap.size, 0, none⟩) m m) w1 := hmk
      have q1 : ¬ ((k : Int) < 1) := h0
      have q2 : ¬ (64 < (k : Int)) := h1
      clear ho1 hg1 hi hz0 hz1 hz2 hc hcl hB1 hm h0 h1
      go_enter Try.func4, Try.ntmps4
      go_wp2
      go_ret2
      obtain ⟨x1, x2⟩ := HX.out _ rfl
      refine ⟨.inr ⟨k, rfl, by omega, hk, w1.heap.size, _, rfl, x1, fun j hj => ?_⟩, x2⟩
      rcases hj with rfl | rfl
      · exact Nat.le_refl _
      · have := x2.size
        have h3 : (w1.alloc (.cells #[.int .i64 (k : Int), .slice (some ⟨w.heap.size, 0, none⟩) m m] 43)).heap.size = w1.heap.size + 1 := by simp
        have h4 := x1.lt w.heap.size (.inl rfl)
        rw [h3] at h4
        omega

end Go.Proofs.Ytlcnfoljkcfplaa
