/- The program answers (awake). -/
import Derived.Test.YtcdnppiigejjgaaSeD
import Derived.Lib.SlBytesConst
namespace Go.Proofs.Ytcdnppiigejjgaa
open Go.RowKit
set_option linter.unusedVariables false

theorem IsBB.two {w : World} {v u : Value} {p q : List UInt8} (h : IsB w v p) (h2 : IsB w u q) (ty : TypeId) : IsBB (w.alloc (.cells #[v, u] ty)) (.slice (some ⟨w.heap.size, 0, none⟩) 2 2) [p, q] := by
  have hb : Below w.heap.size w (w.alloc (.cells #[v, u] ty)) := (Below.refl _ _).alloc (Nat.le_refl _) _
  have hn := heap_alloc_new w (.cells #[v, u] ty)
  refine ⟨_, 2, rfl, Nat.le_refl _, by simp, .inr ⟨w.heap.size, 0, rfl, fun i hi => ?_⟩⟩
  rcases show i = 0 ∨ i = 1 by simp at hi; omega with rfl | rfl
  · refine ⟨v, ?_, h.below hb⟩
    unfold World.cell?
    rw [hn]
    rfl
  · refine ⟨u, ?_, h2.below hb⟩
    unfold World.cell?
    rw [hn]
    rfl
theorem sum_nine : sumL ([[49, 50, 51, 52], [53, 54, 55, 56, 57]] : List (List UInt8)).flatten = 3421780262 := by kernel_rfl

/-- A literal of bytes, marked or not. -/
theorem IsB.lit (w : World) (D : List UInt8) (cs : Array Value) (hc : cs.toList = cellsB D) (hl : D.length ≤ 281474976710656) (fr : Nat × Nat) : IsB (w.alloc (.cells cs 5 fr)) (.slice (some ⟨w.heap.size, 0, none⟩) D.length D.length) D := by
  refine ⟨_, D.length, rfl, Nat.le_refl _, hl, .inr ⟨w.heap.size, 0, rfl, fun i hi => ?_⟩⟩
  rw [Nat.zero_add, World.cell?_alloc_mark, ← Array.getElem?_toList, hc]
  simp [cellsB, hi]
theorem IsB.lit' {w : World} (D : List UInt8) (cs : Array Value) (hc : cs.toList = cellsB D) (hl : D.length ≤ 281474976710656) (fr : Nat × Nat) {g n : Nat} (hg : g = w.heap.size) (hn : n = D.length) : IsB (w.alloc (.cells cs 5 fr)) (.slice (some ⟨g, 0, none⟩) n n) D := by
  subst hg hn; exact IsB.lit w D cs hc hl fr
theorem conv_lit (w : World) (C : Array Value) (n c g : Nat) (hg : g = w.heap.size) : (convert 23 23 (.slice (some ⟨g, 0, none⟩) n c)).run Try.prog (w.alloc (.cells C 5)) = .ok (.slice (some ⟨g, 0, none⟩) n c) (w.alloc (.cells C 5 (C.size, C.size + 1))) := by
  subst hg; exact Lib.run_convert_bytes_const w 23 5 C n c Try.underlying23 Try.underlying5

set_option maxRecDepth 100000 in
set_option maxHeartbeats 2000000 in
/-- The program answers. -/
theorem awake_any (w : World) : Calls Try.prog 11 #[] w fun e w' => e = .returned (.bool true) ∧ Below w.heap.size w w' := by
  have HI0 : Hid (IsB (w.alloc (.cells #[.int .u8 97] 5 (1, 2))) (.slice (some ⟨w.heap.size, 0, none⟩) 1 1) [97]) := IsB.lit w [97] #[.int .u8 97] (by simp [cellsB]) (by simp) _
  have HB0 : Hid (Below w.heap.size w (w.alloc (.cells #[.int .u8 97] 5 (1, 2)))) := (Below.refl _ _).alloc (Nat.le_refl _) _
  have HS : Hid (sealL 2 [97] = (frameL 2 [97], 0)) := rfl
  have kc := conv_lit w #[.int .u8 97] 1 1 w.heap.size rfl
  go_enter Try.func11, Try.ntmps11
  go_wp2_with fail
  refine (seal_any 2 _ [97] _ HI0.out).mono ?_
  rintro e w1 ⟨v1, rfl, ho1, hb1⟩
  rw [HS.out] at ho1 ⊢
  simp only at ho1 ⊢
  have HB1 : Hid (Below w.heap.size w w1) := HB0.out.trans (hb1.mono HB0.out.size)
  obtain ⟨a1, c1, rfl, hc1, r1⟩ := ho1.rows
  obtain ⟨b1, o1, rfl, hbb, hlt, g1⟩ := r1.resolve_left (by intro e; cases e)
  have x0 : w1.cell? ⟨b1, o1, none⟩ = some (.int .u8 2) := g1 0 (by rw [frameL_length]; simp)
  have x5 : w1.cell? ⟨b1, o1 + 5, none⟩ = some (.int .u8 97) := g1 5 (by rw [frameL_length]; simp)
  rw [show (frameL 2 [97]).length = 10 from rfl] at hc1 ⊢
  have HI2 : Hid (∀ W, W = w1.alloc (.cells #[.int .u8 49, .int .u8 50, .int .u8 51, .int .u8 52] 5 (4, 5)) → IsBB ((W.alloc (.cells #[.int .u8 53, .int .u8 54, .int .u8 55, .int .u8 56, .int .u8 57] 5 (5, 6))).alloc (.cells #[.slice (some ⟨w1.heap.size, 0, none⟩) 4 4, .slice (some ⟨w1.heap.size + 1, 0, none⟩) 5 5] 23)) (.slice (some ⟨w1.heap.size + 1 + 1, 0, none⟩) 2 2) [[49, 50, 51, 52], [53, 54, 55, 56, 57]] ∧ Below w1.heap.size w1 ((W.alloc (.cells #[.int .u8 53, .int .u8 54, .int .u8 55, .int .u8 56, .int .u8 57] 5 (5, 6))).alloc (.cells #[.slice (some ⟨w1.heap.size, 0, none⟩) 4 4, .slice (some ⟨w1.heap.size + 1, 0, none⟩) 5 5] 23))) := by
    intro W hW
    subst hW
    have e1 : (w1.alloc (.cells #[.int .u8 49, .int .u8 50, .int .u8 51, .int .u8 52] 5 (4, 5))).heap.size = w1.heap.size + 1 := by simp
    have i1 : IsB (w1.alloc (.cells #[.int .u8 49, .int .u8 50, .int .u8 51, .int .u8 52] 5 (4, 5))) (.slice (some ⟨w1.heap.size, 0, none⟩) 4 4) [49, 50, 51, 52] := IsB.lit' [49, 50, 51, 52] _ (by simp [cellsB]) (by simp) _ rfl rfl
    have b1 : Below w1.heap.size w1 (w1.alloc (.cells #[.int .u8 49, .int .u8 50, .int .u8 51, .int .u8 52] 5 (4, 5))) := (Below.refl _ _).alloc (Nat.le_refl _) _
    generalize w1.alloc (.cells #[.int .u8 49, .int .u8 50, .int .u8 51, .int .u8 52] 5 (4, 5)) = W at *
    have e2 : (W.alloc (.cells #[.int .u8 53, .int .u8 54, .int .u8 55, .int .u8 56, .int .u8 57] 5 (5, 6))).heap.size = w1.heap.size + 1 + 1 := by simp [e1]
    have i2 : IsB (W.alloc (.cells #[.int .u8 53, .int .u8 54, .int .u8 55, .int .u8 56, .int .u8 57] 5 (5, 6))) (.slice (some ⟨w1.heap.size + 1, 0, none⟩) 5 5) [53, 54, 55, 56, 57] := IsB.lit' [53, 54, 55, 56, 57] _ (by simp [cellsB]) (by simp) _ e1.symm rfl
    have b2 : Below W.heap.size W (W.alloc (.cells #[.int .u8 53, .int .u8 54, .int .u8 55, .int .u8 56, .int .u8 57] 5 (5, 6))) := (Below.refl _ _).alloc (Nat.le_refl _) _
    have i3 := i1.below b2
    have b3 := b1.trans (b2.mono b1.size)
    generalize W.alloc (.cells #[.int .u8 53, .int .u8 54, .int .u8 55, .int .u8 56, .int .u8 57] 5 (5, 6)) = V at *
    have i4 := IsBB.two i3 i2 23
    rw [e2] at i4
    exact ⟨i4, b3.alloc b3.size _⟩
  have kc2 := conv_lit w1 #[.int .u8 49, .int .u8 50, .int .u8 51, .int .u8 52] 4 4 w1.heap.size rfl
  have kc3 := conv_lit (w1.alloc (.cells #[.int .u8 49, .int .u8 50, .int .u8 51, .int .u8 52] 5 (4, 5))) #[.int .u8 53, .int .u8 54, .int .u8 55, .int .u8 56, .int .u8 57] 5 5 (w1.heap.size + 1) (by simp)
  clear ho1 hb1 r1 g1
  go_wp2_with fail
  refine (sum_any _ _ _ (HI2.out _ rfl).1).mono ?_
  rintro e w' ⟨rfl, rfl⟩
  rw [sum_nine]
  go_wp2
  go_ret
  exact ⟨rfl, HB1.out.trans ((HI2.out _ rfl).2.mono HB1.out.size)⟩

end Go.Proofs.Ytcdnppiigejjgaa
