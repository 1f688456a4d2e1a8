/- The walk of IdentTexts: for every stamp and every text it returns true. -/
import Derived.Test.YtmfnfekkemoliaaDoorWalksZ
namespace Go.Proofs.YtmfnfekkemoliaaDoor
open Go.RowKit
set_option linter.unusedVariables false

set_option maxHeartbeats 1000000 in
theorem identTexts_walk (c r : Int) (t : ByteArray) (w : World) (_ : (Lit.int .i64 c).wf = true) (_ : (Lit.int .i64 r).wf = true) (ht : t.size ≤ 281474976710656) (he : Env w) :
    Calls Tryd.prog 6 #[.agg #[.int .i64 c, .int .i64 r], .string t] w fun e w' => e = .returned (.bool true) ∧ Below w.heap.size w w' := by
  go_enter Tryd.func6, Tryd.ntmps6
  go_wp2_with fail
  refine (text_any _ _ _ (he.below ((Below.refl _ _).alloc (Nat.le_refl _) _))).mono ?_
  rintro e w1 ⟨rfl, hb1⟩
  have hc1 := fun (b o : Nat) (h : b < _) => hb1.cell (p := ⟨b, o, none⟩) h
  have z1 : w.heap.size < w1.heap.size := by have := hb1.size; simp at this; omega
  have bel1 : Below w.heap.size w w1 := ((Below.refl _ _).alloc (Nat.le_refl _) _).trans (hb1.mono (by simp))
  go_wp2_with fail
  refine (refText_any _ _ _).mono ?_
  rintro e w2 ⟨rfl, hb2⟩
  have z2 : w.heap.size < w2.heap.size := by have := hb2.size; omega
  have bel2 : Below w.heap.size w w2 := bel1.trans (hb2.mono (by omega))
  go_wp2_with fail
  refine (parse_any t ht _ (he.below bel2)).mono ?_
  rintro e w3 ⟨c2, r2, k2, rfl, h1, hb3⟩
  have P1 : Hid (ParseIs t.data.toList c2 r2 k2) := h1
  clear h1
  have z3 : w.heap.size < w3.heap.size := by have := hb3.size; omega
  have bel3 : Below w.heap.size w w3 := bel2.trans (hb3.mono (by omega))
  have bel4 := bel3.alloc (Nat.le_of_lt z3) (.cells #[.int .i64 c2, .int .i64 r2] 23)
  go_wp2_with fail
  refine (refParse_any t ht _).mono ?_
  rintro e w5 ⟨c3, r3, k3, rfl, h1, hb5⟩
  obtain ⟨rfl, rfl, rfl⟩ := P1.out.unique h1
  clear h1
  have hc5 := fun (b o : Nat) (h : b < _) => hb5.cell (p := ⟨b, o, none⟩) h
  have z5 : w3.heap.size < w5.heap.size := by have := hb5.size; simp at this; omega
  have bel5 : Below w.heap.size w w5 := bel4.trans (hb5.mono (by simp; omega))
  have bel6 := bel5.alloc (by omega) (.cells #[.int .i64 c2, .int .i64 r2] 23)
  go_wp2_with fail
  refine (awake_any _).mono ?_
  rintro e w7 ⟨rfl, hb7⟩
  go_wp2
  go_ret
  exact ⟨rfl, bel6.trans (hb7.mono (by simp; omega))⟩

end Go.Proofs.YtmfnfekkemoliaaDoor
