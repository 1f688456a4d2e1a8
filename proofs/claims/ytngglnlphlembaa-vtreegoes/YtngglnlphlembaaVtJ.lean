/- Does the program answer? -/
import Derived.Test.YtngglnlphlembaaVtI
namespace Go.Proofs.Ytngglnlphlembaa
open Go.RowKit
set_option linter.unusedVariables false
set_option linter.unusedSimpArgs false

def tR : VT := .node (0, 0) ⟨#[114, 111, 111, 116]⟩ ⟨#[]⟩ [] []
def tZ : VT := .node (0, 0) ⟨#[]⟩ ⟨#[]⟩ [] []
theorem fdNil (G : Nat → Prop) (w : World) : FdIs G w (.slice none 0 0) (.slice none 0 0) [] [] := ⟨LsE.nil w none 0, by simp, none, 0, rfl, Nat.le_refl _, by simp, .inl rfl⟩
theorem visR (w : World) : VIs (fun _ => False) w (.agg #[.int .i64 0, .int .i64 0, .string ⟨#[114, 111, 111, 116]⟩, .string ⟨#[]⟩, .slice none 0 0, .slice none 0 0]) tR := ⟨_, _, rfl, fdNil _ w⟩
theorem visZ (w : World) : VIs (fun _ => False) w (.agg #[.int .i64 0, .int .i64 0, .string ⟨#[]⟩, .string ⟨#[]⟩, .slice none 0 0, .slice none 0 0]) tZ := ⟨_, _, rfl, fdNil _ w⟩
theorem chkR_r : chkT tR = 0 := by decide +kernel
theorem chkZ_r : chkT tZ = 8 := by decide +kernel
theorem szR : tR.sz = 1 := by decide +kernel
theorem szZ : tZ.sz = 1 := by decide +kernel
theorem dpR : dpT tR = 1 := by decide +kernel
theorem bnR : BnA tR := fun x hx => by
  simp [tR, flatD, flatDs] at hx
  subst hx
  exact ⟨by decide +kernel, fun y hy => by simp [VT.at_] at hy⟩
theorem bnZ : BnA tZ := fun x hx => by
  simp [tZ, flatD, flatDs] at hx
  subst hx
  exact ⟨by decide +kernel, fun y hy => by simp [VT.at_] at hy⟩

set_option maxRecDepth 100000 in
set_option maxHeartbeats 4000000 in
theorem awake_any (w : World) : Calls Try.prog 5 #[] w fun e w' => e = .returned (.bool true) ∧ Below w.heap.size w w' := by
  go_enter Try.func5, Try.ntmps5
  go_wp2_with fail
  refine (of_nil _).mono ?_
  rintro e w1 ⟨rfl, hb1⟩
  obtain ⟨w2, ew2⟩ : ∃ X, X = w1.alloc (.cells #[.int .i64 0, .int .i64 0, .string ⟨#[114, 111, 111, 116]⟩, .string ⟨#[]⟩, .slice none 0 0, .slice none 0 0] 27) := ⟨_, rfl⟩
  have hb2 : Below w1.heap.size w1 w2 := by rw [ew2]; exact (Below.refl _ _).alloc (Nat.le_refl _) _
  obtain ⟨tb, etb⟩ : ∃ b, b = w1.heap.size := ⟨_, rfl⟩
  have HT : Hid (w2.heap[tb]? = some (.cells #[.int .i64 0, .int .i64 0, .string ⟨#[114, 111, 111, 116]⟩, .string ⟨#[]⟩, .slice none 0 0, .slice none 0 0] 27)) := by rw [ew2, etb]; exact heap_alloc_new _ _
  have HB : Hid (Below w.heap.size w w2) := hb1.trans (hb2.mono hb1.size)
  have HE := hide9 (And.intro ew2 etb)
  have hs : (ByteArray.toList ⟨#[114, 111, 111, 116]⟩ == ByteArray.toList ⟨#[114, 111, 111, 116]⟩) = true := by simp
  clear hb1 hb2 ew2 etb
  go_wp2_with fail
  rw [← HE.out.1, ← HE.out.2]
  clear HE
  refine (check_any _ tR _ _ (visR _) (by rw [szR]; decide) bnR).mono ?_
  rintro e w3 ⟨rfl, hb⟩
  rw [chkR_r]
  replace HT : Hid (w3.heap[tb]? = some (.cells #[.int .i64 0, .int .i64 0, .string ⟨#[114, 111, 111, 116]⟩, .string ⟨#[]⟩, .slice none 0 0, .slice none 0 0] 27)) := (hb.block _ (row_lt HT.out)).trans HT.out
  replace HB : Hid (Below w.heap.size w w3) := HB.out.trans (hb.mono HB.out.size)
  clear hb
  obtain ⟨n0, n1, n2, n3, n4, n5⟩ := row6 HT.out
  go_wp2_with fail
  clear n0 n1 n2 n3 n4 n5
  refine (count_any _ tR _ _ (visR _) (by rw [szR]; decide)).mono ?_
  rintro e w4 ⟨rfl, hb⟩
  rw [szR]
  replace HT : Hid (w4.heap[tb]? = some (.cells #[.int .i64 0, .int .i64 0, .string ⟨#[114, 111, 111, 116]⟩, .string ⟨#[]⟩, .slice none 0 0, .slice none 0 0] 27)) := (hb.block _ (row_lt HT.out)).trans HT.out
  replace HB : Hid (Below w.heap.size w w4) := HB.out.trans (hb.mono HB.out.size)
  clear hb
  obtain ⟨n0, n1, n2, n3, n4, n5⟩ := row6 HT.out
  go_wp2_with fail
  clear n0 n1 n2 n3 n4 n5
  refine (depth_any _ tR _ _ (visR _) (by rw [szR]; decide)).mono ?_
  rintro e w5 ⟨rfl, hb⟩
  rw [dpR]
  replace HB : Hid (Below w.heap.size w w5) := HB.out.trans (hb.mono HB.out.size)
  clear hb HT
  go_wp2_with fail
  refine (check_any _ tZ _ _ (visZ _) (by rw [szZ]; decide) bnZ).mono ?_
  rintro e w6 ⟨rfl, hb⟩
  rw [chkZ_r]
  replace HB : Hid (Below w.heap.size w w6) := HB.out.trans (hb.mono HB.out.size)
  clear hb
  go_wp2
  go_ret
  exact ⟨rfl, HB.out⟩

end Go.Proofs.Ytngglnlphlembaa
