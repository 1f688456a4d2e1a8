/- The walk of ChangeQuotes: for any two texts up to 1048576 letters it returns true. -/
import Derived.Test.YtaocjmipjibiaaaGreatDoorChRu
import Derived.Test.YtaocjmipjibiaaaGreatDoorChWk
namespace Go.Proofs.YtaocjmipjibiaaaGreatDoor
open Go.RowKit
set_option linter.unusedVariables false
set_option linter.unusedSimpArgs false

theorem txt_self (s : ByteArray) : txt s.data.toList = s := by cases s; simp [txt]

set_option maxRecDepth 100000 in
set_option maxHeartbeats 8000000 in
theorem changeQuotes_walk (s t : ByteArray) (w : World) (hs : s.size ≤ 1048576) (ht : t.size ≤ 1048576) (he : Env w) :
    Calls Tryz.prog 6 #[.string s, .string t] w fun e w' => e = .returned (.bool true) ∧ Below w.heap.size w w' := by
  have HEnv : Hid (Env w) := he
  clear he
  obtain ⟨u, eu⟩ : ∃ u : ByteArray, u = txt (quoteL s.data.toList) := ⟨_, rfl⟩
  have HU : Hid (u = txt (quoteL s.data.toList)) := eu
  have HUL : Hid (u.data.toList = quoteL s.data.toList) := by show _ = _; rw [eu]; simp [txt]
  have huz : u.size ≤ 3145730 := by
    have h1 := (bodyL_len s.data.toList).2
    have h2 := quoteL_len s.data.toList
    rw [← HUL.out, size_list] at h2
    rw [size_list] at h1
    omega
  have HQ : Hid (∀ W, Calls Tryz.prog 25 #[.string s] W fun e w' => e = .returned (.string u) ∧ Below W.heap.size W w') := fun W => by rw [HU.out]; exact quote_any s (by omega) W
  have HR : Hid (∀ W, Calls Tryz.prog 26 #[.string s] W fun e w' => e = .returned (.string u) ∧ Below W.heap.size W w') := fun W => by rw [HU.out]; exact refQuote_any s (by omega) W
  clear eu
  go_enter Tryz.func6, Tryz.ntmps6
  go_wp2_with fail
  refine (unquote_any t (by omega) _).mono ?_
  rintro e w1 ⟨ta, oa, rfl, ha, -, hb1⟩
  have HA : Hid (UnqIs t.data.toList ta oa) := ha
  clear ha
  go_wp2_with fail
  refine (refUnquote_any t (by omega) _).mono ?_
  rintro e w2 ⟨tb, ob, rfl, hbq, -, hb2⟩
  obtain ⟨rfl, rfl⟩ := HA.out.unique hbq
  have HB2 : Hid (Below w.heap.size w w2) := hb1.trans (hb2.mono hb1.size)
  clear hb1 hb2 hbq
  have hz2 := HB2.out.size
  go_wp2_with fail
  refine (HQ.out _).mono ?_
  rintro e w3 ⟨rfl, hb3⟩
  have HB3 : Hid (Below w.heap.size w w3) := HB2.out.trans (hb3.mono hz2)
  clear hb3
  go_wp2_with fail
  refine (unquote_any u (by omega) _).mono ?_
  rintro e w4 ⟨tc, oc, rfl, hcq, -, hb4⟩
  rw [HUL.out] at hcq
  obtain ⟨rfl, rfl⟩ := hcq.back
  rw [txt_self]
  have HB4 : Hid (Below w.heap.size w w4) := HB3.out.trans (hb4.mono HB3.out.size)
  clear hb4 hcq
  go_wp2_with fail
  refine (HQ.out _).mono ?_
  rintro e w5 ⟨rfl, hb5⟩
  have HB5 : Hid (Below w.heap.size w w5) := HB4.out.trans (hb5.mono HB4.out.size)
  clear hb5
  go_wp2_with fail
  refine (HR.out _).mono ?_
  rintro e w6 ⟨rfl, hb6⟩
  have HB6 : Hid (Below w.heap.size w w6) := HB5.out.trans (hb6.mono HB5.out.size)
  clear hb6
  have q1 : (u.toList == u.toList) = true := by simp
  have q2 : (s.toList == s.toList) = true := by simp
  have q3 : ((txt ta).toList == (txt ta).toList) = true := by simp
  have q4 : (oa == oa) = true := by simp
  go_wp2_with fail
  refine (awake5_any _ (HEnv.out.below HB6.out)).mono ?_
  rintro e w7 ⟨rfl, hb7⟩
  have HB7 : Hid (Below w.heap.size w w7) := HB6.out.trans (hb7.mono HB6.out.size)
  clear hb7
  go_wp2
  go_ret
  exact ⟨rfl, HB7.out⟩

end Go.Proofs.YtaocjmipjibiaaaGreatDoor
