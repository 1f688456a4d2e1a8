/- What kindText, stampText, clockText and afterText do; rows of texts of the call's own, and strings.Join of them with blanks. -/
import Derived.Test.YtaocjmipjibiaabGreatDoorChE
import Derived.Test.YtaocjmipjibiaabGreatDoorChQ
import Derived.Test.YtaocjmipjibiaabGreatDoorTxA
import Derived.Deep.AppendLies
namespace Go.Proofs.YtaocjmipjibiaabGreatDoor
open Go.RowKit
set_option linter.unusedVariables false
set_option linter.unusedSimpArgs false

set_option maxHeartbeats 1000000 in
theorem kindText_any (k : Int) (w : World) :
    Calls Tryz.prog 13 #[.int .i64 k] w fun e w' => e = .returned (.string (txt (kindL k))) ∧ w' = w := by
  by_cases h1 : k = 1
  · subst h1
    go_enter Tryz.func13, Tryz.ntmps13
    go_wp2
    go_ret
    exact ⟨rfl, rfl⟩
  by_cases h2 : k = 2
  · subst h2
    go_enter Tryz.func13, Tryz.ntmps13
    go_wp2
    go_ret
    exact ⟨rfl, rfl⟩
  by_cases h3 : k = 3
  · subst h3
    go_enter Tryz.func13, Tryz.ntmps13
    go_wp2
    go_ret
    exact ⟨rfl, rfl⟩
  by_cases h4 : k = 4
  · subst h4
    go_enter Tryz.func13, Tryz.ntmps13
    go_wp2
    go_ret
    exact ⟨rfl, rfl⟩
  by_cases h5 : k = 5
  · subst h5
    go_enter Tryz.func13, Tryz.ntmps13
    go_wp2
    go_ret
    exact ⟨rfl, rfl⟩
  have HE : Hid (kindL k = []) := by show _ = _; simp [kindL, h1, h2, h3, h4, h5]
  have q1 : (k == 1) = false := by simp [h1]
  have q2 : (k == 2) = false := by simp [h2]
  have q3 : (k == 3) = false := by simp [h3]
  have q4 : (k == 4) = false := by simp [h4]
  have q5 : (k == 5) = false := by simp [h5]
  clear h1 h2 h3 h4 h5
  go_enter Tryz.func13, Tryz.ntmps13
  go_wp2
  go_ret
  exact ⟨by rw [HE.out]; rfl, rfl⟩

set_option maxHeartbeats 1000000 in
theorem stampText_any (c r : Int) (w : World) (he : Env w) :
    Calls Tryz.prog 14 #[.agg #[.int .i64 c, .int .i64 r]] w fun e w' => e = .returned (.string (txt (textL c r))) ∧ Below w.heap.size w w' := by
  have HEnv : Hid (Env w) := he
  clear he
  have K0 := KeptC.start w [.int .i64 c, .int .i64 r] 23
  go_enter Tryz.func14, Tryz.ntmps14
  go_wp2_with fail
  refine (textS_any c r _ (HEnv.out.below K0.2.2)).mono ?_
  rintro e w1 ⟨rfl, hb1⟩
  have K1 := K0.step hb1
  go_wp2
  go_ret
  exact ⟨rfl, K1.2.2⟩

set_option maxHeartbeats 1000000 in
theorem clockText_any (v : Value) (d : List Int) (w : World) (h1 : IsI w v d) (he : Env w) :
    Calls Tryz.prog 16 #[v] w fun e w' => e = .returned (.string (txt (textC d))) ∧ Below w.heap.size w w' := by
  have HEnv : Hid (Env w) := he
  have H1 : Hid (IsI w v d) := h1
  clear he h1
  go_enter Tryz.func16, Tryz.ntmps16
  go_wp2_with fail
  refine (text_any v d _ H1.out HEnv.out).mono ?_
  rintro e w1 ⟨rfl, hb1⟩
  go_wp2
  go_ret
  exact ⟨rfl, hb1⟩

set_option maxHeartbeats 1000000 in
theorem afterText_any (c r : Int) (w : World) (he : Env w) :
    Calls Tryz.prog 18 #[.agg #[.int .i64 c, .int .i64 r]] w fun e w' => e = .returned (.string (txt (afterL c r))) ∧ Below w.heap.size w w' := by
  have HEnv : Hid (Env w) := he
  clear he
  have K0 := KeptC.start w [.int .i64 c, .int .i64 r] 23
  cases h : rootB c r
  · have HE : Hid (afterL c r = textL c r) := by show _ = _; simp [afterL, h]
    go_enter Tryz.func18, Tryz.ntmps18
    go_wp2_with fail
    refine (isZero_any _ _ _).mono ?_
    rintro e w1 ⟨rfl, hb1⟩
    rw [h]
    have K1 := K0.step hb1
    have k0 := K1.1 0 _ rfl
    have k1 := K1.1 1 _ rfl
    go_wp2_with fail
    refine (stampText_any c r _ (HEnv.out.below K1.2.2)).mono ?_
    rintro e w2 ⟨rfl, hb2⟩
    have K2 := K1.step hb2
    go_wp2
    go_ret
    exact ⟨by rw [HE.out]; rfl, K2.2.2⟩
  · have HE : Hid (afterL c r = [45]) := by show _ = _; simp [afterL, h]
    go_enter Tryz.func18, Tryz.ntmps18
    go_wp2_with fail
    refine (isZero_any _ _ _).mono ?_
    rintro e w1 ⟨rfl, hb1⟩
    rw [h]
    have K1 := K0.step hb1
    go_wp2
    go_ret
    exact ⟨by rw [HE.out]; rfl, K1.2.2⟩

/-- A row of texts of the call's own. -/
def OwnW (B : Nat) (w : World) (v : Value) (n : Nat) (L : List ByteArray) : Prop := w.ownsRow B 9 1 v n (L.map Value.string)
theorem OwnW.made (w : World) (L : List ByteArray) (n : Nat) (hn : n = L.length) (hl : n ≤ 64) {B : Nat} (hB : B ≤ w.heap.size) : OwnW B (w.alloc (.cells (L.map Value.string).toArray 9)) (.slice (some ⟨w.heap.size, 0, none⟩) n n) n L := by
  subst hn
  refine ⟨by simp, .inr ⟨w.heap.size, L.length, (L.map Value.string).toArray, rfl, hB, heap_alloc_new w _, Nat.le_refl _, by unfold maxLen; omega, by simp, ?_⟩⟩
  rw [List.take_of_length_le (by simp)]

set_option maxHeartbeats 1000000 in
set_option maxRecDepth 100000 in
/-- strings.Join of texts, with blanks. -/
theorem joinW_any (B g cap n : Nat) (L : List ByteArray) (w : World) (ho : OwnW B w (.slice (some ⟨g, 0, none⟩) n cap) n L) (hn : n = L.length) (hl : n ≤ 64) (hj : (Lib.join (L.map (·.data.toList)) [32]).length ≤ 1048576) :
    Calls Tryz.prog 20 #[.slice (some ⟨g, 0, none⟩) n cap, .string ⟨#[32]⟩] w fun e w' => e = .returned (.string (txt (Lib.join (L.map (·.data.toList)) [32]))) ∧ Below w.heap.size w w' := by
  subst hn
  have hcap : L.length ≤ cap := by
    rcases ho.2 with ⟨e, _⟩ | ⟨g', cap', cur, e, _, _, hc, _⟩
    · cases e
    · cases e; exact hc
  exact Any.strings_Join Tryz.lays156 joinX g 0 cap L ⟨#[32]⟩ w (fun j x hx => by
    have hjl : j < L.length := (List.getElem?_eq_some_iff.1 hx).1
    rw [show 0 + j = j by omega, World.ownsRow.cellAt ho j (by omega)]
    simp [List.getElem?_map, hx]) (World.ownsRow.lt ho g rfl).2 (by omega) hcap (by show (Lib.join (L.map (·.data.toList)) [32]).length ≤ _; omega)

/-- Where a change's text stands while it is made: the change's box, the box of what its kind has, the row of words. -/
def TxSt (w0 : World) (cs hs : List Value) (gh g cap n : Nat) (L : List ByteArray) (W : World) : Prop :=
  KeptC w0 w0.heap.size cs W ∧ ((∀ i v, hs[i]? = some v → W.cell? ⟨gh, i, none⟩ = some v) ∧ gh < W.heap.size) ∧ g ≠ gh ∧ OwnW (w0.heap.size + 1) W (.slice (some ⟨g, 0, none⟩) n cap) n L
theorem TxSt.below {w0 : World} {cs hs : List Value} {gh g cap n : Nat} {L : List ByteArray} {W W' : World} (h : TxSt w0 cs hs gh g cap n L W) (hb : Below W.heap.size W W') : TxSt w0 cs hs gh g cap n L W' :=
  ⟨h.1.step hb, ⟨fun i v e => (hb.cell (p := ⟨gh, i, none⟩) h.2.1.2).trans (h.2.1.1 i v e), Nat.lt_of_lt_of_le h.2.1.2 hb.size⟩, h.2.2.1, ownsRow_below h.2.2.2 hb⟩
theorem TxSt.app {w0 : World} {cs hs : List Value} {gh g cap n : Nat} {L : List ByteArray} {W W' : World} (h : TxSt w0 cs hs gh g cap n L W) {g2 cap2 n2 : Nat} {L2 : List ByteArray} (ho : OwnW (w0.heap.size + 1) W' (.slice (some ⟨g2, 0, none⟩) n2 cap2) n2 L2) (hg : W.grownBy W' (some g)) (h2 : some g = some g2 ∨ g2 = W.heap.size) : TxSt w0 cs hs gh g2 cap2 n2 L2 W' := by
  obtain ⟨⟨h1, hl, hb⟩, ⟨h3, h4⟩, h5, h6⟩ := h
  have hgb : w0.heap.size + 1 ≤ g := (World.ownsRow.lt h6 g rfl).1
  have hgl : g < W.heap.size := (World.ownsRow.lt h6 g rfl).2
  have hsz := hg.size
  refine ⟨⟨fun i v e => (hg.cell_far ⟨w0.heap.size, i, none⟩ hl (fun e => by injection e with e; simp at e; omega)).trans (h1 i v e), by omega, hb.grown hg (by omega) (fun j e => by injection e with e; omega)⟩, ⟨fun i v e => (hg.cell_far ⟨gh, i, none⟩ h4 (fun e => by injection e with e; simp at e; omega)).trans (h3 i v e), by omega⟩, ?_, ho⟩
  rcases h2 with h2 | h2
  · injection h2 with h2; omega
  · omega

end Go.Proofs.YtaocjmipjibiaabGreatDoor
