/- What strings.Cut does at a blank; a text that is read word by word. -/
import Derived.Test.YtaocjmipjibiaabGreatDoorChT
import Derived.Test.YtaocjmipjibiaabGreatDoorTxC
namespace Go.Proofs.YtaocjmipjibiaabGreatDoor
open Go.RowKit
set_option linter.unusedVariables false
set_option linter.unusedSimpArgs false

theorem indexBlank_not : ∀ (l : List UInt8), (32 : UInt8) ∉ l → Lib.indexByte l 32 = -1 := by
  intro l
  induction l with
  | nil => intro _; rfl
  | cons x y ih =>
    intro h
    simp only [List.mem_cons, not_or] at h
    unfold Lib.indexByte
    rw [if_neg (by simp; exact fun e => h.1 e.symm), ih h.2]
    rfl
theorem indexBlank_at : ∀ (a b : List UInt8), (32 : UInt8) ∉ a → Lib.indexByte (a ++ 32 :: b) 32 = (a.length : Int) := by
  intro a b
  induction a with
  | nil => intro _; rfl
  | cons x y ih =>
    intro h
    simp only [List.mem_cons, not_or] at h
    rw [List.cons_append, Lib.indexByte, if_neg (by simp; exact fun e => h.1 e.symm), ih h.2, if_neg (by simp)]
    simp
theorem blank_exists : ∀ (l : List UInt8), (32 : UInt8) ∈ l → ∃ a b, l = a ++ 32 :: b ∧ (32 : UInt8) ∉ a := by
  intro l
  induction l with
  | nil => intro h; cases h
  | cons x y ih =>
    intro h
    by_cases hx : x = 32
    · exact ⟨[], y, by rw [hx]; rfl, by simp⟩
    · simp only [List.mem_cons] at h
      obtain ⟨a, b, e, hn⟩ := ih (h.resolve_left (fun e => hx e.symm))
      exact ⟨x :: a, b, by rw [e]; rfl, by simp only [List.mem_cons, not_or]; exact ⟨fun e => hx e.symm, hn⟩⟩

set_option maxHeartbeats 400000 in
theorem cutBIn_none (s : ByteArray) (h : (32 : UInt8) ∉ s.data.toList) (w : World) :
    Calls Tryz.prog 87 #[.string s, .string ⟨#[32]⟩] w fun e w' => e = .returned (.tuple #[.string s, .string ⟨#[]⟩, .bool false]) ∧ Below w.heap.size w w' := by
  have hi := indexBlank_not _ h
  go_enter Tryz.func87, Tryz.ntmps87
  go_wp2_with fail
  refine (Any.stringslite_Index_one Tryz.lays219 s 32 _).mono ?_
  rintro e w1 ⟨rfl, rfl⟩
  go_wp2
  go_ret3
  exact ⟨rfl, Below.refl _ _⟩

set_option maxHeartbeats 400000 in
theorem cutBIn_at (s : ByteArray) (i : Nat) (hi : Lib.indexByte s.data.toList 32 = (i : Int)) (hr : i + 1 ≤ s.size) (hs : s.size ≤ 281474976710656) (w : World) :
    Calls Tryz.prog 87 #[.string s, .string ⟨#[32]⟩] w fun e w' => e = .returned (.tuple #[.string (s.extract 0 i), .string (s.extract (i + 1) s.size), .bool true]) ∧ Below w.heap.size w w' := by
  have c1 : (0 : Int) ≤ ↑i := by omega
  have c2 : (↑i : Int) ≤ ↑s.size := by omega
  have c3 : (0 : Int) ≤ ↑i + 1 := by omega
  have c4 : (↑i + 1 : Int) ≤ ↑s.size := by omega
  have HR : Hid (i + 1 ≤ s.size) := hr
  clear hr
  go_enter Tryz.func87, Tryz.ntmps87
  go_wp2_with fail
  refine (Any.stringslite_Index_one Tryz.lays219 s 32 _).mono ?_
  rintro e w1 ⟨rfl, rfl⟩
  rw [hi]
  go_wp2
  go_region
  go_wp2
  go_ret3
  exact ⟨rfl, (Below.refl _ _).drew⟩

/-- What a text is, cut at its first blank. -/
def CutB (s s1 s2 : ByteArray) (b : Bool) : Prop :=
  (b = false ∧ (32 : UInt8) ∉ s.data.toList ∧ s1 = s ∧ s2 = ⟨#[]⟩) ∨ (b = true ∧ s.data.toList = s1.data.toList ++ 32 :: s2.data.toList ∧ (32 : UInt8) ∉ s1.data.toList)

theorem cutBIn_any (s : ByteArray) (hs : s.size ≤ 281474976710656) (w : World) :
    Calls Tryz.prog 87 #[.string s, .string ⟨#[32]⟩] w fun e w' => ∃ s1 s2 b, e = .returned (.tuple #[.string s1, .string s2, .bool b]) ∧ CutB s s1 s2 b ∧ s1.size ≤ 281474976710656 ∧ s2.size ≤ 281474976710656 ∧ Below w.heap.size w w' := by
  by_cases h : (32 : UInt8) ∈ s.data.toList
  · obtain ⟨a, b, e, hn⟩ := blank_exists _ h
    have hz : s.size = a.length + (b.length + 1) := by
      have := congrArg List.length e
      simpa using this
    have g1 : (s.extract 0 a.length).data.toList = a := by rw [← ByteArray.toList_eq, Lib.extract_toList, e]; simp
    have g2 : (s.extract (a.length + 1) s.size).data.toList = b := by
      rw [← ByteArray.toList_eq, Lib.extract_toList, e, hz, List.drop_append, List.take_of_length_le (by simp; omega)]
      simp
    refine (cutBIn_at s a.length (by rw [e]; exact indexBlank_at a b hn) (by omega) hs w).mono fun x w' ⟨hx, hb⟩ => ⟨_, _, _, hx, .inr ⟨rfl, ?_, ?_⟩, ?_, ?_, hb⟩
    · rw [g1, g2]; exact e
    · rw [g1]; exact hn
    · rw [ByteArray.size_extract]; omega
    · rw [ByteArray.size_extract]; omega
  · exact (cutBIn_none s h w).mono fun x w' ⟨hx, hb⟩ => ⟨_, _, _, hx, .inl ⟨rfl, h, rfl, rfl⟩, hs, by simp [ByteArray.size], hb⟩

set_option maxHeartbeats 400000 in
theorem cutB_any (s : ByteArray) (hs : s.size ≤ 281474976710656) (w : World) :
    Calls Tryz.prog 70 #[.string s, .string ⟨#[32]⟩] w fun e w' => ∃ s1 s2 b, e = .returned (.tuple #[.string s1, .string s2, .bool b]) ∧ CutB s s1 s2 b ∧ s1.size ≤ 281474976710656 ∧ s2.size ≤ 281474976710656 ∧ Below w.heap.size w w' := by
  go_enter Tryz.func70, Tryz.ntmps70
  go_wp2_with fail
  refine (cutBIn_any s hs _).mono ?_
  rintro e w1 ⟨s1, s2, b, rfl, h1, h2, h3, hb⟩
  have H1 : Hid (CutB s s1 s2 b) := h1
  clear h1
  go_wp2
  go_ret3
  exact ⟨s1, s2, b, rfl, H1.out, h2, h3, hb⟩

theorem CutB.words {s s1 s2 : ByteArray} {b : Bool} (h : CutB s s1 s2 b) : s1.data.toList = hdW s.data.toList ∧ s2.data.toList = tlW s.data.toList := by
  rcases h with ⟨_, h, rfl, rfl⟩ | ⟨_, h, hn⟩
  · exact ⟨(hdW_no h).symm, (tlW_no h).symm⟩
  · rw [h, hdW_at hn, tlW_at hn]; exact ⟨rfl, rfl⟩

/-- All but the block g lies as it lay. -/
def Out (g : Nat) (w w' : World) : Prop := Below g w w' ∧ ∀ j, j < w.heap.size → j ≠ g → w'.heap[j]? = w.heap[j]?
theorem Out.size {g : Nat} {w w' : World} (h : Out g w w') : w.heap.size ≤ w'.heap.size := h.1.size
theorem Out.refl (g : Nat) (w : World) : Out g w w := ⟨Below.refl _ _, fun _ _ _ => rfl⟩
theorem Out.below {g : Nat} {w w1 w2 : World} (h : Out g w w1) (hg : g ≤ w1.heap.size) (hb : Below w1.heap.size w1 w2) : Out g w w2 :=
  ⟨h.1.trans (hb.mono hg), fun j hj hne => (hb.block j (Nat.lt_of_lt_of_le hj h.size)).trans (h.2 j hj hne)⟩
theorem Out.trans {g : Nat} {w w1 w2 : World} (h : Out g w w1) (h2 : Out g w1 w2) : Out g w w2 :=
  ⟨h.1.trans h2.1, fun j hj hne => (h2.2 j (Nat.lt_of_lt_of_le hj h.size) hne).trans (h.2 j hj hne)⟩
/-- The block of a text that is read. -/
def WdIs (w : World) (g : Nat) (s : ByteArray) : Prop := w.heap[g]? = some (.cells #[.string s] 72)
theorem WdIs.lt {w : World} {g : Nat} {s : ByteArray} (h : WdIs w g s) : g < w.heap.size := (Array.getElem?_eq_some_iff.1 h).1
theorem WdIs.below {w w' : World} {g : Nat} {s : ByteArray} (h : WdIs w g s) (hb : Below w.heap.size w w') : WdIs w' g s := (hb.block g h.lt).trans h

set_option maxHeartbeats 1000000 in
set_option maxRecDepth 100000 in
/-- (*words).next. -/
theorem next_any (g : Nat) (s : ByteArray) (w : World) (h : WdIs w g s) (hs : s.size ≤ 281474976710656) :
    Calls Tryz.prog 49 #[.pointer (some ⟨g, 0, none⟩)] w fun e w' => ∃ s1 s2, e = .returned (.string s1) ∧ (s1.data.toList = hdW s.data.toList ∧ s2.data.toList = tlW s.data.toList) ∧ (s1.size ≤ 281474976710656 ∧ s2.size ≤ 281474976710656) ∧ WdIs w' g s2 ∧ Out g w w' := by
  have H : Hid (WdIs w g s) := h
  have c0 : w.cell? ⟨g, 0, none⟩ = some (.string s) := by rw [cell_of_row w g 0 _ _ _ h]; rfl
  clear h
  go_enter Tryz.func49, Tryz.ntmps49
  go_wp2_with fail
  refine (cutB_any s hs _).mono ?_
  rintro e w1 ⟨s1, s2, b, rfl, hc, h1, h2, hb⟩
  have HC : Hid (CutB s s1 s2 b) := hc
  have H1 : Hid (WdIs w1 g s) := H.out.below hb
  have c1 : w1.cell? ⟨g, 0, none⟩ = some (.string s) := by rw [cell_of_row w1 g 0 _ _ _ H1.out]; rfl
  have f1 : w1.frozen? ⟨g, 0, none⟩ = false := frozen_of_row w1 g 0 _ _ H1.out
  have HB : Hid (Below w.heap.size w w1) := hb
  clear hc hb c0
  go_wp2
  go_ret
  refine ⟨s1, s2, rfl, HC.out.words, ⟨h1, h2⟩, ?_, ?_⟩
  · exact heap_setCell_same w1 g 0 _ _ _ H1.out
  · refine ⟨((HB.out.mono (Nat.le_of_lt H.out.lt)).setCell (Nat.le_refl _) _), fun j hj hne => ?_⟩
    rw [heap_setCell_other w1 ⟨g, 0, none⟩ j _ hne]
    exact HB.out.block j hj

end Go.Proofs.YtaocjmipjibiaabGreatDoor
