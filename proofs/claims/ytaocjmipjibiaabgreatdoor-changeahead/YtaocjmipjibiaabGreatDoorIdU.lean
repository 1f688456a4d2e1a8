/- What strings.Cut does at a point, what parseRight and Parse make of any text. -/
import Derived.Test.YtaocjmipjibiaabGreatDoorWalksT
namespace Go.Proofs.YtaocjmipjibiaabGreatDoor
open Go.RowKit
set_option linter.unusedVariables false

set_option maxHeartbeats 400000 in
theorem cutIn_none (s : ByteArray) (h : (46 : UInt8) ∉ s.data.toList) (w : World) :
    Calls Tryz.prog 87 #[.string s, .string ⟨#[46]⟩] w fun e w' => e = .returned (.tuple #[.string s, .string ⟨#[]⟩, .bool false]) ∧ Below w.heap.size w w' := by
  have hi := indexByte_not _ h
  go_enter Tryz.func87, Tryz.ntmps87
  go_wp2_with fail
  refine (Any.stringslite_Index_one Tryz.lays219 s 46 _).mono ?_
  rintro e w1 ⟨rfl, rfl⟩
  go_wp2
  go_ret3
  exact ⟨rfl, Below.refl _ _⟩

set_option maxHeartbeats 400000 in
theorem cutIn_at (s : ByteArray) (i : Nat) (hi : Lib.indexByte s.data.toList 46 = (i : Int)) (hr : i + 1 ≤ s.size) (hs : s.size ≤ 281474976710656) (w : World) :
    Calls Tryz.prog 87 #[.string s, .string ⟨#[46]⟩] w fun e w' => e = .returned (.tuple #[.string (s.extract 0 i), .string (s.extract (i + 1) s.size), .bool true]) ∧ Below w.heap.size w w' := by
  have c1 : (0 : Int) ≤ ↑i := by omega
  have c2 : (↑i : Int) ≤ ↑s.size := by omega
  have c3 : (0 : Int) ≤ ↑i + 1 := by omega
  have c4 : (↑i + 1 : Int) ≤ ↑s.size := by omega
  have HR : Hid (i + 1 ≤ s.size) := hr
  clear hr
  go_enter Tryz.func87, Tryz.ntmps87
  go_wp2_with fail
  refine (Any.stringslite_Index_one Tryz.lays219 s 46 _).mono ?_
  rintro e w1 ⟨rfl, rfl⟩
  rw [hi]
  go_wp2
  go_region
  go_wp2
  go_ret3
  exact ⟨rfl, (Below.refl _ _).drew⟩

/-- What a text is, cut at its first point. -/
def CutIs (l : List UInt8) (s1 s2 : ByteArray) (b : Bool) : Prop :=
  (b = false ∧ (46 : UInt8) ∉ l) ∨ (b = true ∧ l = s1.data.toList ++ 46 :: s2.data.toList ∧ (46 : UInt8) ∉ s1.data.toList)

theorem cutIn_any (s : ByteArray) (hs : s.size ≤ 281474976710656) (w : World) :
    Calls Tryz.prog 87 #[.string s, .string ⟨#[46]⟩] w fun e w' => ∃ s1 s2 b, e = .returned (.tuple #[.string s1, .string s2, .bool b]) ∧ CutIs s.data.toList s1 s2 b ∧ s1.size ≤ 281474976710656 ∧ s2.size ≤ 281474976710656 ∧ Below w.heap.size w w' := by
  by_cases h : (46 : UInt8) ∈ s.data.toList
  · obtain ⟨a, b, e, hn⟩ := cut_exists _ h
    have hz : s.size = a.length + (b.length + 1) := by
      have := congrArg List.length e
      simpa using this
    have g1 : (s.extract 0 a.length).data.toList = a := by rw [← ByteArray.toList_eq, Lib.extract_toList, e]; simp
    have g2 : (s.extract (a.length + 1) s.size).data.toList = b := by
      rw [← ByteArray.toList_eq, Lib.extract_toList, e, hz, List.drop_append, List.take_of_length_le (by simp; omega)]
      simp
    refine (cutIn_at s a.length (by rw [e]; exact indexByte_at a b hn) (by omega) hs w).mono fun x w' ⟨hx, hb⟩ => ⟨_, _, _, hx, .inr ⟨rfl, ?_, ?_⟩, ?_, ?_, hb⟩
    · rw [g1, g2]; exact e
    · rw [g1]; exact hn
    · rw [ByteArray.size_extract]; omega
    · rw [ByteArray.size_extract]; omega
  · exact (cutIn_none s h w).mono fun x w' ⟨hx, hb⟩ => ⟨_, _, _, hx, .inl ⟨rfl, h⟩, hs, by simp [ByteArray.size], hb⟩

set_option maxHeartbeats 400000 in
theorem cut_any (s : ByteArray) (hs : s.size ≤ 281474976710656) (w : World) :
    Calls Tryz.prog 70 #[.string s, .string ⟨#[46]⟩] w fun e w' => ∃ s1 s2 b, e = .returned (.tuple #[.string s1, .string s2, .bool b]) ∧ CutIs s.data.toList s1 s2 b ∧ s1.size ≤ 281474976710656 ∧ s2.size ≤ 281474976710656 ∧ Below w.heap.size w w' := by
  go_enter Tryz.func70, Tryz.ntmps70
  go_wp2_with fail
  refine (cutIn_any s hs _).mono ?_
  rintro e w1 ⟨s1, s2, b, rfl, h1, h2, h3, hb⟩
  have H1 : Hid (CutIs s.data.toList s1 s2 b) := h1
  clear h1
  go_wp2
  go_ret3
  exact ⟨s1, s2, b, rfl, H1.out, h2, h3, hb⟩

/-- What parseRight tells. -/
def StampIs (l : List UInt8) (c r k : Int) : Prop :=
  (RightP c r ∧ l = stampL c r ∧ k = 0) ∨ ((∀ c2 r2, RightP c2 r2 → l ≠ stampL c2 r2) ∧ c = 0 ∧ r = 0 ∧ k = 2)

theorem rightP_iff (c r : Int) : rightB c r = true ↔ RightP c r := by simp [rightB, RightP]

theorem stampIs_nocut (l : List UInt8) (h : (46 : UInt8) ∉ l) : StampIs l 0 0 2 :=
  .inr ⟨fun c2 r2 _ e => h (e ▸ point_in_stampL c2 r2), rfl, rfl, rfl⟩
theorem stampIs_bad1 {l : List UInt8} {s1 s2 : ByteArray} {n : Int} (hc : CutIs l s1 s2 true) (h : NumIs s1.data.toList n false) : StampIs l 0 0 2 := by
  rcases hc with ⟨h0, _⟩ | ⟨_, e, hn⟩
  · cases h0
  refine .inr ⟨fun c2 r2 hr e2 => ?_, rfl, rfl, rfl⟩
  unfold RightP at hr
  obtain ⟨e3, _⟩ := cut_unique _ _ _ _ hn (no_point c2 (by omega)) (e.symm.trans e2)
  exact h.2 rfl c2.toNat (by omega) (e3.trans (itoa_nat c2 (by omega)))
theorem stampIs_bad2 {l : List UInt8} {s1 s2 : ByteArray} {n : Int} (hc : CutIs l s1 s2 true) (h : NumIs s2.data.toList n false) : StampIs l 0 0 2 := by
  rcases hc with ⟨h0, _⟩ | ⟨_, e, hn⟩
  · cases h0
  refine .inr ⟨fun c2 r2 hr e2 => ?_, rfl, rfl, rfl⟩
  unfold RightP at hr
  obtain ⟨_, e3⟩ := cut_unique _ _ _ _ hn (no_point c2 (by omega)) (e.symm.trans e2)
  exact h.2 rfl r2.toNat (by omega) (e3.trans (itoa_nat r2 (by omega)))
theorem stampIs_ok {l : List UInt8} {s1 s2 : ByteArray} {n m : Int} (hc : CutIs l s1 s2 true) (h1 : NumIs s1.data.toList n true) (h2 : NumIs s2.data.toList m true) (hr : RightP n m) : StampIs l n m 0 := by
  rcases hc with ⟨h0, _⟩ | ⟨_, e, hn⟩
  · cases h0
  exact .inl ⟨hr, by rw [e, (h1.1 rfl).1, (h2.1 rfl).1]; rfl, rfl⟩
theorem stampIs_wrong {l : List UInt8} {s1 s2 : ByteArray} {n m : Int} (hc : CutIs l s1 s2 true) (h1 : NumIs s1.data.toList n true) (h2 : NumIs s2.data.toList m true) (hr : ¬ RightP n m) : StampIs l 0 0 2 := by
  rcases hc with ⟨h0, _⟩ | ⟨_, e, hn⟩
  · cases h0
  refine .inr ⟨fun c2 r2 hr2 e2 => ?_, rfl, rfl, rfl⟩
  have hr3 := hr2
  unfold RightP at hr3
  obtain ⟨e3, e4⟩ := cut_unique _ _ _ _ hn (no_point c2 (by omega)) (e.symm.trans e2)
  rw [(h1.1 rfl).1] at e3
  rw [(h2.1 rfl).1] at e4
  have g : ∀ x y : Int, 0 ≤ y → Lib.itoa x = Lib.itoa y → x = y := fun x y hy he => by
    by_cases hx : 0 ≤ x
    · exact itoa_inj hx hy he
    · exfalso
      rw [itoa_nat y hy] at he
      unfold Lib.itoa at he
      rw [if_pos (by omega)] at he
      have := decDigits_dig y.toNat 45 (by rw [← he]; simp)
      unfold isDig at this
      simp at this
  obtain rfl := g _ _ (by omega) e3
  obtain rfl := g _ _ (by omega) e4
  exact hr hr2

set_option maxHeartbeats 1000000 in
theorem parseRight_any (s : ByteArray) (hs : s.size ≤ 281474976710656) (w : World) (he : Env w) :
    Calls Tryz.prog 83 #[.string s] w fun e w' => ∃ c r k, e = .returned (.tuple #[.agg #[.int .i64 c, .int .i64 r], .int .i64 k]) ∧ StampIs s.data.toList c r k ∧ Below w.heap.size w w' := by
  go_enter Tryz.func83, Tryz.ntmps83
  go_wp2_with fail
  refine (cut_any s hs _).mono ?_
  rintro e w1 ⟨s1, s2, b, rfl, h1, h2, h3, hb1⟩
  have C : Hid (CutIs s.data.toList s1 s2 b) := h1
  clear h1
  have hc1 := fun (b o : Nat) (h : b < _) => hb1.cell (p := ⟨b, o, none⟩) h
  have hf1 := fun (b o : Nat) (h : b < _) => hb1.frozen (p := ⟨b, o, none⟩) h
  have z1 : w.heap.size < w1.heap.size := by have := hb1.size; simp at this; omega
  have bel1 : Below w.heap.size w w1 := ((Below.refl _ _).alloc (Nat.le_refl _) _).trans (hb1.mono (by simp))
  cases b
  · go_wp2
    exact bodyPost_ret (v := .tuple #[.agg #[.int .i64 0, .int .i64 0], .int .i64 2]) (by simp [results, Tryz.results83, go_sem, hc1]) rfl ⟨_, _, _, rfl, stampIs_nocut _ (by rcases C.out with h | h; exact h.2; exact absurd h.1 (by simp)), ((bel1.setCell (by exact Nat.le_refl _) _).setCell (by exact Nat.le_refl _) _)⟩
  go_wp2_with fail
  refine (parseNumber_any s1 h2 _ (he.below bel1)).mono ?_
  rintro e w2 ⟨n, b, rfl, h1, hb2⟩
  have N1 : Hid (NumIs s1.data.toList n b) := h1
  clear h1
  have hc2 := fun (b o : Nat) (h : b < _) => hb2.cell (p := ⟨b, o, none⟩) h
  have hf2 := fun (b o : Nat) (h : b < _) => hb2.frozen (p := ⟨b, o, none⟩) h
  have z2 : w.heap.size < w2.heap.size := by have := hb2.size; omega
  have bel2 : Below w.heap.size w w2 := bel1.trans (hb2.mono (by omega))
  cases b
  · go_wp2
    exact bodyPost_ret (v := .tuple #[.agg #[.int .i64 0, .int .i64 0], .int .i64 2]) (by simp [results, Tryz.results83, go_sem, hc1, hc2, z1]) rfl ⟨_, _, _, rfl, stampIs_bad1 C.out N1.out, ((bel2.setCell (by exact Nat.le_refl _) _).setCell (by exact Nat.le_refl _) _)⟩
  go_wp2_with fail
  refine (parseNumber_any s2 h3 _ (he.below bel2)).mono ?_
  rintro e w3 ⟨m, b, rfl, h1, hb3⟩
  have N2 : Hid (NumIs s2.data.toList m b) := h1
  clear h1
  have hc3 := fun (b o : Nat) (h : b < _) => hb3.cell (p := ⟨b, o, none⟩) h
  have hf3 := fun (b o : Nat) (h : b < _) => hb3.frozen (p := ⟨b, o, none⟩) h
  have z3 : w.heap.size < w3.heap.size := by have := hb3.size; omega
  have bel3 : Below w.heap.size w w3 := bel2.trans (hb3.mono (by omega))
  cases b
  · go_wp2
    exact bodyPost_ret (v := .tuple #[.agg #[.int .i64 0, .int .i64 0], .int .i64 2]) (by simp [results, Tryz.results83, go_sem, hc1, hc2, hc3, z1, z2]) rfl ⟨_, _, _, rfl, stampIs_bad2 C.out N2.out, ((bel3.setCell (by exact Nat.le_refl _) _).setCell (by exact Nat.le_refl _) _)⟩
  cases hr : rightB n m
  · go_wp2_with fail
    refine (right_any _ _ _).mono ?_
    rintro e w4 ⟨rfl, rfl⟩
    go_wp2
    refine bodyPost_ret (v := .tuple #[.agg #[.int .i64 0, .int .i64 0], .int .i64 2]) (by simp [results, Tryz.results83, go_sem, hc1, hc2, hc3, z1, z2, z3]) rfl ⟨_, _, _, rfl, stampIs_wrong C.out N1.out N2.out (fun h => by rw [(rightP_iff n m).2 h] at hr; cases hr), ?_⟩
    exact (((bel3.setCell (by exact Nat.le_refl _) _).setCell (by exact Nat.le_refl _) _).alloc (by simp; omega) _).alloc (by simp; omega) _
  · go_wp2_with fail
    refine (right_any _ _ _).mono ?_
    rintro e w4 ⟨rfl, rfl⟩
    go_wp2
    refine bodyPost_ret (v := .tuple #[.agg #[.int .i64 n, .int .i64 m], .int .i64 0]) (by simp [results, Tryz.results83, go_sem, hc1, hc2, hc3, z1, z2, z3]) rfl ⟨_, _, _, rfl, stampIs_ok C.out N1.out N2.out ((rightP_iff n m).1 hr), ?_⟩
    exact (((bel3.setCell (by exact Nat.le_refl _) _).setCell (by exact Nat.le_refl _) _).alloc (by simp; omega) _).alloc (by simp; omega) _

theorem parseIs_stamp {l : List UInt8} {c r k : Int} (h1 : l ≠ rootL) (h2 : l ≠ trashL) (h : StampIs l c r k) : ParseIs l c r k := by
  rcases h with ⟨a, b, d⟩ | ⟨a, b, d, e⟩
  · exact .inr (.inr (.inl ⟨a, b, d⟩))
  · exact .inr (.inr (.inr ⟨⟨h1, h2, a⟩, b, d, e⟩))

end Go.Proofs.YtaocjmipjibiaabGreatDoor
