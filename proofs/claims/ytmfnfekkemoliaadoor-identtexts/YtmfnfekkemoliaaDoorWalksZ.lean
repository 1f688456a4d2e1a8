/- What the document's Parse makes of any text; the walk of IdentTexts. -/
import Derived.Test.YtmfnfekkemoliaaDoorWalksY
import Derived.Test.YtmfnfekkemoliaaDoorWalksC
namespace Go.Proofs.YtmfnfekkemoliaaDoor
open Go.RowKit
set_option linter.unusedVariables false

/-- What a call of the document's Parse leaves. -/
def ParsePost (l : List UInt8) (w : World) (e : Ending) (w' : World) : Prop := ∃ (c r k : Int), e = .returned (.tuple #[.agg #[.int .i64 c, .int .i64 r], .int .i64 k]) ∧ ParseIs l c r k ∧ Below w.heap.size w w'
theorem ParsePost.mk {l : List UInt8} {w w' : World} {c r k : Int} (h : ParseIs l c r k) (hb : Below w.heap.size w w') : ParsePost l w (.returned (.tuple #[.agg #[.int .i64 c, .int .i64 r], .int .i64 k])) w' := ⟨c, r, k, rfl, h, hb⟩

theorem numIs_whole {l : List UInt8} {n : Int} {b : Bool} (h : WholeIs l n b) : NumIs l n b :=
  ⟨fun hb => ⟨by rw [itoa_nat n (h.1 hb).1]; exact (h.1 hb).2.2, by have := (h.1 hb).1; omega, by have := (h.1 hb).2.1; omega⟩, h.2⟩
theorem cut_found (s : ByteArray) (k : Nat) (hk : k < s.size) (h46 : s[k] = 46) (hn : (46 : UInt8) ∉ s.data.toList.take k) : CutIs s.data.toList (s.extract 0 k) (s.extract (k + 1) s.size) true := by
  have hl : s.data.toList.length = s.size := by simp
  have e1 : s.data.toList = s.data.toList.take k ++ 46 :: s.data.toList.drop (k + 1) := by
    have h1 := take_next s k hk
    rw [h46] at h1
    conv => lhs; rw [← List.take_append_drop (k + 1) s.data.toList, h1]
    simp
  have g1 : (s.extract 0 k).data.toList = s.data.toList.take k := by rw [← ByteArray.toList_eq, Lib.extract_toList]; simp
  have g2 : (s.extract (k + 1) s.size).data.toList = s.data.toList.drop (k + 1) := by
    rw [← ByteArray.toList_eq, Lib.extract_toList, List.take_of_length_le (by simp)]
  exact .inr ⟨rfl, by rw [g1, g2]; exact e1, by rw [g1]; exact hn⟩

set_option maxHeartbeats 2000000 in
theorem refParse_any (s : ByteArray) (hs : s.size ≤ 281474976710656) (w : World) :
    Calls Tryd.prog 24 #[.string s] w fun e w' => ParsePost s.data.toList w e w' := by
  by_cases h1 : s.data.toList = rootL
  · have q1 : (s.toList == [114, 111, 111, 116]) = true := by rw [ByteArray.toList_eq, h1]; rfl
    have H1 : Hid (s.data.toList = rootL) := h1
    clear h1
    go_enter Tryd.func24, Tryd.ntmps24
    go_wp2
    exact bodyPost_ret (v := .tuple #[.agg #[.int .i64 (0), .int .i64 (0)], .int .i64 0]) (by simp [results, Tryd.results24, go_sem]) rfl (ParsePost.mk (.inl ⟨H1.out, rfl, rfl, rfl⟩) ((Below.refl _ _).alloc (Nat.le_refl _) _))
  have q1 : (s.toList == [114, 111, 111, 116]) = false := by rw [ByteArray.toList_eq, beq_eq_false_iff_ne]; exact h1
  have H1 : Hid (¬ s.data.toList = rootL) := h1
  clear h1
  by_cases h2 : s.data.toList = trashL
  · have q2 : (s.toList == [116, 114, 97, 115, 104]) = true := by rw [ByteArray.toList_eq, h2]; rfl
    have H2 : Hid (s.data.toList = trashL) := h2
    clear h2
    go_enter Tryd.func24, Tryd.ntmps24
    go_wp2
    exact bodyPost_ret (v := .tuple #[.agg #[.int .i64 (0), .int .i64 (1)], .int .i64 0]) (by simp [results, Tryd.results24, go_sem]) rfl (ParsePost.mk (.inr (.inl ⟨H2.out, rfl, rfl, rfl⟩)) ((Below.refl _ _).alloc (Nat.le_refl _) _))
  have q2 : (s.toList == [116, 114, 97, 115, 104]) = false := by rw [ByteArray.toList_eq, beq_eq_false_iff_ne]; exact h2
  have H2 : Hid (¬ s.data.toList = trashL) := h2
  clear h2
  have hs2 : (s.size : Int) ≤ 281474976710656 := by omega
  go_enter Tryd.func24, Tryd.ntmps24
  go_wp2
  go_loop [4] (fun i => ∃ k : Nat, k ≤ s.size ∧ i = .int .i64 k ∧ (46 : UInt8) ∉ s.data.toList.take k) (fun i => s.size - (intOf i).toNat)
  case atStart => exact ⟨0, Nat.zero_le _, rfl, by simp⟩
  case round =>
    obtain ⟨k, hk, rfl, hn⟩ := hrel
    have HN : Hid ((46 : UInt8) ∉ s.data.toList.take k) := hn
    clear hn
    by_cases hlt : k < s.size
    · have k1 : (k : Int) < (s.size : Int) := by omega
      by_cases d : s[k] = 46
      · have d1 : ((s[k].toNat : Int) == 46) = true := by rw [d]; rfl
        have C : Hid (CutIs s.data.toList (s.extract 0 k) (s.extract (k + 1) s.size) true) := cut_found s k hlt d HN.out
        clear d
        have c1 : (0 : Int) ≤ ↑k := by omega
        have c2 : (↑k : Int) ≤ ↑s.size := by omega
        have c3 : (0 : Int) ≤ ↑k + 1 := by omega
        have c4 : (↑k + 1 : Int) ≤ ↑s.size := by omega
        go_wp2_with fail
        refine (whole_any _ _).mono ?_
        rintro e w1 ⟨n, b1, rfl, h1, rfl⟩
        have N1 : Hid (NumIs (s.extract 0 k).data.toList n b1) := numIs_whole h1
        clear h1
        go_wp2_with fail
        refine (whole_any _ _).mono ?_
        rintro e w2 ⟨m, b2, rfl, h1, rfl⟩
        have N2 : Hid (NumIs (s.extract (k + 1) s.size).data.toList m b2) := numIs_whole h1
        clear h1
        cases b1
        · go_wp2
          exact bodyPost_ret (v := .tuple #[.agg #[.int .i64 (0), .int .i64 (0)], .int .i64 2]) (by simp [results, Tryd.results24, go_sem]) rfl (ParsePost.mk (parseIs_stamp H1.out H2.out (stampIs_bad1 C.out N1.out)) (((Below.refl _ _).alloc (Nat.le_refl _) _).alloc (by simp) _))
        cases b2
        · go_wp2
          exact bodyPost_ret (v := .tuple #[.agg #[.int .i64 (0), .int .i64 (0)], .int .i64 2]) (by simp [results, Tryd.results24, go_sem]) rfl (ParsePost.mk (parseIs_stamp H1.out H2.out (stampIs_bad2 C.out N2.out)) (((Below.refl _ _).alloc (Nat.le_refl _) _).alloc (by simp) _))
        cases hr : rightB n m
        · go_wp2_with (go_at_call 10; refine (refRight_any _ _ _).mono ?_; rintro e w3 ⟨rfl, rfl⟩)
          exact bodyPost_ret (v := .tuple #[.agg #[.int .i64 (0), .int .i64 (0)], .int .i64 2]) (by simp [results, Tryd.results24, go_sem]) rfl (ParsePost.mk (parseIs_stamp H1.out H2.out (stampIs_wrong C.out N1.out N2.out (fun h => by rw [(rightP_iff n m).2 h] at hr; cases hr))) ((((Below.refl _ _).alloc (Nat.le_refl _) _).alloc (by simp) _).alloc (by simp; omega) _))
        · go_wp2_with (go_at_call 10; refine (refRight_any _ _ _).mono ?_; rintro e w3 ⟨rfl, rfl⟩)
          exact bodyPost_ret (v := .tuple #[.agg #[.int .i64 (n), .int .i64 (m)], .int .i64 0]) (by simp [results, Tryd.results24, go_sem]) rfl (ParsePost.mk (parseIs_stamp H1.out H2.out (stampIs_ok C.out N1.out N2.out ((rightP_iff n m).1 hr))) ((((Below.refl _ _).alloc (Nat.le_refl _) _).alloc (by simp) _).alloc (by simp; omega) _))
      · have d1 : ((s[k].toNat : Int) == 46) = false := by
          rw [beq_eq_false_iff_ne]
          intro h
          exact d (UInt8.toNat_inj.1 (by simp; omega))
        have D : Hid (¬ s[k] = 46) := d
        clear d
        go_wp2
        go_round
        case rel =>
          refine ⟨k + 1, by omega, by go_num, ?_⟩
          rw [take_next s k hlt, List.mem_append, List.mem_singleton, not_or]
          exact ⟨HN.out, fun h => D.out h.symm⟩
        case measure => simp [intOf]; omega
    · have e : Hid (s.data.toList.take k = s.data.toList) := List.take_of_length_le (by simp; omega)
      go_wp2
      exact bodyPost_ret (v := .tuple #[.agg #[.int .i64 (0), .int .i64 (0)], .int .i64 2]) (by simp [results, Tryd.results24, go_sem]) rfl (ParsePost.mk (parseIs_stamp H1.out H2.out (stampIs_nocut _ (by have h := HN.out; rw [e.out] at h; exact h))) ((Below.refl _ _).alloc (Nat.le_refl _) _))

end Go.Proofs.YtmfnfekkemoliaaDoor
