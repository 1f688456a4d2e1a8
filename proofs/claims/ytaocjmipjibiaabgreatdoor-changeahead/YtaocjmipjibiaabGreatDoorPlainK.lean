/- A right change's text is that change's alone; so what Parse tells of a text is one; the change of the awake text. -/
import Derived.Test.YtaocjmipjibiaabGreatDoorPlainG
namespace Go.Proofs.YtaocjmipjibiaabGreatDoor
open Go.Lib
set_option linter.unusedVariables false
set_option linter.unusedSimpArgs false

theorem stampW_text (c r : Int) (h : nodeB c r = true) : StampW (textL c r) c r := ⟨0, parse_textL c r h⟩
theorem stampW_after (c r : Int) (h : nodeB c r = true) : StampW (afterL c r) c r := by
  unfold afterL
  split
  · rename_i g
    simp only [rootB, decide_eq_true_eq] at g
    obtain ⟨rfl, rfl⟩ := g
    exact ⟨2, .inr (.inr (.inr ⟨⟨by decide, by decide, fun c r hr e => by have := point_in_stampL c r; rw [← e] at this; revert this; decide⟩, rfl, rfl, rfl⟩))⟩
  · exact stampW_text c r h
theorem numW_text (n : Int) (h : 0 ≤ n) (h2 : n ≤ 1099511627776) : NumW (itoa n) n := ⟨true, fun _ => ⟨rfl, by omega, by omega⟩, fun h => by cases h⟩
theorem clockW_text (d : List Int) (h : checkL d = 0) (ht : trimL d = d) : ClockW (textC d) d := by
  have := parse_textC h
  rw [ht] at this
  exact ⟨0, this⟩

theorem ReadIs.of (c : Ch) (h : checkCh c = 0) : ReadIs (textCh c) c := by
  have f := fine c h
  obtain ⟨ac, ar, sq, ds, kd, nc, nr, pc, pr, fc, fr, nm, vl⟩ := c
  have hn := f.name
  have hnn := f.noname
  have hnv := f.novalue
  have hnp := f.noplace
  have hmade := f.made
  have hA := stampW_text ac ar f.at_
  have hQ := numW_text sq f.seq0 f.seq1
  have hC := clockW_text ds f.deps f.trim
  have hN := stampW_text nc nr f.node
  have hP := stampW_text pc pr f.parent
  have hF := stampW_after fc fr f.after
  have hk := f.kind
  dsimp only at hk hn hnn hnv hnp hmade
  clear f
  rcases hk with rfl | rfl | rfl | rfl | rfl
  · have nb := hn (by decide)
    obtain ⟨rfl, rfl⟩ := hmade rfl
    rw [textCh_1 _ rfl]
    refine ⟨?_, ?_, ?_, ?_, textL pc pr ++ 32 :: (afterL fc fr ++ 32 :: nm.data.toList), textL pc pr ++ 32 :: (afterL fc fr ++ 32 :: nm.data.toList), nm.data.toList, tlW nm.data.toList, ?_, (if_neg (show ¬ hasNode 1 = true by decide)).mpr ⟨⟨rfl, rfl⟩, rfl⟩, (if_pos (show hasPlace 1 = true by decide)).mpr ⟨by rw [hdW_at (textL_blank _ _)]; exact hP, by rw [tlW_at (textL_blank _ _), hdW_at (afterL_blank _ _)]; exact hF, by rw [tlW_at (textL_blank _ _), tlW_at (afterL_blank _ _)]⟩, (if_pos (show hasName 1 = true by decide)).mpr ⟨(hdW_no nb).symm, rfl⟩, (if_neg (show ¬ hasValue 1 = true by decide)).mpr (hnv (by decide))⟩
    all_goals simp only [hdW_at (kindL_blank _), tlW_at (kindL_blank _), hdW_at (textL_blank _ _), tlW_at (textL_blank _ _), hdW_at (itoa_blank _), tlW_at (itoa_blank _), hdW_at (textC_blank _), tlW_at (textC_blank _), kindOf_1]
    · exact hA
    · exact hQ
    · exact hC
  · rw [textCh_2 _ rfl]
    refine ⟨?_, ?_, ?_, ?_, textL nc nr ++ 32 :: (textL pc pr ++ 32 :: afterL fc fr), textL pc pr ++ 32 :: afterL fc fr, tlW (afterL fc fr), tlW (afterL fc fr), ?_, (if_pos (show hasNode 2 = true by decide)).mpr ⟨by rw [hdW_at (textL_blank _ _)]; exact hN, (tlW_at (textL_blank _ _)).symm⟩, (if_pos (show hasPlace 2 = true by decide)).mpr ⟨by rw [hdW_at (textL_blank _ _)]; exact hP, by rw [tlW_at (textL_blank _ _), hdW_no (afterL_blank _ _)]; exact hF, by rw [tlW_at (textL_blank _ _)]⟩, (if_neg (show ¬ hasName 2 = true by decide)).mpr ⟨hnn (by decide), rfl⟩, (if_neg (show ¬ hasValue 2 = true by decide)).mpr (hnv (by decide))⟩
    all_goals simp only [hdW_at (kindL_blank _), tlW_at (kindL_blank _), hdW_at (textL_blank _ _), tlW_at (textL_blank _ _), hdW_at (itoa_blank _), tlW_at (itoa_blank _), hdW_at (textC_blank _), tlW_at (textC_blank _), kindOf_2]
    · exact hA
    · exact hQ
    · exact hC
  · have nb := hn (by decide)
    rw [textCh_3 _ rfl]
    refine ⟨?_, ?_, ?_, ?_, textL nc nr ++ 32 :: (nm.data.toList ++ 32 :: quoteL vl.data.toList), nm.data.toList ++ 32 :: quoteL vl.data.toList, nm.data.toList ++ 32 :: quoteL vl.data.toList, quoteL vl.data.toList, ?_, (if_pos (show hasNode 3 = true by decide)).mpr ⟨by rw [hdW_at (textL_blank _ _)]; exact hN, (tlW_at (textL_blank _ _)).symm⟩, (if_neg (show ¬ hasPlace 3 = true by decide)).mpr ⟨hnp (by decide), rfl⟩, (if_pos (show hasName 3 = true by decide)).mpr ⟨(hdW_at nb).symm, (tlW_at nb).symm⟩, (if_pos (show hasValue 3 = true by decide)).mpr ⟨true, .inl ⟨rfl, rfl⟩⟩⟩
    all_goals simp only [hdW_at (kindL_blank _), tlW_at (kindL_blank _), hdW_at (textL_blank _ _), tlW_at (textL_blank _ _), hdW_at (itoa_blank _), tlW_at (itoa_blank _), hdW_at (textC_blank _), tlW_at (textC_blank _), kindOf_3]
    · exact hA
    · exact hQ
    · exact hC
  · have nb := hn (by decide)
    rw [textCh_4 _ rfl]
    refine ⟨?_, ?_, ?_, ?_, textL nc nr ++ 32 :: nm.data.toList, nm.data.toList, nm.data.toList, tlW nm.data.toList, ?_, (if_pos (show hasNode 4 = true by decide)).mpr ⟨by rw [hdW_at (textL_blank _ _)]; exact hN, (tlW_at (textL_blank _ _)).symm⟩, (if_neg (show ¬ hasPlace 4 = true by decide)).mpr ⟨hnp (by decide), rfl⟩, (if_pos (show hasName 4 = true by decide)).mpr ⟨(hdW_no nb).symm, rfl⟩, (if_neg (show ¬ hasValue 4 = true by decide)).mpr (hnv (by decide))⟩
    all_goals simp only [hdW_at (kindL_blank _), tlW_at (kindL_blank _), hdW_at (textL_blank _ _), tlW_at (textL_blank _ _), hdW_at (itoa_blank _), tlW_at (itoa_blank _), hdW_at (textC_blank _), tlW_at (textC_blank _), kindOf_4]
    · exact hA
    · exact hQ
    · exact hC
  · rw [textCh_5 _ rfl]
    refine ⟨?_, ?_, ?_, ?_, textL nc nr ++ 32 :: quoteL vl.data.toList, quoteL vl.data.toList, quoteL vl.data.toList, quoteL vl.data.toList, ?_, (if_pos (show hasNode 5 = true by decide)).mpr ⟨by rw [hdW_at (textL_blank _ _)]; exact hN, (tlW_at (textL_blank _ _)).symm⟩, (if_neg (show ¬ hasPlace 5 = true by decide)).mpr ⟨hnp (by decide), rfl⟩, (if_neg (show ¬ hasName 5 = true by decide)).mpr ⟨hnn (by decide), rfl⟩, (if_pos (show hasValue 5 = true by decide)).mpr ⟨true, .inl ⟨rfl, rfl⟩⟩⟩
    all_goals simp only [hdW_at (kindL_blank _), tlW_at (kindL_blank _), hdW_at (textL_blank _ _), tlW_at (textL_blank _ _), hdW_at (itoa_blank _), tlW_at (itoa_blank _), hdW_at (textC_blank _), tlW_at (textC_blank _), kindOf_5]
    · exact hA
    · exact hQ
    · exact hC

theorem textCh_inj {c d : Ch} (hc : checkCh c = 0) (hd : checkCh d = 0) (h : textCh c = textCh d) : c = d := by
  have := ReadIs.of c hc
  rw [h] at this
  exact ReadIs.back hd this
theorem ParseCh.unique {l : List UInt8} {c d : Ch} {k j : Int} (h : ParseCh l c k) (h2 : ParseCh l d j) : c = d ∧ k = j := by
  have len : ∀ {c : Ch}, checkCh c = 0 → l = textCh c → l.length ≤ 4000 := fun h e => by rw [e]; exact textCh_len _ h
  rcases h with ⟨a, b, e⟩ | ⟨a, b, e⟩ | ⟨a, a2, b, e⟩ <;> rcases h2 with ⟨x, y, z⟩ | ⟨x, y, z⟩ | ⟨x, x2, y, z⟩
  · exact ⟨b.trans y.symm, e.trans z.symm⟩
  · have := len x y; omega
  · omega
  · have := len a b; omega
  · exact ⟨textCh_inj a x (b.symm.trans y), e.trans z.symm⟩
  · exact absurd b (x2 _ a)
  · omega
  · exact absurd y (a2 _ x)
  · exact ⟨b.trans y.symm, e.trans z.symm⟩
theorem ParseCh.right {l : List UInt8} {c : Ch} {k : Int} (h : ParseCh l c k) (hk : k = 0) : checkCh c = 0 ∧ l = textCh c := by
  rcases h with ⟨_, _, e⟩ | ⟨a, b, _⟩ | ⟨_, _, _, e⟩
  · omega
  · exact ⟨a, b⟩
  · omega
theorem parseCh_of (c : Ch) (h : checkCh c = 0) : ParseCh (textCh c) c 0 := .inr (.inl ⟨h, rfl, rfl⟩)

/-- The text that awake asks for, and its change. -/
def wakeL : List UInt8 := [99, 114, 101, 97, 116, 101, 32, 51, 46, 49, 32, 49, 32, 50, 32, 114, 111, 111, 116, 32, 45, 32, 112]
def wakeC : Ch := ⟨3, 1, 1, [2], 1, 3, 1, 0, 0, 0, 0, ⟨#[112]⟩, ⟨#[]⟩⟩
theorem wake_check : checkCh wakeC = 0 := by decide
theorem itoa_small (n : Nat) (h : n < 10) : itoa (n : Int) = [UInt8.ofNat (48 + n)] := by rw [itoa_nat _ (by omega)]; exact decDigits_small (by simpa using h)
theorem wake_text : textCh wakeC = wakeL := by
  have e1 : itoa 1 = [49] := itoa_small 1 (by omega)
  have e2 : itoa 2 = [50] := itoa_small 2 (by omega)
  have e3 : itoa 3 = [51] := itoa_small 3 (by omega)
  have t1 : textL 3 1 = [51, 46, 49] := by
    unfold textL
    rw [if_neg (by decide), if_neg (by decide), if_pos (by decide)]
    unfold stampL
    rw [e3, e1]; rfl
  have t2 : textL 0 0 = rootL := by decide
  have t3 : afterL 0 0 = [45] := by decide
  have t4 : textC [2] = [50] := by
    rw [textC_some (by decide) (by decide), show trimL [2] = [2] by decide, commaL_one, e2]
  rw [textCh_1 _ rfl]
  show kindL 1 ++ 32 :: (textL 3 1 ++ 32 :: (itoa 1 ++ 32 :: (textC [2] ++ 32 :: (textL 0 0 ++ 32 :: (afterL 0 0 ++ 32 :: [112]))))) = wakeL
  rw [t1, t2, t3, t4, e1]
  rfl
theorem wake_is {c : Ch} {k : Int} (h : ParseCh wakeL c k) : c = wakeC ∧ k = 0 := by
  have := parseCh_of wakeC wake_check
  rw [wake_text] at this
  exact h.unique this

end Go.Proofs.YtaocjmipjibiaabGreatDoor
