/- Changes as plain data: which ones are right, their text; what a reader that goes word by word makes of a right change's text is that change. -/
import Derived.Test.YtaocjmipjibiaabGreatDoorPlainQ
import Derived.Test.YtaocjmipjibiaabGreatDoorIdV
import Derived.Test.YtaocjmipjibiaabGreatDoorIdY
import Derived.Test.YtaocjmipjibiaabGreatDoorCkA
import Derived.Test.YtaocjmipjibiaabGreatDoorWalksD
namespace Go.Proofs.YtaocjmipjibiaabGreatDoor
open Go.Lib
set_option linter.unusedVariables false

structure Ch where
  ac : Int
  ar : Int
  seq : Int
  deps : List Int
  kind : Int
  nc : Int
  nr : Int
  pc : Int
  pr : Int
  fc : Int
  fr : Int
  name : ByteArray
  value : ByteArray
def Ch.none : Ch := ⟨0, 0, 0, [], 0, 0, 0, 0, 0, 0, 0, ⟨#[]⟩, ⟨#[]⟩⟩

def hasNode (k : Int) : Bool := decide (k ≠ 1)
def hasPlace (k : Int) : Bool := decide (k = 1 ∨ k = 2)
def hasName (k : Int) : Bool := decide (k = 1 ∨ k = 3 ∨ k = 4)
def hasValue (k : Int) : Bool := decide (k = 3 ∨ k = 5)
def aheadB (c r ac ar : Int) : Bool := rightB c r && lessS c r ac ar
def kindB (k : Int) : Bool := decide (1 ≤ k ∧ k ≤ 5)
def depsE (c : Ch) : Int := if checkL c.deps = 0 then (if (trimL c.deps).length = c.deps.length ∧ atL c.deps c.ar = c.seq - 1 then 0 else 2) else checkL c.deps
def nodeR (c : Ch) : Bool := if c.kind = 1 then decide (c.nc = c.ac ∧ c.nr = c.ar) else if c.kind = 2 then aheadB c.nc c.nr c.ac c.ar else (rootB c.nc c.nr || aheadB c.nc c.nr c.ac c.ar)
def placeR (c : Ch) : Bool := if hasPlace c.kind = true then ((nodeB c.pc c.pr && (lessS c.pc c.pr c.ac c.ar && !decide (c.pc = c.nc ∧ c.pr = c.nr))) && (rootB c.fc c.fr || aheadB c.fc c.fr c.ac c.ar)) else (rootB c.pc c.pr && rootB c.fc c.fr)
def nameR (c : Ch) : Bool := if hasName c.kind = true then nameL c.name.data.toList else decide (c.name.size = 0)
def valueE (c : Ch) : Int := if 256 < c.value.size then 3 else if hasValue c.kind = false ∧ c.value.size ≠ 0 then 2 else 0
/-- What Check tells. -/
def checkCh (c : Ch) : Int :=
  if kindB c.kind = true then
    if rightB c.ac c.ar = true then
      if 1 ≤ c.seq ∧ c.seq ≤ c.ac then
        if depsE c = 0 then
          if nodeR c = true ∧ placeR c = true then
            if nameR c = true then valueE c else 8
          else 2
        else depsE c
      else 1
    else 2
  else 1

theorem checkCh_ok (c : Ch) (h : checkCh c = 0) : kindB c.kind = true ∧ rightB c.ac c.ar = true ∧ (1 ≤ c.seq ∧ c.seq ≤ c.ac) ∧ depsE c = 0 ∧ nodeR c = true ∧ placeR c = true ∧ nameR c = true ∧ valueE c = 0 := by
  unfold checkCh at h
  split at h
  · split at h
    · split at h
      · split at h
        · split at h
          · split at h
            · rename_i a b c d e f; exact ⟨a, b, c, d, e.1, e.2, f, h⟩
            · cases h
          · cases h
        · rename_i g; exact absurd h g
      · cases h
    · cases h
  · cases h
theorem trim_take_len (l : List Int) : trimL l = l.take (trimL l).length := by
  induction l with
  | nil => rfl
  | cons x t ih =>
    rw [trim_cons]
    by_cases h : trimL t = []
    · rw [if_pos h]
      by_cases h0 : x = 0
      · rw [if_pos h0]; rfl
      · rw [if_neg h0]; rfl
    · rw [if_neg h, List.length_cons, List.take_succ_cons, ← ih]
theorem depsE_ok (c : Ch) (h : depsE c = 0) : checkL c.deps = 0 ∧ trimL c.deps = c.deps ∧ atL c.deps c.ar = c.seq - 1 := by
  unfold depsE at h
  split at h
  · rename_i h0
    split at h
    · rename_i h1
      refine ⟨h0, ?_, h1.2⟩
      have h2 := trim_take_len c.deps
      rw [h1.1, List.take_length] at h2
      exact h2
    · cases h
  · rename_i g; exact absurd h g

/-- The words of a change's text. -/
def kindL (k : Int) : List UInt8 := if k = 1 then [99, 114, 101, 97, 116, 101] else if k = 2 then [109, 111, 118, 101] else if k = 3 then [115, 101, 116] else if k = 4 then [99, 108, 101, 97, 114] else if k = 5 then [116, 101, 120, 116] else []
def afterL (c r : Int) : List UInt8 := if rootB c r = true then [45] else textL c r
def wordsCh (c : Ch) : List (List UInt8) :=
  [kindL c.kind, textL c.ac c.ar, itoa c.seq, textC c.deps] ++ (if hasNode c.kind = true then [textL c.nc c.nr] else []) ++ (if hasPlace c.kind = true then [textL c.pc c.pr, afterL c.fc c.fr] else []) ++ (if hasName c.kind = true then [c.name.data.toList] else []) ++ (if hasValue c.kind = true then [quoteL c.value.data.toList] else [])
def textCh (c : Ch) : List UInt8 := join (wordsCh c) [32]

theorem join_two (a b : List UInt8) (r : List (List UInt8)) : join (a :: b :: r) [32] = a ++ 32 :: join (b :: r) [32] := by
  simp only [join_cons, joinTail, List.map_cons, List.flatten_cons, List.cons_append, List.nil_append]

/-- No blank stands in the words but the last one. -/
theorem itoa_blank (n : Int) : (32 : UInt8) ∉ itoa n := fun h => by
  rcases itoa_signs n 32 h with h | h
  · cases h
  · revert h; unfold isDig; decide
theorem textL_blank (c r : Int) : (32 : UInt8) ∉ textL c r := by
  unfold textL
  split
  · decide
  · split
    · decide
    · split
      · unfold stampL
        simp only [List.mem_append, List.mem_cons, not_or]
        exact ⟨itoa_blank c, by decide, itoa_blank r⟩
      · simp
theorem afterL_blank (c r : Int) : (32 : UInt8) ∉ afterL c r := by
  unfold afterL
  split
  · decide
  · exact textL_blank c r
theorem commaL_blank : ∀ d : List Int, (32 : UInt8) ∉ commaL d := by
  intro d
  induction d with
  | nil => simp [commaL_nil]
  | cons x d ih =>
    cases d with
    | nil => rw [commaL_one]; exact itoa_blank x
    | cons y d =>
      rw [commaL_cons]
      simp only [List.mem_append, List.mem_cons, not_or]
      exact ⟨itoa_blank x, by decide, ih⟩
theorem textC_blank (d : List Int) : (32 : UInt8) ∉ textC d := by
  unfold textC
  split
  · split
    · decide
    · exact commaL_blank _
  · simp
theorem kindL_blank (k : Int) : (32 : UInt8) ∉ kindL k := by
  unfold kindL
  repeat' split
  all_goals decide
theorem nameL_blank {l : List UInt8} (h : nameL l = true) : (32 : UInt8) ∉ l := fun hm => by
  unfold nameL at h
  simp only [Bool.and_eq_true, List.all_eq_true] at h
  have := h.2.2 32 hm
  revert this
  decide

/-- How long a change's text can be. -/
theorem itoa_len64 (n : Int) (h : -9223372036854775808 ≤ n) (h2 : n ≤ 9223372036854775807) : (itoa n).length ≤ 21 := by
  have := itoa_length_le n h h2
  omega
theorem textL_len (c r : Int) : (textL c r).length ≤ 43 := by
  unfold textL
  split
  · simp [rootL]
  · split
    · simp [trashL]
    · split
      · rename_i h
        simp only [rightB, decide_eq_true_eq] at h
        have h1 := itoa_len64 c (by omega) (by omega)
        have h2 := itoa_len64 r (by omega) (by omega)
        unfold stampL
        rw [List.length_append, List.length_cons]
        omega
      · simp
theorem afterL_len (c r : Int) : (afterL c r).length ≤ 43 := by
  unfold afterL
  split
  · simp
  · exact textL_len c r
theorem kindL_len (k : Int) : (kindL k).length ≤ 6 := by
  unfold kindL
  repeat' split
  all_goals simp
def lenW : List (List UInt8) → Nat
  | [] => 0
  | a :: r => a.length + 1 + lenW r
theorem join_len : ∀ l : List (List UInt8), (join l [32]).length ≤ lenW l := by
  intro l
  induction l with
  | nil => simp [join, lenW]
  | cons a r ih =>
    cases r with
    | nil => rw [join_one]; simp [lenW]
    | cons b r =>
      rw [join_two, List.length_append, List.length_cons]
      unfold lenW
      omega
theorem lenW_app (a b : List (List UInt8)) : lenW (a ++ b) = lenW a + lenW b := by
  induction a with
  | nil => simp [lenW]
  | cons x y ih => simp only [List.cons_append, lenW, ih]; omega
theorem size_list (s : ByteArray) : s.data.toList.length = s.size := by simp
theorem words_len (c : Ch) (h : checkCh c = 0) : lenW (wordsCh c) ≤ 4000 := by
  obtain ⟨h1, h2, h3, h4, h5, h6, h7, h8⟩ := checkCh_ok c h
  simp only [rightB, decide_eq_true_eq] at h2
  have a1 := kindL_len c.kind
  have a2 := textL_len c.ac c.ar
  have a3 := itoa_len64 c.seq (by omega) (by omega)
  have a4 := textC_len c.deps
  have a5 := textL_len c.nc c.nr
  have a6 := textL_len c.pc c.pr
  have a7 := afterL_len c.fc c.fr
  have a9 : c.value.size ≤ 256 := by unfold valueE at h8; split at h8 <;> (try split at h8) <;> omega
  have a10 := (bodyL_len c.value.data.toList).2
  have a11 := quoteL_len c.value.data.toList
  rw [size_list] at a10
  have b1 : lenW (if hasNode c.kind = true then [textL c.nc c.nr] else []) ≤ 44 := by split <;> simp only [lenW] <;> omega
  have b2 : lenW (if hasPlace c.kind = true then [textL c.pc c.pr, afterL c.fc c.fr] else []) ≤ 88 := by split <;> simp only [lenW] <;> omega
  have b3 : lenW (if hasName c.kind = true then [c.name.data.toList] else []) ≤ 33 := by
    split
    · rename_i g
      unfold nameR at h7
      rw [if_pos g] at h7
      unfold nameL at h7
      simp only [Bool.and_eq_true, decide_eq_true_eq] at h7
      have := h7.1
      simp only [lenW]
      omega
    · simp [lenW]
  have b4 : lenW (if hasValue c.kind = true then [quoteL c.value.data.toList] else []) ≤ 771 := by split <;> simp only [lenW] <;> omega
  unfold wordsCh
  simp only [lenW_app, lenW]
  omega
theorem textCh_len (c : Ch) (h : checkCh c = 0) : (textCh c).length ≤ 4000 := Nat.le_trans (join_len _) (words_len c h)

/-- What is read of a text, word by word: the number of a kind, .. -/
def kindOf (l : List UInt8) : Int := if l = kindL 1 then 1 else if l = kindL 2 then 2 else if l = kindL 3 then 3 else if l = kindL 4 then 4 else if l = kindL 5 then 5 else 0
theorem kindOf_L (k : Int) (h : kindB k = true) : kindOf (kindL k) = k := by
  simp only [kindB, decide_eq_true_eq] at h
  have : k = 1 ∨ k = 2 ∨ k = 3 ∨ k = 4 ∨ k = 5 := by omega
  rcases this with rfl | rfl | rfl | rfl | rfl <;> decide
theorem kindOf_cases (l : List UInt8) : kindOf l = 0 ∨ kindOf l = 1 ∨ kindOf l = 2 ∨ kindOf l = 3 ∨ kindOf l = 4 ∨ kindOf l = 5 := by
  unfold kindOf
  repeat' split
  all_goals simp
def StampW (l : List UInt8) (c r : Int) : Prop := ∃ k, ParseIs l c r k
def NumW (l : List UInt8) (n : Int) : Prop := ∃ b, NumIs l n b
def ClockW (l : List UInt8) (d : List Int) : Prop := ∃ k, ParseC l d k
def UnqW (l t : List UInt8) : Prop := ∃ b, UnqIs l t b

theorem parse_textL (c r : Int) (h : nodeB c r = true) : ParseIs (textL c r) c r 0 := by
  rw [nodeB_parts] at h
  unfold textL
  split
  · rename_i g
    simp only [rootB, decide_eq_true_eq] at g
    exact .inl ⟨rfl, g.1, g.2, rfl⟩
  · split
    · rename_i g
      simp only [trashB, decide_eq_true_eq] at g
      exact .inr (.inl ⟨rfl, g.1, g.2, rfl⟩)
    · rename_i g1 g2
      rw [if_pos (by simpa [g1, g2] using h)]
      refine .inr (.inr (.inl ⟨?_, rfl, rfl⟩))
      have h3 : rightB c r = true := by simpa [g1, g2] using h
      simpa [rightB, RightP] using h3
theorem StampW.text {c r c2 r2 : Int} (h : nodeB c r = true) (hs : StampW (textL c r) c2 r2) : c2 = c ∧ r2 = r := by
  obtain ⟨k, hs⟩ := hs
  obtain ⟨a, b, _⟩ := hs.unique (parse_textL c r h)
  exact ⟨a, b⟩
theorem StampW.after {c r c2 r2 : Int} (h : nodeB c r = true) (hs : StampW (afterL c r) c2 r2) : c2 = c ∧ r2 = r := by
  unfold afterL at hs
  split at hs
  · rename_i g
    simp only [rootB, decide_eq_true_eq] at g
    obtain ⟨k, hs⟩ := hs
    have : ParseIs [45] 0 0 2 := .inr (.inr (.inr ⟨⟨by decide, by decide, fun c r hr e => by have := point_in_stampL c r; rw [← e] at this; revert this; decide⟩, rfl, rfl, rfl⟩))
    obtain ⟨a, b, _⟩ := hs.unique this
    exact ⟨a.trans g.1.symm, b.trans g.2.symm⟩
  · exact hs.text h
theorem NumW.text {n m : Int} (h : 0 ≤ n) (h2 : n ≤ 1099511627776) (hs : NumW (itoa n) m) : m = n := by
  obtain ⟨b, h3, h4⟩ := hs
  cases b with
  | true => exact (itoa_injZ (h3 rfl).1).symm
  | false => exact absurd (itoa_nat n h) (h4 rfl n.toNat (by omega))
theorem ClockW.text {d e : List Int} (h : checkL d = 0) (ht : trimL d = d) (hs : ClockW (textC d) e) : e = d := by
  obtain ⟨k, hs⟩ := hs
  have := parse_textC h
  rw [ht] at this
  exact (hs.unique this).1
theorem UnqW.text {t u : List UInt8} (h : UnqW (quoteL t) u) : u = t := by
  obtain ⟨b, h⟩ := h
  exact h.back.1

/-- What the program's reader makes of a text. -/
def ReadIs (l : List UInt8) (c : Ch) : Prop :=
  c.kind = kindOf (hdW l) ∧ StampW (hdW (tlW l)) c.ac c.ar ∧ NumW (hdW (tlW (tlW l))) c.seq ∧ ClockW (hdW (tlW (tlW (tlW l)))) c.deps ∧
  ∃ r4 r5 r6 r7, r4 = tlW (tlW (tlW (tlW l))) ∧
    (if hasNode c.kind = true then StampW (hdW r4) c.nc c.nr ∧ r5 = tlW r4 else (c.nc = c.ac ∧ c.nr = c.ar) ∧ r5 = r4) ∧
    (if hasPlace c.kind = true then StampW (hdW r5) c.pc c.pr ∧ StampW (hdW (tlW r5)) c.fc c.fr ∧ r6 = tlW (tlW r5) else (c.pc = 0 ∧ c.pr = 0 ∧ c.fc = 0 ∧ c.fr = 0) ∧ r6 = r5) ∧
    (if hasName c.kind = true then c.name.data.toList = hdW r6 ∧ r7 = tlW r6 else c.name = ⟨#[]⟩ ∧ r7 = r6) ∧
    (if hasValue c.kind = true then UnqW r7 c.value.data.toList else c.value = ⟨#[]⟩)
/-- What the document's reader makes of a text: the last word is all that is left. -/
def RefReadIs (l : List UInt8) (c : Ch) : Prop :=
  c.kind = kindOf (hdW l) ∧ StampW (hdW (tlW l)) c.ac c.ar ∧ NumW (hdW (tlW (tlW l))) c.seq ∧ ClockW (hdW (tlW (tlW (tlW l)))) c.deps ∧
  ∃ r4 r5 r6, r4 = tlW (tlW (tlW (tlW l))) ∧ r5 = tlW r4 ∧ r6 = tlW r5 ∧
    (c.kind = 1 → c.nc = c.ac ∧ c.nr = c.ar ∧ StampW (hdW r4) c.pc c.pr ∧ StampW (hdW r5) c.fc c.fr ∧ c.name.data.toList = r6 ∧ c.value = ⟨#[]⟩) ∧
    (c.kind = 2 → StampW (hdW r4) c.nc c.nr ∧ StampW (hdW r5) c.pc c.pr ∧ StampW r6 c.fc c.fr ∧ c.name = ⟨#[]⟩ ∧ c.value = ⟨#[]⟩) ∧
    (c.kind = 3 → StampW (hdW r4) c.nc c.nr ∧ c.pc = 0 ∧ c.pr = 0 ∧ c.fc = 0 ∧ c.fr = 0 ∧ c.name.data.toList = hdW r5 ∧ UnqW r6 c.value.data.toList) ∧
    (c.kind = 4 → StampW (hdW r4) c.nc c.nr ∧ c.pc = 0 ∧ c.pr = 0 ∧ c.fc = 0 ∧ c.fr = 0 ∧ c.name.data.toList = hdW r5 ∧ c.value = ⟨#[]⟩) ∧
    (c.kind = 5 → StampW (hdW r4) c.nc c.nr ∧ c.pc = 0 ∧ c.pr = 0 ∧ c.fc = 0 ∧ c.fr = 0 ∧ c.name = ⟨#[]⟩ ∧ UnqW r5 c.value.data.toList)

theorem bytes_ext {s t : ByteArray} (h : s.data.toList = t.data.toList) : s = t := by
  cases s; cases t
  simp only [ByteArray.mk.injEq]
  exact Array.toList_inj.1 h
theorem bytes_none {s : ByteArray} (h : s.size = 0) : s = ⟨#[]⟩ := bytes_ext (by
  have := size_list s
  rw [h] at this
  exact List.eq_nil_of_length_eq_zero this)

/-- A right change, taken apart. -/
theorem ahead_node {c r ac ar : Int} (h : aheadB c r ac ar = true) : nodeB c r = true := by
  unfold aheadB at h
  simp only [Bool.and_eq_true] at h
  rw [nodeB_parts, h.1]; simp
theorem root_node {c r : Int} (h : rootB c r = true) : nodeB c r = true := by rw [nodeB_parts, h]; simp
structure Fine (c : Ch) : Prop where
  kind : c.kind = 1 ∨ c.kind = 2 ∨ c.kind = 3 ∨ c.kind = 4 ∨ c.kind = 5
  at_ : nodeB c.ac c.ar = true
  seq0 : 0 ≤ c.seq
  seq1 : c.seq ≤ 1099511627776
  deps : checkL c.deps = 0
  trim : trimL c.deps = c.deps
  node : nodeB c.nc c.nr = true
  made : c.kind = 1 → c.nc = c.ac ∧ c.nr = c.ar
  parent : nodeB c.pc c.pr = true
  after : nodeB c.fc c.fr = true
  noplace : hasPlace c.kind = false → c.pc = 0 ∧ c.pr = 0 ∧ c.fc = 0 ∧ c.fr = 0
  name : hasName c.kind = true → (32 : UInt8) ∉ c.name.data.toList
  noname : hasName c.kind = false → c.name = ⟨#[]⟩
  novalue : hasValue c.kind = false → c.value = ⟨#[]⟩
theorem fine (c : Ch) (h : checkCh c = 0) : Fine c := by
  obtain ⟨h1, h2, h3, h4, h5, h6, h7, h8⟩ := checkCh_ok c h
  obtain ⟨d1, d2, d3⟩ := depsE_ok c h4
  have h2' := h2
  simp only [rightB, decide_eq_true_eq] at h2'
  simp only [kindB, decide_eq_true_eq] at h1
  have hat : nodeB c.ac c.ar = true := by rw [nodeB_parts, h2]; simp
  unfold placeR at h6
  unfold nodeR at h5
  unfold nameR at h7
  refine ⟨by omega, hat, by omega, by omega, d1, d2, ?_, ?_, ?_, ?_, ?_, ?_, ?_, ?_⟩
  · split at h5
    · simp only [decide_eq_true_eq] at h5; rw [h5.1, h5.2]; exact hat
    · split at h5
      · exact ahead_node h5
      · rcases Bool.or_eq_true _ _ ▸ h5 with h | h
        · exact root_node h
        · exact ahead_node h
  · intro hk
    rw [if_pos hk] at h5
    simpa using h5
  · split at h6
    · simp only [Bool.and_eq_true] at h6; exact h6.1.1
    · simp only [Bool.and_eq_true] at h6; exact root_node h6.1
  · split at h6
    · simp only [Bool.and_eq_true, Bool.or_eq_true] at h6
      rcases h6.2 with h | h
      · exact root_node h
      · exact ahead_node h
    · simp only [Bool.and_eq_true] at h6; exact root_node h6.2
  · intro hp
    rw [if_neg (by simp [hp])] at h6
    simp only [Bool.and_eq_true, rootB, decide_eq_true_eq] at h6
    exact ⟨h6.1.1, h6.1.2, h6.2.1, h6.2.2⟩
  · intro hn
    rw [if_pos hn] at h7
    exact nameL_blank h7
  · intro hn
    rw [if_neg (by simp [hn])] at h7
    exact bytes_none (by simpa using h7)
  · intro hv
    unfold valueE at h8
    split at h8
    · cases h8
    · split at h8
      · cases h8
      · rename_i g
        exact bytes_none (by
          rcases Nat.eq_zero_or_pos c.value.size with h | h
          · exact h
          · exact absurd ⟨hv, by omega⟩ g)

/-- A right change's text, with its blanks. -/
theorem textCh_1 (c : Ch) (h : c.kind = 1) : textCh c = kindL 1 ++ 32 :: (textL c.ac c.ar ++ 32 :: (itoa c.seq ++ 32 :: (textC c.deps ++ 32 :: (textL c.pc c.pr ++ 32 :: (afterL c.fc c.fr ++ 32 :: c.name.data.toList))))) := by
  unfold textCh wordsCh
  rw [h]
  simp [hasNode, hasPlace, hasName, hasValue, join_two, join_one]
theorem textCh_2 (c : Ch) (h : c.kind = 2) : textCh c = kindL 2 ++ 32 :: (textL c.ac c.ar ++ 32 :: (itoa c.seq ++ 32 :: (textC c.deps ++ 32 :: (textL c.nc c.nr ++ 32 :: (textL c.pc c.pr ++ 32 :: afterL c.fc c.fr))))) := by
  unfold textCh wordsCh
  rw [h]
  simp [hasNode, hasPlace, hasName, hasValue, join_two, join_one]
theorem textCh_3 (c : Ch) (h : c.kind = 3) : textCh c = kindL 3 ++ 32 :: (textL c.ac c.ar ++ 32 :: (itoa c.seq ++ 32 :: (textC c.deps ++ 32 :: (textL c.nc c.nr ++ 32 :: (c.name.data.toList ++ 32 :: quoteL c.value.data.toList))))) := by
  unfold textCh wordsCh
  rw [h]
  simp [hasNode, hasPlace, hasName, hasValue, join_two, join_one]
theorem textCh_4 (c : Ch) (h : c.kind = 4) : textCh c = kindL 4 ++ 32 :: (textL c.ac c.ar ++ 32 :: (itoa c.seq ++ 32 :: (textC c.deps ++ 32 :: (textL c.nc c.nr ++ 32 :: c.name.data.toList)))) := by
  unfold textCh wordsCh
  rw [h]
  simp [hasNode, hasPlace, hasName, hasValue, join_two, join_one]
theorem textCh_5 (c : Ch) (h : c.kind = 5) : textCh c = kindL 5 ++ 32 :: (textL c.ac c.ar ++ 32 :: (itoa c.seq ++ 32 :: (textC c.deps ++ 32 :: (textL c.nc c.nr ++ 32 :: quoteL c.value.data.toList)))) := by
  unfold textCh wordsCh
  rw [h]
  simp [hasNode, hasPlace, hasName, hasValue, join_two, join_one]
theorem ch_ext {c d : Ch} (h1 : c.ac = d.ac ∧ c.ar = d.ar) (h2 : c.seq = d.seq) (h3 : c.deps = d.deps) (h4 : c.kind = d.kind) (h5 : c.nc = d.nc ∧ c.nr = d.nr) (h6 : c.pc = d.pc ∧ c.pr = d.pr) (h7 : c.fc = d.fc ∧ c.fr = d.fr) (h8 : c.name = d.name) (h9 : c.value = d.value) : c = d := by
  obtain ⟨h1, h1'⟩ := h1
  obtain ⟨h5, h5'⟩ := h5
  obtain ⟨h6, h6'⟩ := h6
  obtain ⟨h7, h7'⟩ := h7
  cases c; cases d
  simp_all
theorem kindOf_1 : kindOf (kindL 1) = 1 := by decide
theorem kindOf_2 : kindOf (kindL 2) = 2 := by decide
theorem kindOf_3 : kindOf (kindL 3) = 3 := by decide
theorem kindOf_4 : kindOf (kindL 4) = 4 := by decide
theorem kindOf_5 : kindOf (kindL 5) = 5 := by decide

/-- What is read of a right change's text is the change. -/
theorem ReadIs.back {c d : Ch} (h : checkCh d = 0) (hr : ReadIs (textCh d) c) : c = d := by
  have f := fine d h
  obtain ⟨hk, ha, hs, hd, r4, r5, r6, r7, e4, hn, hp, hm, hv⟩ := hr
  rcases f.kind with k | k | k | k | k
  · rw [textCh_1 d k] at *
    simp only [hdW_at (kindL_blank _), tlW_at (kindL_blank _), hdW_at (textL_blank _ _), tlW_at (textL_blank _ _), hdW_at (itoa_blank _), tlW_at (itoa_blank _), hdW_at (textC_blank _), tlW_at (textC_blank _), kindOf_1] at hk ha hs hd e4
    have nb : (32 : UInt8) ∉ d.name.data.toList := f.name (by rw [k]; decide)
    rw [hk] at hn hp hm hv
    simp only [hasNode, hasPlace, hasName, hasValue] at hn hp hm hv
    simp at hn hp hm hv
    obtain ⟨hn, rfl⟩ := hn
    rw [e4] at hp
    simp only [hdW_at (textL_blank _ _), tlW_at (textL_blank _ _), hdW_at (afterL_blank _ _), tlW_at (afterL_blank _ _)] at hp
    obtain ⟨hp, hf, e6⟩ := hp
    rw [e6, hdW_no nb] at hm
    have ea := ha.text f.at_
    exact ch_ext ea (hs.text f.seq0 f.seq1) (hd.text f.deps f.trim) (hk.trans k.symm) ⟨by rw [hn.1, ea.1, (f.made k).1], by rw [hn.2, ea.2, (f.made k).2]⟩ (hp.text f.parent) (hf.after f.after) (bytes_ext (by simpa using hm.1)) (by rw [f.novalue (by rw [k]; decide)]; exact hv)
  · rw [textCh_2 d k] at *
    simp only [hdW_at (kindL_blank _), tlW_at (kindL_blank _), hdW_at (textL_blank _ _), tlW_at (textL_blank _ _), hdW_at (itoa_blank _), tlW_at (itoa_blank _), hdW_at (textC_blank _), tlW_at (textC_blank _), kindOf_2] at hk ha hs hd e4
    rw [hk] at hn hp hm hv
    simp only [hasNode, hasPlace, hasName, hasValue] at hn hp hm hv
    simp at hn hp hm hv
    rw [e4] at hn
    simp only [hdW_at (textL_blank _ _), tlW_at (textL_blank _ _)] at hn
    obtain ⟨hn, rfl⟩ := hn
    simp only [hdW_at (textL_blank _ _), tlW_at (textL_blank _ _), hdW_no (afterL_blank _ _), tlW_no (afterL_blank _ _)] at hp
    obtain ⟨hp, hf, e6⟩ := hp
    exact ch_ext (ha.text f.at_) (hs.text f.seq0 f.seq1) (hd.text f.deps f.trim) (hk.trans k.symm) (hn.text f.node) (hp.text f.parent) (hf.after f.after) (by rw [f.noname (by rw [k]; decide)]; exact hm.1) (by rw [f.novalue (by rw [k]; decide)]; exact hv)
  · rw [textCh_3 d k] at *
    simp only [hdW_at (kindL_blank _), tlW_at (kindL_blank _), hdW_at (textL_blank _ _), tlW_at (textL_blank _ _), hdW_at (itoa_blank _), tlW_at (itoa_blank _), hdW_at (textC_blank _), tlW_at (textC_blank _), kindOf_3] at hk ha hs hd e4
    have nb : (32 : UInt8) ∉ d.name.data.toList := f.name (by rw [k]; decide)
    have np := f.noplace (by rw [k]; decide)
    rw [hk] at hn hp hm hv
    simp only [hasNode, hasPlace, hasName, hasValue] at hn hp hm hv
    simp at hn hp hm hv
    rw [e4] at hn
    simp only [hdW_at (textL_blank _ _), tlW_at (textL_blank _ _)] at hn
    obtain ⟨hn, rfl⟩ := hn
    obtain ⟨hp, rfl⟩ := hp
    rw [hdW_at nb, tlW_at nb] at hm
    obtain ⟨hm, rfl⟩ := hm
    exact ch_ext (ha.text f.at_) (hs.text f.seq0 f.seq1) (hd.text f.deps f.trim) (hk.trans k.symm) (hn.text f.node) ⟨by rw [hp.1, np.1], by rw [hp.2.1, np.2.1]⟩ ⟨by rw [hp.2.2.1, np.2.2.1], by rw [hp.2.2.2, np.2.2.2]⟩ (bytes_ext (by simpa using hm)) (bytes_ext hv.text)
  · rw [textCh_4 d k] at *
    simp only [hdW_at (kindL_blank _), tlW_at (kindL_blank _), hdW_at (textL_blank _ _), tlW_at (textL_blank _ _), hdW_at (itoa_blank _), tlW_at (itoa_blank _), hdW_at (textC_blank _), tlW_at (textC_blank _), kindOf_4] at hk ha hs hd e4
    have nb : (32 : UInt8) ∉ d.name.data.toList := f.name (by rw [k]; decide)
    have np := f.noplace (by rw [k]; decide)
    rw [hk] at hn hp hm hv
    simp only [hasNode, hasPlace, hasName, hasValue] at hn hp hm hv
    simp at hn hp hm hv
    rw [e4] at hn
    simp only [hdW_at (textL_blank _ _), tlW_at (textL_blank _ _)] at hn
    obtain ⟨hn, rfl⟩ := hn
    obtain ⟨hp, rfl⟩ := hp
    rw [hdW_no nb] at hm
    exact ch_ext (ha.text f.at_) (hs.text f.seq0 f.seq1) (hd.text f.deps f.trim) (hk.trans k.symm) (hn.text f.node) ⟨by rw [hp.1, np.1], by rw [hp.2.1, np.2.1]⟩ ⟨by rw [hp.2.2.1, np.2.2.1], by rw [hp.2.2.2, np.2.2.2]⟩ (bytes_ext (by simpa using hm.1)) (by rw [f.novalue (by rw [k]; decide)]; exact hv)
  · rw [textCh_5 d k] at *
    simp only [hdW_at (kindL_blank _), tlW_at (kindL_blank _), hdW_at (textL_blank _ _), tlW_at (textL_blank _ _), hdW_at (itoa_blank _), tlW_at (itoa_blank _), hdW_at (textC_blank _), tlW_at (textC_blank _), kindOf_5] at hk ha hs hd e4
    have np := f.noplace (by rw [k]; decide)
    rw [hk] at hn hp hm hv
    simp only [hasNode, hasPlace, hasName, hasValue] at hn hp hm hv
    simp at hn hp hm hv
    rw [e4] at hn
    simp only [hdW_at (textL_blank _ _), tlW_at (textL_blank _ _)] at hn
    obtain ⟨hn, rfl⟩ := hn
    obtain ⟨hp, rfl⟩ := hp
    obtain ⟨hm, rfl⟩ := hm
    exact ch_ext (ha.text f.at_) (hs.text f.seq0 f.seq1) (hd.text f.deps f.trim) (hk.trans k.symm) (hn.text f.node) ⟨by rw [hp.1, np.1], by rw [hp.2.1, np.2.1]⟩ ⟨by rw [hp.2.2.1, np.2.2.1], by rw [hp.2.2.2, np.2.2.2]⟩ (by rw [f.noname (by rw [k]; decide)]; exact hm) (bytes_ext hv.text)

theorem RefReadIs.back {c d : Ch} (h : checkCh d = 0) (hr : RefReadIs (textCh d) c) : c = d := by
  have f := fine d h
  obtain ⟨hk, ha, hs, hd, r4, r5, r6, e4, e5, e6, h1, h2, h3, h4, h5⟩ := hr
  rcases f.kind with k | k | k | k | k
  · rw [textCh_1 d k] at *
    simp only [hdW_at (kindL_blank _), tlW_at (kindL_blank _), hdW_at (textL_blank _ _), tlW_at (textL_blank _ _), hdW_at (itoa_blank _), tlW_at (itoa_blank _), hdW_at (textC_blank _), tlW_at (textC_blank _), kindOf_1] at hk ha hs hd e4
    obtain ⟨n1, n2, hp, hf, hm, hv⟩ := h1 hk
    rw [e4, tlW_at (textL_blank _ _)] at e5
    rw [e5, tlW_at (afterL_blank _ _)] at e6
    rw [e4, hdW_at (textL_blank _ _)] at hp
    rw [e5, hdW_at (afterL_blank _ _)] at hf
    have ea := ha.text f.at_
    exact ch_ext ea (hs.text f.seq0 f.seq1) (hd.text f.deps f.trim) (hk.trans k.symm) ⟨by rw [n1, ea.1, (f.made k).1], by rw [n2, ea.2, (f.made k).2]⟩ (hp.text f.parent) (hf.after f.after) (bytes_ext (by rw [hm, e6])) (by rw [f.novalue (by rw [k]; decide)]; exact hv)
  · rw [textCh_2 d k] at *
    simp only [hdW_at (kindL_blank _), tlW_at (kindL_blank _), hdW_at (textL_blank _ _), tlW_at (textL_blank _ _), hdW_at (itoa_blank _), tlW_at (itoa_blank _), hdW_at (textC_blank _), tlW_at (textC_blank _), kindOf_2] at hk ha hs hd e4
    obtain ⟨hn, hp, hf, hm, hv⟩ := h2 hk
    rw [e4, tlW_at (textL_blank _ _)] at e5
    rw [e5, tlW_at (textL_blank _ _)] at e6
    rw [e4, hdW_at (textL_blank _ _)] at hn
    rw [e5, hdW_at (textL_blank _ _)] at hp
    rw [e6] at hf
    exact ch_ext (ha.text f.at_) (hs.text f.seq0 f.seq1) (hd.text f.deps f.trim) (hk.trans k.symm) (hn.text f.node) (hp.text f.parent) (hf.after f.after) (by rw [f.noname (by rw [k]; decide)]; exact hm) (by rw [f.novalue (by rw [k]; decide)]; exact hv)
  · rw [textCh_3 d k] at *
    simp only [hdW_at (kindL_blank _), tlW_at (kindL_blank _), hdW_at (textL_blank _ _), tlW_at (textL_blank _ _), hdW_at (itoa_blank _), tlW_at (itoa_blank _), hdW_at (textC_blank _), tlW_at (textC_blank _), kindOf_3] at hk ha hs hd e4
    have nb : (32 : UInt8) ∉ d.name.data.toList := f.name (by rw [k]; decide)
    have np := f.noplace (by rw [k]; decide)
    obtain ⟨hn, p1, p2, p3, p4, hm, hv⟩ := h3 hk
    rw [e4, tlW_at (textL_blank _ _)] at e5
    rw [e5, tlW_at nb] at e6
    rw [e4, hdW_at (textL_blank _ _)] at hn
    rw [e5, hdW_at nb] at hm
    rw [e6] at hv
    exact ch_ext (ha.text f.at_) (hs.text f.seq0 f.seq1) (hd.text f.deps f.trim) (hk.trans k.symm) (hn.text f.node) ⟨by rw [p1, np.1], by rw [p2, np.2.1]⟩ ⟨by rw [p3, np.2.2.1], by rw [p4, np.2.2.2]⟩ (bytes_ext hm) (bytes_ext hv.text)
  · rw [textCh_4 d k] at *
    simp only [hdW_at (kindL_blank _), tlW_at (kindL_blank _), hdW_at (textL_blank _ _), tlW_at (textL_blank _ _), hdW_at (itoa_blank _), tlW_at (itoa_blank _), hdW_at (textC_blank _), tlW_at (textC_blank _), kindOf_4] at hk ha hs hd e4
    have nb : (32 : UInt8) ∉ d.name.data.toList := f.name (by rw [k]; decide)
    have np := f.noplace (by rw [k]; decide)
    obtain ⟨hn, p1, p2, p3, p4, hm, hv⟩ := h4 hk
    rw [e4, tlW_at (textL_blank _ _)] at e5
    rw [e4, hdW_at (textL_blank _ _)] at hn
    rw [e5, hdW_no nb] at hm
    exact ch_ext (ha.text f.at_) (hs.text f.seq0 f.seq1) (hd.text f.deps f.trim) (hk.trans k.symm) (hn.text f.node) ⟨by rw [p1, np.1], by rw [p2, np.2.1]⟩ ⟨by rw [p3, np.2.2.1], by rw [p4, np.2.2.2]⟩ (bytes_ext hm) (by rw [f.novalue (by rw [k]; decide)]; exact hv)
  · rw [textCh_5 d k] at *
    simp only [hdW_at (kindL_blank _), tlW_at (kindL_blank _), hdW_at (textL_blank _ _), tlW_at (textL_blank _ _), hdW_at (itoa_blank _), tlW_at (itoa_blank _), hdW_at (textC_blank _), tlW_at (textC_blank _), kindOf_5] at hk ha hs hd e4
    have np := f.noplace (by rw [k]; decide)
    obtain ⟨hn, p1, p2, p3, p4, hm, hv⟩ := h5 hk
    rw [e4, tlW_at (textL_blank _ _)] at e5
    rw [e4, hdW_at (textL_blank _ _)] at hn
    rw [e5] at hv
    exact ch_ext (ha.text f.at_) (hs.text f.seq0 f.seq1) (hd.text f.deps f.trim) (hk.trans k.symm) (hn.text f.node) ⟨by rw [p1, np.1], by rw [p2, np.2.1]⟩ ⟨by rw [p3, np.2.2.1], by rw [p4, np.2.2.2]⟩ (by rw [f.noname (by rw [k]; decide)]; exact hm) (bytes_ext hv.text)

/-- What Parse tells of a text. -/
def ParseCh (l : List UInt8) (c : Ch) (k : Int) : Prop :=
  (262144 < l.length ∧ c = Ch.none ∧ k = 3) ∨ (checkCh c = 0 ∧ l = textCh c ∧ k = 0) ∨ (l.length ≤ 262144 ∧ (∀ d, checkCh d = 0 → l ≠ textCh d) ∧ c = Ch.none ∧ k = 2)
theorem parse_got {l : List UInt8} {c : Ch} (hl : l.length ≤ 262144) (hr : ∀ d, checkCh d = 0 → l = textCh d → c = d) (h : ¬ (checkCh c = 0 ∧ textCh c = l)) : ParseCh l Ch.none 2 :=
  .inr (.inr ⟨hl, fun d hd e => h (by rw [hr d hd e]; exact ⟨hd, e.symm⟩), rfl, rfl⟩)

end Go.Proofs.YtaocjmipjibiaabGreatDoor
