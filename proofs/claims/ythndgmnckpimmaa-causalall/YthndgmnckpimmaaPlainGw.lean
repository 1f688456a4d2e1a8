/- A change as data, what Check tells of it (the part of PlainG that needs no numerals). -/
import Derived.Test.YthndgmnckpimmaaPlainC
import Derived.Test.YthndgmnckpimmaaCkA
import Derived.Test.YthndgmnckpimmaaWalksD
namespace Go.Proofs.Ythndgmnckpimmaa
set_option linter.unusedVariables false

/-- Names. -/
def letB (c : UInt8) : Bool := decide (97 ≤ c.toNat ∧ c.toNat ≤ 122)

def decB (c : UInt8) : Bool := decide (48 ≤ c.toNat ∧ c.toNat ≤ 57)

def namB (c : UInt8) : Bool := letB c || decB c || decide (c.toNat = 45)

def nameL (l : List UInt8) : Bool := decide (1 ≤ l.length ∧ l.length ≤ 32) && (letB (l.headD 0) && l.all namB)
theorem nodeB_parts (c r : Int) : nodeB c r = (rootB c r || trashB c r || rightB c r) := by
  unfold nodeB rootB trashB rightB
  rw [Bool.eq_iff_iff]
  simp
  omega
structure Ch where
  ac : Int
  ar : Int
  seq : Int
  deps : List Int
  kind : Int
  nc : Int
  nr : Int
  pc : Int
  pr : Int
  fc : Int
  fr : Int
  name : ByteArray
  value : ByteArray

def Ch.none : Ch := ⟨0, 0, 0, [], 0, 0, 0, 0, 0, 0, 0, ⟨#[]⟩, ⟨#[]⟩⟩

def hasNode (k : Int) : Bool := decide (k ≠ 1)

def hasPlace (k : Int) : Bool := decide (k = 1 ∨ k = 2)

def hasName (k : Int) : Bool := decide (k = 1 ∨ k = 3 ∨ k = 4)

def hasValue (k : Int) : Bool := decide (k = 3 ∨ k = 5)

def aheadB (c r ac ar : Int) : Bool := rightB c r && lessS c r ac ar

def kindB (k : Int) : Bool := decide (1 ≤ k ∧ k ≤ 5)

def depsE (c : Ch) : Int := if checkL c.deps = 0 then (if (trimL c.deps).length = c.deps.length ∧ atL c.deps c.ar = c.seq - 1 then 0 else 2) else checkL c.deps

def nodeR (c : Ch) : Bool := if c.kind = 1 then decide (c.nc = c.ac ∧ c.nr = c.ar) else if c.kind = 2 then aheadB c.nc c.nr c.ac c.ar else (rootB c.nc c.nr || aheadB c.nc c.nr c.ac c.ar)

def placeR (c : Ch) : Bool := if hasPlace c.kind = true then ((nodeB c.pc c.pr && (lessS c.pc c.pr c.ac c.ar && !decide (c.pc = c.nc ∧ c.pr = c.nr))) && (rootB c.fc c.fr || aheadB c.fc c.fr c.ac c.ar)) else (rootB c.pc c.pr && rootB c.fc c.fr)

def nameR (c : Ch) : Bool := if hasName c.kind = true then nameL c.name.data.toList else decide (c.name.size = 0)

def valueE (c : Ch) : Int := if 256 < c.value.size then 3 else if hasValue c.kind = false ∧ c.value.size ≠ 0 then 2 else 0

/-- What Check tells. -/
def checkCh (c : Ch) : Int :=
  if kindB c.kind = true then
    if rightB c.ac c.ar = true then
      if 1 ≤ c.seq ∧ c.seq ≤ c.ac then
        if depsE c = 0 then
          if nodeR c = true ∧ placeR c = true then
            if nameR c = true then valueE c else 8
          else 2
        else depsE c
      else 1
    else 2
  else 1

theorem checkCh_ok (c : Ch) (h : checkCh c = 0) : kindB c.kind = true ∧ rightB c.ac c.ar = true ∧ (1 ≤ c.seq ∧ c.seq ≤ c.ac) ∧ depsE c = 0 ∧ nodeR c = true ∧ placeR c = true ∧ nameR c = true ∧ valueE c = 0 := by
  unfold checkCh at h
  split at h
  · split at h
    · split at h
      · split at h
        · split at h
          · split at h
            · rename_i a b c d e f; exact ⟨a, b, c, d, e.1, e.2, f, h⟩
            · cases h
          · cases h
        · rename_i g; exact absurd h g
      · cases h
    · cases h
  · cases h

theorem trim_take_len (l : List Int) : trimL l = l.take (trimL l).length := by
  induction l with
  | nil => rfl
  | cons x t ih =>
    rw [trim_cons]
    by_cases h : trimL t = []
    · rw [if_pos h]
      by_cases h0 : x = 0
      · rw [if_pos h0]; rfl
      · rw [if_neg h0]; rfl
    · rw [if_neg h, List.length_cons, List.take_succ_cons, ← ih]

theorem depsE_ok (c : Ch) (h : depsE c = 0) : checkL c.deps = 0 ∧ trimL c.deps = c.deps ∧ atL c.deps c.ar = c.seq - 1 := by
  unfold depsE at h
  split at h
  · rename_i h0
    split at h
    · rename_i h1
      refine ⟨h0, ?_, h1.2⟩
      have h2 := trim_take_len c.deps
      rw [h1.1, List.take_length] at h2
      exact h2
    · cases h
  · rename_i g; exact absurd h g

theorem nameL_blank {l : List UInt8} (h : nameL l = true) : (32 : UInt8) ∉ l := fun hm => by
  unfold nameL at h
  simp only [Bool.and_eq_true, List.all_eq_true] at h
  have := h.2.2 32 hm
  revert this
  decide

theorem size_list (s : ByteArray) : s.data.toList.length = s.size := by simp

theorem bytes_ext {s t : ByteArray} (h : s.data.toList = t.data.toList) : s = t := by
  cases s; cases t
  simp only [ByteArray.mk.injEq]
  exact Array.toList_inj.1 h

theorem bytes_none {s : ByteArray} (h : s.size = 0) : s = ⟨#[]⟩ := bytes_ext (by
  have := size_list s
  rw [h] at this
  exact List.eq_nil_of_length_eq_zero this)

/-- A right change, taken apart. -/
theorem ahead_node {c r ac ar : Int} (h : aheadB c r ac ar = true) : nodeB c r = true := by
  unfold aheadB at h
  simp only [Bool.and_eq_true] at h
  rw [nodeB_parts, h.1]; simp

theorem root_node {c r : Int} (h : rootB c r = true) : nodeB c r = true := by rw [nodeB_parts, h]; simp

structure Fine (c : Ch) : Prop where
  kind : c.kind = 1 ∨ c.kind = 2 ∨ c.kind = 3 ∨ c.kind = 4 ∨ c.kind = 5
  at_ : nodeB c.ac c.ar = true
  seq0 : 0 ≤ c.seq
  seq1 : c.seq ≤ 1099511627776
  deps : checkL c.deps = 0
  trim : trimL c.deps = c.deps
  node : nodeB c.nc c.nr = true
  made : c.kind = 1 → c.nc = c.ac ∧ c.nr = c.ar
  parent : nodeB c.pc c.pr = true
  after : nodeB c.fc c.fr = true
  noplace : hasPlace c.kind = false → c.pc = 0 ∧ c.pr = 0 ∧ c.fc = 0 ∧ c.fr = 0
  name : hasName c.kind = true → (32 : UInt8) ∉ c.name.data.toList
  noname : hasName c.kind = false → c.name = ⟨#[]⟩
  novalue : hasValue c.kind = false → c.value = ⟨#[]⟩

theorem fine (c : Ch) (h : checkCh c = 0) : Fine c := by
  obtain ⟨h1, h2, h3, h4, h5, h6, h7, h8⟩ := checkCh_ok c h
  obtain ⟨d1, d2, d3⟩ := depsE_ok c h4
  have h2' := h2
  simp only [rightB, decide_eq_true_eq] at h2'
  simp only [kindB, decide_eq_true_eq] at h1
  have hat : nodeB c.ac c.ar = true := by rw [nodeB_parts, h2]; simp
  unfold placeR at h6
  unfold nodeR at h5
  unfold nameR at h7
  refine ⟨by omega, hat, by omega, by omega, d1, d2, ?_, ?_, ?_, ?_, ?_, ?_, ?_, ?_⟩
  · split at h5
    · simp only [decide_eq_true_eq] at h5; rw [h5.1, h5.2]; exact hat
    · split at h5
      · exact ahead_node h5
      · rcases Bool.or_eq_true _ _ ▸ h5 with h | h
        · exact root_node h
        · exact ahead_node h
  · intro hk
    rw [if_pos hk] at h5
    simpa using h5
  · split at h6
    · simp only [Bool.and_eq_true] at h6; exact h6.1.1
    · simp only [Bool.and_eq_true] at h6; exact root_node h6.1
  · split at h6
    · simp only [Bool.and_eq_true, Bool.or_eq_true] at h6
      rcases h6.2 with h | h
      · exact root_node h
      · exact ahead_node h
    · simp only [Bool.and_eq_true] at h6; exact root_node h6.2
  · intro hp
    rw [if_neg (by simp [hp])] at h6
    simp only [Bool.and_eq_true, rootB, decide_eq_true_eq] at h6
    exact ⟨h6.1.1, h6.1.2, h6.2.1, h6.2.2⟩
  · intro hn
    rw [if_pos hn] at h7
    exact nameL_blank h7
  · intro hn
    rw [if_neg (by simp [hn])] at h7
    exact bytes_none (by simpa using h7)
  · intro hv
    unfold valueE at h8
    split at h8
    · cases h8
    · split at h8
      · cases h8
      · rename_i g
        exact bytes_none (by
          rcases Nat.eq_zero_or_pos c.value.size with h | h
          · exact h
          · exact absurd ⟨hv, by omega⟩ g)

theorem ch_ext {c d : Ch} (h1 : c.ac = d.ac ∧ c.ar = d.ar) (h2 : c.seq = d.seq) (h3 : c.deps = d.deps) (h4 : c.kind = d.kind) (h5 : c.nc = d.nc ∧ c.nr = d.nr) (h6 : c.pc = d.pc ∧ c.pr = d.pr) (h7 : c.fc = d.fc ∧ c.fr = d.fr) (h8 : c.name = d.name) (h9 : c.value = d.value) : c = d := by
  obtain ⟨h1, h1'⟩ := h1
  obtain ⟨h5, h5'⟩ := h5
  obtain ⟨h6, h6'⟩ := h6
  obtain ⟨h7, h7'⟩ := h7
  cases c; cases d
  simp_all

end Go.Proofs.Ythndgmnckpimmaa
