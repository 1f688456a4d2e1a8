/- A log as data: its changes in the order of their stamps, what speaks against one more, as the document says it and as the program asks it. -/
import Derived.Test.YthndgmnckpimmaaPlainGw
namespace Go.Proofs.Ythndgmnckpimmaa
set_option linter.unusedVariables false

/-- Is a stamp among those that a change names? -/
def namB2 (ac ar : Int) (x : Int × Int) : Bool := rightB x.1 x.2 && !decide (x.1 = ac ∧ x.2 = ar)
/-- The stamps that a change names. -/
def namesL (c : Ch) : List (Int × Int) := [(c.nc, c.nr), (c.pc, c.pr), (c.fc, c.fr)].filter (namB2 c.ac c.ar)
/-- Is one change ahead of another one? -/
def ltB (c d : Ch) : Bool := lessS c.ac c.ar d.ac d.ar
theorem ltB_iff (c d : Ch) : ltB c d = true ↔ c.ac < d.ac ∨ c.ac = d.ac ∧ c.ar < d.ar := by unfold ltB lessS; simp
theorem ltB_trans {a b c : Ch} (h : ltB a b = true) (h2 : ltB b c = true) : ltB a c = true := by rw [ltB_iff] at *; omega
theorem ltB_no {a b : Ch} (h : ltB a b = true) : ltB b a = false := by
  rw [Bool.eq_false_iff, Ne, ltB_iff]; rw [ltB_iff] at h; omega
theorem ltB_irr (a : Ch) : ltB a a = false := by rw [Bool.eq_false_iff, Ne, ltB_iff]; omega
theorem ltB_or {a b : Ch} (h : ¬ (a.ac = b.ac ∧ a.ar = b.ar)) : ltB a b = true ∨ ltB b a = true := by rw [ltB_iff, ltB_iff]; omega
theorem ltB_ne {a b : Ch} (h : ltB a b = true) : ¬ (a.ac = b.ac ∧ a.ar = b.ar) := by rw [ltB_iff] at h; omega

/-- Changes in the order of their stamps, each once. -/
def Srt (L : List Ch) : Prop := L.Pairwise fun c d => ltB c d = true
def isAt (a r : Int) (c : Ch) : Bool := decide (c.ac = a ∧ c.ar = r)
/-- The change of a stamp. -/
def getL (L : List Ch) (a r : Int) : Option Ch := L.find? (isAt a r)
/-- A replica's changes, how many these are; the clock. -/
def ofR (L : List Ch) (r : Int) : List Ch := L.filter fun c => decide (c.ar = r)
def cntR (L : List Ch) (r : Int) : Nat := (ofR L r).length
def counts (L : List Ch) : List Int := (List.range 64).map fun (r : Nat) => (cntR L (r : Int) : Int)
def clockL (L : List Ch) : List Int := trimL (counts L)
def withinB (c : Ch) (known : List Int) : Bool := decide (c.seq ≤ atL known c.ar)
def isOwn (r s : Int) (c : Ch) : Bool := decide (c.ar = r ∧ c.seq = s)
/-- A replica's change by its number. -/
def ownC (L : List Ch) (r s : Int) : Option Ch := L.find? (isOwn r s)
/-- A change at its place. -/
def putC : List Ch → Ch → List Ch
  | [], c => [c]
  | d :: t, c => if ltB c d = true then c :: d :: t else d :: putC t c

theorem putC_cons (d : Ch) (t : List Ch) (c : Ch) : putC (d :: t) c = if ltB c d = true then c :: d :: t else d :: putC t c := rfl

theorem putC_mem (L : List Ch) (c x : Ch) : x ∈ putC L c ↔ x = c ∨ x ∈ L := by
  induction L with
  | nil => simp [putC]
  | cons d t ih =>
    rw [putC_cons]
    split
    · simp
    · rw [List.mem_cons, ih, List.mem_cons]
      constructor
      · rintro (h | h | h)
        · exact .inr (.inl h)
        · exact .inl h
        · exact .inr (.inr h)
      · rintro (h | h | h)
        · exact .inr (.inl h)
        · exact .inl h
        · exact .inr (.inr h)
theorem putC_length (L : List Ch) (c : Ch) : (putC L c).length = L.length + 1 := by
  induction L with
  | nil => rfl
  | cons d t ih => rw [putC_cons]; split <;> simp [ih]
theorem putC_srt {L : List Ch} {c : Ch} (h : Srt L) (hn : ∀ d ∈ L, ¬ (d.ac = c.ac ∧ d.ar = c.ar)) : Srt (putC L c) := by
  induction L with
  | nil => simp [putC, Srt]
  | cons d t ih =>
    rw [putC_cons]
    have h1 := List.pairwise_cons.1 h
    split
    · rename_i hc
      refine List.pairwise_cons.2 ⟨fun x hx => ?_, h⟩
      rcases List.mem_cons.1 hx with rfl | hx
      · exact hc
      · exact ltB_trans hc (h1.1 x hx)
    · rename_i hc
      refine List.pairwise_cons.2 ⟨fun x hx => ?_, ih h1.2 (fun y hy => hn y (by simp [hy]))⟩
      rcases (putC_mem t c x).1 hx with rfl | hx
      · exact (ltB_or (hn d (by simp))).resolve_right hc
      · exact h1.1 x hx
theorem putC_last {L : List Ch} {c : Ch} (h : ∀ d ∈ L, ltB c d = false) : putC L c = L ++ [c] := by
  induction L with
  | nil => rfl
  | cons d t ih =>
    rw [putC_cons, if_neg (by simp [h d (by simp)]), ih (fun x hx => h x (by simp [hx]))]
    rfl
/-- The place that a search by halves finds. -/
theorem putC_split {L : List Ch} {c : Ch} : ∀ (i : Nat), i ≤ L.length → (∀ j (h : j < L.length), j < i → ltB c L[j] = false) → (∀ j (h : j < L.length), i ≤ j → ltB c L[j] = true) → putC L c = L.take i ++ c :: L.drop i := by
  induction L with
  | nil => intro i hi _ _; simp at hi; subst hi; rfl
  | cons d t ih =>
    intro i hi h1 h2
    rw [putC_cons]
    match i with
    | 0 =>
      have : ltB c d = true := h2 0 (by simp) (Nat.le_refl _)
      rw [if_pos this]; rfl
    | i + 1 =>
      have h0 : ltB c d = false := h1 0 (by simp) (by omega)
      rw [if_neg (by simp [h0]), ih i (by simpa using hi) (fun j hj hji => h1 (j + 1) (by simpa using hj) (by omega)) (fun j hj hji => h2 (j + 1) (by simpa using hj) (by omega))]
      rfl

theorem ofR_mem {L : List Ch} {r : Int} {x : Ch} : x ∈ ofR L r ↔ x ∈ L ∧ x.ar = r := by simp [ofR]
theorem ofR_srt {L : List Ch} (h : Srt L) (r : Int) : Srt (ofR L r) := List.Pairwise.filter _ h
theorem ofR_put {L : List Ch} {c : Ch} (h : Srt L) (r : Int) : ofR (putC L c) r = if c.ar = r then putC (ofR L r) c else ofR L r := by
  induction L with
  | nil => simp only [putC, ofR, List.filter_cons, List.filter_nil]; by_cases hr : c.ar = r <;> simp [hr]
  | cons d t ih =>
    have h1 := List.pairwise_cons.1 h
    have ih := ih h1.2
    have first : ltB c d = true → ∀ X, (∀ x ∈ X, x ∈ t) → putC X c = c :: X := by
      intro hc X hX
      match X with
      | [] => rfl
      | x :: y => rw [putC_cons, if_pos (ltB_trans hc (h1.1 x (hX x (by simp))))]
    rw [putC_cons]
    by_cases hc : ltB c d = true
    · rw [if_pos hc]
      by_cases hr : c.ar = r
      · rw [if_pos hr]
        have e1 : ofR (c :: d :: t) r = c :: ofR (d :: t) r := by simp [ofR, hr]
        rw [e1]
        by_cases hd : d.ar = r
        · have e2 : ofR (d :: t) r = d :: ofR t r := by simp [ofR, hd]
          rw [e2]
          rw [putC_cons, if_pos hc]
        · have e2 : ofR (d :: t) r = ofR t r := by simp [ofR, hd]
          rw [e2, first hc (ofR t r) (fun x hx => (ofR_mem.1 hx).1)]
      · rw [if_neg hr]
        simp [ofR, hr]
    · rw [if_neg hc]
      by_cases hd : d.ar = r
      · have e1 : ofR (d :: putC t c) r = d :: ofR (putC t c) r := by simp [ofR, hd]
        have e2 : ofR (d :: t) r = d :: ofR t r := by simp [ofR, hd]
        rw [e1, e2, ih]
        by_cases hr : c.ar = r
        · rw [if_pos hr, if_pos hr]
          rw [putC_cons, if_neg hc]
        · rw [if_neg hr, if_neg hr]
      · have e1 : ofR (d :: putC t c) r = ofR (putC t c) r := by simp [ofR, hd]
        have e2 : ofR (d :: t) r = ofR t r := by simp [ofR, hd]
        rw [e1, e2, ih]

theorem srt_inj {L : List Ch} (h : Srt L) {c d : Ch} (hc : c ∈ L) (hd : d ∈ L) (e : c.ac = d.ac ∧ c.ar = d.ar) : c = d := by
  induction L with
  | nil => simp at hc
  | cons x t ih =>
    have h1 := List.pairwise_cons.1 h
    rcases List.mem_cons.1 hc with hcx | hc
    · subst hcx
      rcases List.mem_cons.1 hd with hdx | hd
      · exact hdx.symm
      · exact absurd e (ltB_ne (h1.1 d hd))
    · rcases List.mem_cons.1 hd with hdx | hd
      · rw [hdx] at e; exact absurd ⟨e.1.symm, e.2.symm⟩ (ltB_ne (h1.1 c hc))
      · exact ih h1.2 hc hd
theorem getL_some {L : List Ch} (h : Srt L) {a r : Int} {c : Ch} : getL L a r = some c ↔ c ∈ L ∧ c.ac = a ∧ c.ar = r := by
  constructor
  · intro e
    have h1 := List.mem_of_find?_eq_some e
    have h2 := List.find?_some e
    simp only [isAt, decide_eq_true_eq] at h2
    exact ⟨h1, h2⟩
  · rintro ⟨hc, ha, hr⟩
    cases e : getL L a r with
    | none =>
      have := List.find?_eq_none.1 e c hc
      simp [isAt, ha, hr] at this
    | some d =>
      have h1 := List.mem_of_find?_eq_some e
      have h2 := List.find?_some e
      simp only [isAt, decide_eq_true_eq] at h2
      rw [srt_inj h hc h1 ⟨by omega, by omega⟩]
theorem getL_none {L : List Ch} {a r : Int} : getL L a r = none ↔ ∀ c ∈ L, ¬ (c.ac = a ∧ c.ar = r) := by
  unfold getL
  rw [List.find?_eq_none]
  simp [isAt]
/-- Two lists in order with the same changes are one. -/
theorem srt_ext {L M : List Ch} (h : Srt L) (k : Srt M) (e : ∀ x, x ∈ L ↔ x ∈ M) : L = M := by
  induction L generalizing M with
  | nil =>
    cases M with
    | nil => rfl
    | cons y u => exact absurd ((e y).2 (by simp)) (by simp)
  | cons x t ih =>
    have h1 := List.pairwise_cons.1 h
    cases M with
    | nil => exact absurd ((e x).1 (by simp)) (by simp)
    | cons y u =>
      have k1 := List.pairwise_cons.1 k
      have hxy : x = y := by
        rcases List.mem_cons.1 ((e x).1 (by simp)) with h2 | h2
        · exact h2
        · rcases List.mem_cons.1 ((e y).2 (by simp)) with h3 | h3
          · exact h3.symm
          · have := ltB_no (h1.1 y h3)
            rw [k1.1 x h2] at this
            cases this
      subst hxy
      have := ih h1.2 k1.2 (fun z => by
        have hz := e z
        simp only [List.mem_cons] at hz
        constructor
        · intro hm
          rcases hz.1 (.inr hm) with rfl | h5
          · have := h1.1 z hm; rw [ltB_irr] at this; cases this
          · exact h5
        · intro hm
          rcases hz.2 (.inr hm) with rfl | h5
          · have := k1.1 z hm; rw [ltB_irr] at this; cases this
          · exact h5)
      rw [this]

/-- What holds of a log's changes. -/
structure Good (L : List Ch) : Prop where
  srt : Srt L
  chk : ∀ c ∈ L, checkCh c = 0
  seq : ∀ (r : Int) (k : Nat) (h : k < (ofR L r).length), (ofR L r)[k].seq = (k : Int) + 1
  dep : ∀ c ∈ L, ∀ r : Nat, 0 < c.deps.getD r 0 → ∃ d ∈ L, d.ar = (r : Int) ∧ d.seq = c.deps.getD r 0 ∧ ltB d c = true
  nam : ∀ c ∈ L, ∀ s ∈ namesL c, ∃ d ∈ L, d.ac = s.1 ∧ d.ar = s.2 ∧ d.seq ≤ atL c.deps d.ar

theorem Good.none : Good [] := ⟨List.Pairwise.nil, fun c h => by simp at h, fun r k h => by simp [ofR] at h, fun c h => by simp at h, fun c h => by simp at h⟩
theorem Good.right {L : List Ch} (g : Good L) {c : Ch} (h : c ∈ L) : 1 ≤ c.ac ∧ c.ac ≤ 1099511627776 ∧ 0 ≤ c.ar ∧ c.ar < 64 ∧ 1 ≤ c.seq ∧ c.seq ≤ 1099511627776 := by
  obtain ⟨_, h2, h3, _⟩ := checkCh_ok c (g.chk c h)
  simp only [rightB, decide_eq_true_eq] at h2
  omega
theorem Good.at_ {L : List Ch} (g : Good L) {c : Ch} (h : c ∈ L) : ∃ k, ∃ hk : k < (ofR L c.ar).length, (ofR L c.ar)[k] = c ∧ c.seq = (k : Int) + 1 := by
  obtain ⟨k, hk, e⟩ := List.getElem_of_mem (ofR_mem.2 ⟨h, rfl⟩)
  exact ⟨k, hk, e, by rw [← g.seq c.ar k hk, e]⟩
theorem Good.le {L : List Ch} (g : Good L) {c : Ch} (h : c ∈ L) : 1 ≤ c.seq ∧ c.seq ≤ cntR L c.ar := by
  obtain ⟨k, hk, _, e⟩ := g.at_ h
  unfold cntR
  omega
theorem Good.nth {L : List Ch} (g : Good L) {r s : Int} (h1 : 1 ≤ s) (h2 : s ≤ cntR L r) : ∃ c ∈ L, c.ar = r ∧ c.seq = s := by
  unfold cntR at h2
  have hk : (s - 1).toNat < (ofR L r).length := by omega
  have hm := ofR_mem.1 (List.getElem_mem hk)
  exact ⟨_, hm.1, hm.2, by rw [g.seq r _ hk]; omega⟩
theorem Good.inj {L : List Ch} (g : Good L) {c d : Ch} (hc : c ∈ L) (hd : d ∈ L) (e : c.ar = d.ar) (e2 : c.seq = d.seq) : c = d := by
  obtain ⟨k, hk, e3, e4⟩ := g.at_ hc
  obtain ⟨j, hj, e5, e6⟩ := g.at_ hd
  have : k = j := by omega
  subst this
  rw [← e3, ← e5]
  simp only [e]
theorem srt_get {L : List Ch} (h : Srt L) {i j : Nat} (hi : i < L.length) (hj : j < L.length) (hij : i < j) : ltB L[i] L[j] = true := List.pairwise_iff_getElem.1 h i j hi hj hij
theorem Good.lt {L : List Ch} (g : Good L) {c d : Ch} (hc : c ∈ L) (hd : d ∈ L) (e : c.ar = d.ar) (h : c.seq < d.seq) : ltB c d = true := by
  obtain ⟨k, hk, e3, e4⟩ := g.at_ hc
  obtain ⟨j, hj, e5, e6⟩ := g.at_ hd
  have hkj : k < j := by omega
  have hs := ofR_srt g.srt d.ar
  have hk2 : k < (ofR L d.ar).length := by rw [← e]; exact hk
  have := srt_get hs hk2 hj hkj
  rw [e5] at this
  rw [← e3]
  simpa only [e] using this
theorem Good.own_iff {L : List Ch} (g : Good L) {r s : Int} {c : Ch} : ownC L r s = some c ↔ c ∈ L ∧ c.ar = r ∧ c.seq = s := by
  constructor
  · intro e
    have h1 := List.mem_of_find?_eq_some e
    have h2 := List.find?_some e
    simp only [isOwn, decide_eq_true_eq] at h2
    exact ⟨h1, h2⟩
  · rintro ⟨hc, ha, hr⟩
    cases e : ownC L r s with
    | none =>
      have := List.find?_eq_none.1 e c hc
      simp [isOwn, ha, hr] at this
    | some d =>
      have h1 := List.mem_of_find?_eq_some e
      have h2 := List.find?_some e
      simp only [isOwn, decide_eq_true_eq] at h2
      rw [g.inj hc h1 (by omega) (by omega)]
theorem ownC_none {L : List Ch} {r s : Int} : ownC L r s = none ↔ ∀ c ∈ L, ¬ (c.ar = r ∧ c.seq = s) := by
  unfold ownC
  rw [List.find?_eq_none]
  simp [isOwn]
/-- Is there such a change of a replica? -/
theorem Good.own_is {L : List Ch} (g : Good L) (r s : Int) : (ownC L r s).isSome = decide (1 ≤ s ∧ s ≤ cntR L r) := by
  cases e : ownC L r s with
  | none =>
    rw [ownC_none] at e
    symm
    simp only [Option.isSome_none, decide_eq_false_iff_not]
    intro h
    obtain ⟨c, hc, h1, h2⟩ := g.nth h.1 h.2
    exact e c hc ⟨h1, h2⟩
  | some d =>
    obtain ⟨hd, h1, h2⟩ := g.own_iff.1 e
    have := g.le hd
    rw [h1, h2] at this
    simp only [Option.isSome_some]
    exact (decide_eq_true this).symm
/-- It is what stands at that place among the replica's. -/
theorem Good.own_get {L : List Ch} (g : Good L) {r : Int} {k : Nat} (h : k < (ofR L r).length) : ownC L r ((k : Int) + 1) = some (ofR L r)[k] := by
  rw [g.own_iff]
  have hm := ofR_mem.1 (List.getElem_mem h)
  exact ⟨hm.1, hm.2, g.seq r k h⟩

theorem counts_length (L : List Ch) : (counts L).length = 64 := by simp [counts]
theorem counts_getD (L : List Ch) (k : Nat) : (counts L).getD k 0 = if k < 64 then (cntR L (k : Int) : Int) else 0 := by
  by_cases h : k < 64
  · rw [if_pos h, getD_at (by rw [counts_length]; exact h)]
    simp [counts]
  · rw [if_neg h, getD_out (by rw [counts_length]; omega)]
theorem clockL_getD (L : List Ch) (k : Nat) : (clockL L).getD k 0 = if k < 64 then (cntR L (k : Int) : Int) else 0 := by
  unfold clockL
  rw [trim_getD, counts_getD]
theorem clockL_at (L : List Ch) {r : Int} (h0 : 0 ≤ r) (h1 : r < 64) : atL (clockL L) r = cntR L r := by
  obtain ⟨k, rfl⟩ := Int.eq_ofNat_of_zero_le h0
  have : k < 64 := by omega
  rw [atL_nat, clockL_getD, if_pos this]
theorem clockL_length (L : List Ch) : (clockL L).length ≤ 64 := by
  have := trim_length (counts L)
  rw [counts_length] at this
  exact this
theorem cntR_le (L : List Ch) (r : Int) : cntR L r ≤ L.length := List.length_filter_le _ _

/-- Are two changes the same? -/
def sameB (a b : Ch) : Bool := decide (a.ac = b.ac) && decide (a.ar = b.ar) && decide (a.seq = b.seq) && decide (a.deps = b.deps) && decide (a.kind = b.kind) && decide (a.nc = b.nc) && decide (a.nr = b.nr) && decide (a.pc = b.pc) && decide (a.pr = b.pr) && decide (a.fc = b.fc) && decide (a.fr = b.fr) && (a.name.toList == b.name.toList) && (a.value.toList == b.value.toList)
theorem sameB_self (a : Ch) : sameB a a = true := by simp [sameB]

/-- What speaks against a change, as the document says it. -/
def depsR (L : List Ch) (c : Ch) (r : Nat) : Bool := decide (c.deps.getD r 0 = 0) || (match ownC L r (c.deps.getD r 0) with | none => false | some d => ltB d c)
def namsR (L : List Ch) (c : Ch) (s : Int × Int) : Bool := match getL L s.1 s.2 with | none => false | some d => withinB d c.deps
def behindR (L : List Ch) (c : Ch) : Bool := (List.range c.deps.length).all (depsR L c) && (namesL c).all (namsR L c)
def whyR (L : List Ch) (room : Int) (c : Ch) : Int :=
  if checkCh c ≠ 0 then checkCh c else
  match getL L c.ac c.ar with
  | some d => if sameB d c = true then 5 else 7
  | none =>
    if (ownC L c.ar c.seq).isSome = true then 7 else
    if c.seq ≠ atL (clockL L) c.ar + 1 ∨ underB c.deps (clockL L) = false then 4 else
    if behindR L c = false then 2 else
    if room ≤ (L.length : Int) then 6 else 0

/-- .. and as the program asks it. -/
def hasDepsB (L : List Ch) (c : Ch) : Bool := (List.range c.deps.length).all fun r => decide (c.deps.getD r 0 ≤ cntR L r)
def stampS (L : List Ch) (r : Int) (k : Int) : Int × Int := match (ofR L r)[(k - 1).toNat]? with | some d => (d.ac, d.ar) | none => (0, 0)
def depB (L : List Ch) (c : Ch) (r : Nat) : Bool := decide (c.deps.getD r 0 ≤ 0) || lessS (stampS L r (c.deps.getD r 0)).1 (stampS L r (c.deps.getD r 0)).2 c.ac c.ar
def isBehindB (L : List Ch) (c : Ch) : Bool := (List.range c.deps.length).all (depB L c)
def hasNamesB (L : List Ch) (c : Ch) : Bool := (namesL c).all (namsR L c)
def newC (L : List Ch) (c : Ch) : Int :=
  match getL L c.ac c.ar with
  | some d => if sameB d c = true then 5 else 7
  | none => if c.seq ≤ cntR L c.ar then 7 else 0
def whyC (L : List Ch) (room : Int) (c : Ch) : Int :=
  if checkCh c ≠ 0 then checkCh c else
  if newC L c ≠ 0 then newC L c else
  if hasDepsB L c = false then 4 else
  if isBehindB L c = false ∨ hasNamesB L c = false then 2 else
  if room ≤ (L.length : Int) then 6 else 0

theorem deps_len {c : Ch} (h : checkCh c = 0) : OkC c.deps := by
  obtain ⟨_, _, _, h4, _⟩ := checkCh_ok c h
  exact (checkL_ok _).1 (depsE_ok c h4).1
theorem deps_own {c : Ch} (h : checkCh c = 0) : atL c.deps c.ar = c.seq - 1 := by
  obtain ⟨_, _, _, h4, _⟩ := checkCh_ok c h
  exact (depsE_ok c h4).2.2
theorem right_of {c : Ch} (h : checkCh c = 0) : 1 ≤ c.ac ∧ c.ac ≤ 1099511627776 ∧ 0 ≤ c.ar ∧ c.ar < 64 ∧ 1 ≤ c.seq ∧ c.seq ≤ 1099511627776 := by
  obtain ⟨_, h2, h3, _⟩ := checkCh_ok c h
  simp only [rightB, decide_eq_true_eq] at h2
  omega
theorem hasDepsB_iff {L : List Ch} {c : Ch} : hasDepsB L c = true ↔ ∀ r, r < c.deps.length → c.deps.getD r 0 ≤ cntR L (r : Int) := by simp [hasDepsB]
theorem hasDeps_under {L : List Ch} {c : Ch} (h : checkCh c = 0) : hasDepsB L c = underB c.deps (clockL L) := by
  have ho := (deps_len h).1
  rw [Bool.eq_iff_iff, hasDepsB_iff, underB_iff]
  constructor
  · intro k r hr
    rw [clockL_getD, if_pos (by omega)]
    exact k r hr
  · intro k r hr
    have := k r hr
    rw [clockL_getD, if_pos (by omega)] at this
    exact this
theorem hasDeps_seq {L : List Ch} {c : Ch} (h : checkCh c = 0) (hn : ¬ c.seq ≤ cntR L c.ar) (hd : hasDepsB L c = true) : c.seq = cntR L c.ar + 1 := by
  have h1 := deps_own h
  obtain ⟨_, _, h2, h3, h4, _⟩ := right_of h
  obtain ⟨k, hk⟩ := Int.eq_ofNat_of_zero_le h2
  rw [hk, atL_nat] at h1
  by_cases hl : k < c.deps.length
  · have := hasDepsB_iff.1 hd k hl
    rw [hk] at hn ⊢
    omega
  · rw [getD_out (by omega)] at h1
    omega
theorem depB_eq {L : List Ch} (g : Good L) {c : Ch} (h : checkCh c = 0) (hd : hasDepsB L c = true) {r : Nat} (hr : r < c.deps.length) : depB L c r = depsR L c r := by
  have h1 := ((deps_len h).getD r).1
  have h2 := hasDepsB_iff.1 hd r hr
  unfold depB depsR
  by_cases h0 : c.deps.getD r 0 = 0
  · simp only [h0]; simp
  · have hk : (c.deps.getD r 0 - 1).toNat < (ofR L r).length := by unfold cntR at h2; omega
    have e1 := g.own_get hk
    rw [show (((c.deps.getD r 0 - 1).toNat : Nat) : Int) + 1 = c.deps.getD r 0 by omega] at e1
    rw [e1]
    have e2 : stampS L r (c.deps.getD r 0) = ((ofR L r)[(c.deps.getD r 0 - 1).toNat].ac, (ofR L r)[(c.deps.getD r 0 - 1).toNat].ar) := by
      unfold stampS
      rw [List.getElem?_eq_getElem hk]
    rw [e2]
    have q1 : decide (c.deps.getD r 0 ≤ 0) = false := decide_eq_false (by omega)
    have q2 : decide (c.deps.getD r 0 = 0) = false := decide_eq_false h0
    rw [q1, q2]
    rfl
theorem why_eq {L : List Ch} (g : Good L) (room : Int) (c : Ch) : whyC L room c = whyR L room c := by
  unfold whyC whyR
  by_cases h : checkCh c = 0
  · rw [if_neg (Decidable.not_not.2 h), if_neg (Decidable.not_not.2 h)]
    unfold newC
    cases e : getL L c.ac c.ar with
    | some d =>
      simp only
      by_cases hs : sameB d c = true
      · simp [hs]
      · simp [hs]
    | none =>
      simp only
      obtain ⟨_, _, h2, h3, h4, _⟩ := right_of h
      rw [g.own_is, clockL_at L h2 h3]
      by_cases hn : c.seq ≤ cntR L c.ar
      · rw [if_pos hn, if_pos (by decide), if_pos (by rw [decide_eq_true_eq]; omega)]
      · have q7 : ¬ decide (1 ≤ c.seq ∧ c.seq ≤ cntR L c.ar) = true := by rw [decide_eq_true_eq]; omega
        have q0 : ¬ ((0 : Int) ≠ 0) := by decide
        rw [if_neg hn, if_neg q0, if_neg q7, ← hasDeps_under h]
        cases hd : hasDepsB L c with
        | false =>
          have q6 : c.seq ≠ cntR L c.ar + 1 ∨ false = false := .inr rfl
          rw [if_pos rfl, if_pos q6]
        | true =>
          have hq := hasDeps_seq h hn hd
          have q4 : ¬ (c.seq ≠ cntR L c.ar + 1 ∨ true = false) := by simp only [Bool.true_eq_false, or_false]; omega
          have q5 : ¬ (true = false) := by decide
          rw [if_neg q5, if_neg q4]
          have e2 : behindR L c = (isBehindB L c && hasNamesB L c) := by
            unfold behindR isBehindB hasNamesB
            congr 1
            rw [Bool.eq_iff_iff]
            simp only [List.all_eq_true, List.mem_range]
            constructor
            · intro k r hr; rw [depB_eq g h hd hr]; exact k r hr
            · intro k r hr; rw [← depB_eq g h hd hr]; exact k r hr
          rw [e2]
          cases isBehindB L c <;> cases hasNamesB L c <;> simp
  · rw [if_pos h, if_pos h]

theorem why_ok {L : List Ch} {room : Int} {c : Ch} (h : whyR L room c = 0) : checkCh c = 0 ∧ getL L c.ac c.ar = none ∧ c.seq = atL (clockL L) c.ar + 1 ∧ underB c.deps (clockL L) = true ∧ behindR L c = true ∧ (L.length : Int) < room := by
  unfold whyR at h
  split at h
  · contradiction
  · rename_i h0
    split at h
    · split at h <;> cases h
    · rename_i h1
      split at h
      · cases h
      · split at h
        · cases h
        · rename_i h2 h3
          split at h
          · cases h
          · rename_i h4
            split at h
            · cases h
            · rename_i h5
              refine ⟨by simpa using h0, h1, ?_, ?_, by simpa using h4, by omega⟩
              · rcases Int.lt_trichotomy c.seq (atL (clockL L) c.ar + 1) with h6 | h6 | h6
                · exact absurd (.inl (by omega)) h3
                · exact h6
                · exact absurd (.inl (by omega)) h3
              · cases h7 : underB c.deps (clockL L) with
                | true => rfl
                | false => exact absurd (.inr h7) h3

theorem ofR_put_own {L : List Ch} (g : Good L) {room : Int} {c : Ch} (h : whyR L room c = 0) (r : Int) : ofR (putC L c) r = if c.ar = r then ofR L r ++ [c] else ofR L r := by
  rw [ofR_put g.srt]
  by_cases hr : c.ar = r
  · subst hr
    rw [if_pos rfl, if_pos rfl]
    refine putC_last fun d hd => ?_
    obtain ⟨hc, _, hs, hu, hb, _⟩ := why_ok h
    obtain ⟨_, _, h2, h3, h4, _⟩ := right_of hc
    rw [clockL_at L h2 h3] at hs
    obtain ⟨hdL, hdr⟩ := ofR_mem.1 hd
    have hle := g.le hdL
    rw [hdr] at hle
    -- the last one of the replica is ahead of c
    obtain ⟨k, hk⟩ := Int.eq_ofNat_of_zero_le h2
    have e1 := deps_own hc
    rw [hk, atL_nat] at e1
    have hkl : k < c.deps.length := by
      rcases Nat.lt_or_ge k c.deps.length with h' | h'
      · exact h'
      · rw [getD_out h'] at e1; omega
    unfold behindR at hb
    simp only [Bool.and_eq_true, List.all_eq_true, List.mem_range] at hb
    have hb1 := hb.1 k hkl
    unfold depsR at hb1
    rw [show decide (c.deps.getD k 0 = 0) = false from decide_eq_false (by omega), Bool.false_or] at hb1
    cases eo : ownC L (k : Int) (c.deps.getD k 0) with
    | none => rw [eo] at hb1; cases hb1
    | some x =>
      rw [eo] at hb1
      simp only at hb1
      obtain ⟨hx, hx1, hx2⟩ := g.own_iff.1 eo
      by_cases hdx : d.seq < x.seq
      · exact ltB_no (ltB_trans (g.lt hdL hx (by omega) hdx) hb1)
      · have : d = x := g.inj hdL hx (by omega) (by omega)
        subst this
        exact ltB_no hb1
  · rw [if_neg hr, if_neg hr]

theorem good_put {L : List Ch} (g : Good L) {room : Int} {c : Ch} (h : whyR L room c = 0) : Good (putC L c) := by
  obtain ⟨hc, hg, hs, hu, hb, _⟩ := why_ok h
  obtain ⟨_, _, h2, h3, h4, _⟩ := right_of hc
  rw [clockL_at L h2 h3] at hs
  unfold behindR at hb
  simp only [Bool.and_eq_true, List.all_eq_true, List.mem_range] at hb
  refine ⟨putC_srt g.srt (getL_none.1 hg), ?_, ?_, ?_, ?_⟩
  · intro x hx
    rcases (putC_mem _ _ _).1 hx with rfl | hx
    · exact hc
    · exact g.chk x hx
  · intro r k hk
    have e := ofR_put_own g h r
    by_cases hr : c.ar = r
    · rw [if_pos hr] at e
      simp only [e] at hk ⊢
      rw [List.length_append, List.length_singleton] at hk
      by_cases hkl : k < (ofR L r).length
      · rw [List.getElem_append_left hkl]; exact g.seq r k hkl
      · have : k = (ofR L r).length := by omega
        subst this
        rw [List.getElem_append_right (Nat.le_refl _)]
        simp only [Nat.sub_self, List.getElem_singleton]
        rw [hs, hr]
        rfl
    · rw [if_neg hr] at e
      simp only [e] at hk ⊢
      exact g.seq r k hk
  · intro x hx r hr
    rcases (putC_mem _ _ _).1 hx with rfl | hx
    · have hrl : r < x.deps.length := by
        rcases Nat.lt_or_ge r x.deps.length with h' | h'
        · exact h'
        · rw [getD_out h'] at hr; omega
      have hb1 := hb.1 r hrl
      unfold depsR at hb1
      rw [show decide (x.deps.getD r 0 = 0) = false from decide_eq_false (by omega), Bool.false_or] at hb1
      cases eo : ownC L (r : Int) (x.deps.getD r 0) with
      | none => rw [eo] at hb1; cases hb1
      | some y =>
        rw [eo] at hb1
        obtain ⟨hy, hy1, hy2⟩ := g.own_iff.1 eo
        exact ⟨y, (putC_mem _ _ _).2 (.inr hy), hy1, hy2, hb1⟩
    · obtain ⟨d, hd, q⟩ := g.dep x hx r hr
      exact ⟨d, (putC_mem _ _ _).2 (.inr hd), q⟩
  · intro x hx s hs'
    rcases (putC_mem _ _ _).1 hx with rfl | hx
    · have hb2 := hb.2 s hs'
      unfold namsR at hb2
      cases eo : getL L s.1 s.2 with
      | none => rw [eo] at hb2; cases hb2
      | some y =>
        rw [eo] at hb2
        obtain ⟨hy, hy1, hy2⟩ := (getL_some g.srt).1 eo
        exact ⟨y, (putC_mem _ _ _).2 (.inr hy), hy1, hy2, by simpa [withinB] using hb2⟩
    · obtain ⟨d, hd, q⟩ := g.nam x hx s hs'
      exact ⟨d, (putC_mem _ _ _).2 (.inr hd), q⟩

end Go.Proofs.Ythndgmnckpimmaa
