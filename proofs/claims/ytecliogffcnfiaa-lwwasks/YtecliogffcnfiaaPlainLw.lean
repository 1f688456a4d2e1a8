/- Registers as data: which one wins, their order, one that is put in; what won of all that was put. -/
import Derived.Test.YtecliogffcnfiaaPlainSt
import Derived.Test.YtecliogffcnfiaaPlainNm
namespace Go.Proofs.Ytecliogffcnfiaa
set_option linter.unusedVariables false
set_option linter.unusedSimpArgs false

/-- A text's bytes. -/
def txL (b : ByteArray) : List UInt8 := b.data.toList
theorem tx_ext {a b : ByteArray} (h : txL a = txL b) : a = b := by
  obtain ⟨⟨a⟩⟩ := a
  obtain ⟨⟨b⟩⟩ := b
  simp only [txL] at h
  rw [h]
def ltT (a b : ByteArray) : Bool := decide (txL a < txL b)
theorem ltT_irr (a : ByteArray) : ltT a a = false := by unfold ltT; simp
theorem ltT_trans {a b c : ByteArray} (h : ltT a b = true) (h2 : ltT b c = true) : ltT a c = true := by
  unfold ltT at *
  rw [decide_eq_true_eq] at *
  exact List.lt_trans h h2
theorem ltT_or {a b : ByteArray} (h : a ≠ b) : ltT a b = true ∨ ltT b a = true := by
  unfold ltT
  rw [decide_eq_true_eq, decide_eq_true_eq]
  by_cases h1 : txL a < txL b
  · exact .inl h1
  · by_cases h2 : txL b < txL a
    · exact .inr h2
    · exact absurd (tx_ext (List.le_antisymm (by exact h2) (by exact h1))) h
theorem ltT_asym {a b : ByteArray} (h : ltT a b = true) : ltT b a = false := by
  cases h2 : ltT b a with
  | false => rfl
  | true => have := ltT_trans h h2; rw [ltT_irr] at this; cases this

/-- What a register has. -/
structure Rg where
  nd : St
  nm : ByteArray
  at_ : St
  vl : ByteArray
  gn : Bool
deriving DecidableEq
/-- Whose register. -/
abbrev Ky := St × ByteArray
def keyR (r : Rg) : Ky := (r.nd, r.nm)
def ltK (a b : Ky) : Bool := ltS a.1 b.1 || (decide (a.1 = b.1) && ltT a.2 b.2)
theorem ltK_iff (a b : Ky) : ltK a b = true ↔ ltS a.1 b.1 = true ∨ a.1 = b.1 ∧ ltT a.2 b.2 = true := by unfold ltK; simp
theorem ltK_irr (a : Ky) : ltK a a = false := by unfold ltK; simp [ltS_irr, ltT_irr]
theorem ltK_trans {a b c : Ky} (h : ltK a b = true) (h2 : ltK b c = true) : ltK a c = true := by
  rw [ltK_iff] at *
  rcases h with h | ⟨e, h⟩ <;> rcases h2 with h2 | ⟨e2, h2⟩
  · exact .inl (ltS_trans h h2)
  · exact .inl (e2 ▸ h)
  · exact .inl (e ▸ h2)
  · exact .inr ⟨e.trans e2, ltT_trans h h2⟩
theorem ltK_or {a b : Ky} (h : a ≠ b) : ltK a b = true ∨ ltK b a = true := by
  rw [ltK_iff, ltK_iff]
  by_cases e : a.1 = b.1
  · have : a.2 ≠ b.2 := fun e2 => h (Prod.ext e e2)
    rcases ltT_or this with h1 | h1
    · exact .inl (.inr ⟨e, h1⟩)
    · exact .inr (.inr ⟨e.symm, h1⟩)
  · rcases ltS_or e with h1 | h1
    · exact .inl (.inl h1)
    · exact .inr (.inl h1)
theorem ltK_asym {a b : Ky} (h : ltK a b = true) : ltK b a = false := by
  cases h2 : ltK b a with
  | false => rfl
  | true => have := ltK_trans h h2; rw [ltK_irr] at this; cases this
theorem ltK_ne {a b : Ky} (h : ltK a b = true) : a ≠ b := fun e => by rw [e, ltK_irr] at h; cases h

/-- Does one win over another one? -/
def winB (a b : Rg) : Bool := if a.at_ = b.at_ then (if a.gn = true then false else b.gn || ltT b.vl a.vl) else ltS b.at_ a.at_
def ownerB (s : St) : Bool := decide (s = (0, 0)) || rightB s.1 s.2
/-- Is it right, or why not. -/
def chkR (r : Rg) : Int :=
  if (ownerB r.nd && rightB r.at_.1 r.at_.2) = false then 2
  else if (decide (r.nm.size ≠ 0) && !nameL r.nm.data.toList) = true then 8
  else if 256 < r.vl.size then 3
  else if (r.gn && decide (r.vl.size ≠ 0)) = true then 2 else 0
def okR (r : Rg) : Bool := decide (chkR r = 0)
theorem okR_gone {r : Rg} (h : okR r = true) (hg : r.gn = true) : r.vl.size = 0 := by
  unfold okR chkR at h
  simp only [decide_eq_true_eq] at h
  split at h
  · cases h
  · split at h
    · cases h
    · split at h
      · cases h
      · rw [hg] at h
        by_cases e : r.vl.size = 0
        · exact e
        · simp [e] at h
theorem winB_irr (a : Rg) : winB a a = false := by
  unfold winB
  rw [if_pos rfl]
  by_cases h : a.gn = true
  · rw [if_pos h]
  · simp [h, ltT_irr]
theorem winB_trans {a b c : Rg} (h : winB a b = true) (h2 : winB b c = true) : winB a c = true := by
  unfold winB at *
  by_cases e1 : a.at_ = b.at_
  · rw [if_pos e1] at h
    by_cases e2 : b.at_ = c.at_
    · rw [if_pos e2] at h2
      rw [if_pos (e1.trans e2)]
      cases ha : a.gn <;> cases hb : b.gn <;> cases hc : c.gn <;> simp_all
      exact ltT_trans h2 h
    · rw [if_neg e2] at h2
      rw [if_neg (fun e => e2 (e1 ▸ e)), e1]
      exact h2
  · rw [if_neg e1] at h
    by_cases e2 : b.at_ = c.at_
    · rw [if_neg (fun e => e1 (e.trans e2.symm)), ← e2]
      exact h
    · rw [if_neg e2] at h2
      have := ltS_trans h2 h
      rw [if_neg (fun e => by rw [e] at this; rw [ltS_irr] at this; cases this)]
      exact this
theorem winB_asym {a b : Rg} (h : winB a b = true) : winB b a = false := by
  cases h2 : winB b a with
  | false => rfl
  | true => have := winB_trans h h2; rw [winB_irr] at this; cases this
theorem size_zero {a b : ByteArray} (h : a.size = 0) (h2 : b.size = 0) : a = b := by
  refine tx_ext ?_
  have e1 : txL a = [] := List.eq_nil_of_length_eq_zero (show a.data.toList.length = 0 by rw [Array.length_toList]; exact h)
  have e2 : txL b = [] := List.eq_nil_of_length_eq_zero (show b.data.toList.length = 0 by rw [Array.length_toList]; exact h2)
  rw [e1, e2]
/-- Of two right ones of one register neither of which wins: they are the same. -/
theorem winB_same {a b : Rg} (ha : okR a = true) (hb : okR b = true) (hk : keyR a = keyR b) (h1 : winB a b = false) (h2 : winB b a = false) : a = b := by
  have e1 : a.nd = b.nd := congrArg Prod.fst hk
  have e2 : a.nm = b.nm := congrArg Prod.snd hk
  unfold winB at h1 h2
  by_cases e : a.at_ = b.at_
  · rw [if_pos e] at h1
    rw [if_pos e.symm] at h2
    have hv : a.vl = b.vl ∧ a.gn = b.gn := by
      cases hga : a.gn <;> cases hgb : b.gn
      · simp [hga, hgb] at h1 h2
        refine ⟨?_, rfl⟩
        by_cases ev : a.vl = b.vl
        · exact ev
        · rcases ltT_or ev with h | h
          · rw [h2] at h; cases h
          · rw [h1] at h; cases h
      · simp [hga, hgb] at h1
      · simp [hga, hgb] at h2
      · exact ⟨size_zero (okR_gone ha hga) (okR_gone hb hgb), rfl⟩
    obtain ⟨an, am, aa, av, ag⟩ := a
    obtain ⟨bn, bm, ba, bv, bg⟩ := b
    simp only at e e1 e2 hv
    rw [e, e1, e2, hv.1, hv.2]
  · rw [if_neg e] at h1
    rw [if_neg (fun h => e h.symm)] at h2
    rcases ltS_or e with h | h
    · rw [h2] at h; cases h
    · rw [h1] at h; cases h

/-- In the order of registers. -/
def SrtR (R : List Rg) : Prop := R.Pairwise fun x y => ltK (keyR x) (keyR y) = true
theorem SrtR.uniq {R : List Rg} (h : SrtR R) {x y : Rg} (hx : x ∈ R) (hy : y ∈ R) (e : keyR x = keyR y) : x = y := by
  obtain ⟨i, hi, rfl⟩ := List.mem_iff_getElem.1 hx
  obtain ⟨j, hj, rfl⟩ := List.mem_iff_getElem.1 hy
  rcases Nat.lt_trichotomy i j with h1 | h1 | h1
  · exact absurd e (ltK_ne (List.pairwise_iff_getElem.1 h i j hi hj h1))
  · subst h1; rfl
  · exact absurd e.symm (ltK_ne (List.pairwise_iff_getElem.1 h j i hj hi h1))
theorem SrtR.ext {R Q : List Rg} (h : SrtR R) (h2 : SrtR Q) (he : ∀ x, x ∈ R ↔ x ∈ Q) : R = Q := by
  induction R generalizing Q with
  | nil =>
    cases Q with
    | nil => rfl
    | cons y Q => have := (he y).2 (by simp); cases this
  | cons x R ih =>
    cases Q with
    | nil => have := (he x).1 (by simp); cases this
    | cons y Q =>
      have h1 := List.pairwise_cons.1 h
      have h3 := List.pairwise_cons.1 h2
      have exy : x = y := by
        rcases List.mem_cons.1 ((he x).1 (by simp)) with e | e
        · exact e
        · rcases List.mem_cons.1 ((he y).2 (by simp)) with e2 | e2
          · exact e2.symm
          · have q1 := h1.1 y e2
            have q2 := h3.1 x e
            rw [ltK_asym q1] at q2
            cases q2
      subst exy
      rw [ih h1.2 h3.2 fun z => ?_]
      constructor
      · intro hz
        rcases List.mem_cons.1 ((he z).1 (List.mem_cons_of_mem _ hz)) with e | e
        · subst e; exact absurd rfl (ltK_ne (h1.1 z hz))
        · exact e
      · intro hz
        rcases List.mem_cons.1 ((he z).2 (List.mem_cons_of_mem _ hz)) with e | e
        · subst e; exact absurd rfl (ltK_ne (h3.1 z hz))
        · exact e
/-- One is put in. -/
def insR : List Rg → Rg → List Rg
  | [], r => [r]
  | x :: t, r => if keyR x = keyR r then (if winB r x = true then r :: t else x :: t) else if ltK (keyR r) (keyR x) = true then r :: x :: t else x :: insR t r
def putC (R : List Rg) (r : Rg) : List Rg := if okR r = true then insR R r else R
theorem insR_mem {R : List Rg} {r y : Rg} (h : y ∈ insR R r) : y ∈ R ∨ y = r := by
  induction R with
  | nil => simp [insR] at h; exact .inr h
  | cons x t ih =>
    unfold insR at h
    split at h
    · split at h
      · rcases List.mem_cons.1 h with e | e
        · exact .inr e
        · exact .inl (List.mem_cons_of_mem _ e)
      · exact .inl h
    · split at h
      · rcases List.mem_cons.1 h with e | e
        · exact .inr e
        · exact .inl e
      · rcases List.mem_cons.1 h with e | e
        · exact .inl (e ▸ List.mem_cons_self)
        · rcases ih e with e | e
          · exact .inl (List.mem_cons_of_mem _ e)
          · exact .inr e
theorem insR_key {R : List Rg} {r y : Rg} (h : y ∈ insR R r) : keyR y = keyR r ∨ y ∈ R := (insR_mem h).elim .inr (fun e => .inl (by rw [e]))
theorem insR_srt {R : List Rg} (h : SrtR R) (r : Rg) : SrtR (insR R r) := by
  induction R with
  | nil => exact List.pairwise_singleton _ _
  | cons x t ih =>
    have h1 := List.pairwise_cons.1 h
    unfold insR
    split
    · rename_i e
      split
      · exact List.pairwise_cons.2 ⟨fun z hz => by rw [← e]; exact h1.1 z hz, h1.2⟩
      · exact h
    · rename_i e
      split
      · rename_i l
        exact List.pairwise_cons.2 ⟨fun z hz => by
          rcases List.mem_cons.1 hz with rfl | hz
          · exact l
          · exact ltK_trans l (h1.1 z hz), h⟩
      · rename_i l
        refine List.pairwise_cons.2 ⟨fun z hz => ?_, ih h1.2⟩
        rcases insR_mem hz with hz | rfl
        · exact h1.1 z hz
        · exact (ltK_or e).resolve_right l
theorem insR_other {R : List Rg} {r m : Rg} (h : m ∈ R) (hk : keyR m ≠ keyR r) : m ∈ insR R r := by
  induction R with
  | nil => cases h
  | cons x t ih =>
    unfold insR
    rcases List.mem_cons.1 h with rfl | h
    · rw [if_neg hk]
      split
      · exact List.mem_cons_of_mem _ List.mem_cons_self
      · exact List.mem_cons_self
    · split
      · split
        · exact List.mem_cons_of_mem _ h
        · exact List.mem_cons_of_mem _ h
      · split
        · exact List.mem_cons_of_mem _ (List.mem_cons_of_mem _ h)
        · exact List.mem_cons_of_mem _ (ih h)
theorem insR_there {R : List Rg} (hs : SrtR R) {r m : Rg} (h : m ∈ R) (hk : keyR m = keyR r) : (if winB r m = true then r else m) ∈ insR R r := by
  induction R with
  | nil => cases h
  | cons x t ih =>
    have h1 := List.pairwise_cons.1 hs
    unfold insR
    rcases List.mem_cons.1 h with rfl | h
    · rw [if_pos hk]
      split <;> exact List.mem_cons_self
    · have hx := h1.1 m h
      rw [if_neg (fun e => ltK_ne hx (e.trans hk.symm)), if_neg (fun e => by rw [← hk, ltK_asym hx] at e; cases e)]
      exact List.mem_cons_of_mem _ (ih h1.2 h)
theorem insR_new {R : List Rg} {r : Rg} (h : ∀ m ∈ R, keyR m ≠ keyR r) : r ∈ insR R r := by
  induction R with
  | nil => simp [insR]
  | cons x t ih =>
    unfold insR
    rw [if_neg (h x List.mem_cons_self)]
    split
    · exact List.mem_cons_self
    · exact List.mem_cons_of_mem _ (ih fun m hm => h m (List.mem_cons_of_mem _ hm))
theorem insR_length (R : List Rg) (r : Rg) : (insR R r).length ≤ R.length + 1 := by
  induction R with
  | nil => simp [insR]
  | cons x t ih =>
    unfold insR
    split
    · split <;> simp
    · split
      · simp
      · simp; omega
theorem putC_length (R : List Rg) (r : Rg) : (putC R r).length ≤ R.length + 1 := by
  unfold putC
  split
  · exact insR_length R r
  · omega
theorem putC_srt {R : List Rg} (h : SrtR R) (r : Rg) : SrtR (putC R r) := by
  unfold putC
  split
  · exact insR_srt h r
  · exact h

/-- What won of all that was put. -/
structure BestL (S R : List Rg) : Prop where
  srt : SrtR R
  mem : ∀ r ∈ R, r ∈ S ∧ okR r = true
  best : ∀ s ∈ S, okR s = true → ∃ m ∈ R, keyR m = keyR s ∧ winB s m = false
theorem BestL.nil : BestL [] [] where
  srt := List.Pairwise.nil
  mem := fun r h => absurd h (by simp)
  best := fun r h => absurd h (by simp)
theorem BestL.put {S R : List Rg} (h : BestL S R) (r : Rg) : BestL (r :: S) (putC R r) := by
  unfold putC
  split
  · rename_i ho
    refine ⟨insR_srt h.srt r, fun y hy => ?_, fun s hs hok => ?_⟩
    · rcases insR_mem hy with e | e
      · exact ⟨List.mem_cons_of_mem _ (h.mem y e).1, (h.mem y e).2⟩
      · subst e; exact ⟨List.mem_cons_self, ho⟩
    · rcases List.mem_cons.1 hs with rfl | hs
      · by_cases hm : ∃ m ∈ R, keyR m = keyR s
        · obtain ⟨m, hm, hk⟩ := hm
          refine ⟨_, insR_there h.srt hm hk, ?_, ?_⟩
          · split
            · rfl
            · exact hk
          · split
            · exact winB_irr _
            · rename_i hw; simpa using hw
        · exact ⟨s, insR_new fun m hm2 e => hm ⟨m, hm2, e⟩, rfl, winB_irr _⟩
      · obtain ⟨m, hm, hk, hw⟩ := h.best s hs hok
        by_cases e : keyR m = keyR r
        · refine ⟨_, insR_there h.srt hm e, ?_, ?_⟩
          · split
            · rw [← hk, e]
            · exact hk
          · split
            · rename_i h2
              cases h3 : winB s r with
              | false => rfl
              | true => rw [winB_trans h3 h2] at hw; cases hw
            · exact hw
        · exact ⟨m, insR_other hm e, hk, hw⟩
  · rename_i ho
    refine ⟨h.srt, fun y hy => ⟨List.mem_cons_of_mem _ (h.mem y hy).1, (h.mem y hy).2⟩, fun s hs hok => ?_⟩
    rcases List.mem_cons.1 hs with rfl | hs
    · exact absurd hok ho
    · exact h.best s hs hok
theorem BestL.set {S S' R : List Rg} (h : BestL S R) (he : ∀ x, x ∈ S ↔ x ∈ S') : BestL S' R := ⟨h.srt, fun r hr => ⟨(he r).1 (h.mem r hr).1, (h.mem r hr).2⟩, fun s hs => h.best s ((he s).2 hs)⟩
theorem BestL.sub {S R Q : List Rg} (h : BestL S R) (h2 : BestL S Q) : ∀ x ∈ R, x ∈ Q := fun r hr => by
  obtain ⟨a1, a2⟩ := h.mem r hr
  obtain ⟨m, hm, hk, hw⟩ := h2.best r a1 a2
  obtain ⟨b1, b2⟩ := h2.mem m hm
  obtain ⟨q, hq, hk2, hw2⟩ := h.best m b1 b2
  have e := h.srt.uniq hq hr (hk2.trans hk)
  subst e
  rw [winB_same a2 b2 hk.symm hw hw2]
  exact hm
theorem BestL.uniq {S R Q : List Rg} (h : BestL S R) (h2 : BestL S Q) : R = Q := h.srt.ext h2.srt fun x => ⟨h.sub h2 x, h2.sub h x⟩
/-- Registers merged. -/
def mergeR (R Q : List Rg) : List Rg := Q.foldl putC R
theorem BestL.puts {S R : List Rg} (h : BestL S R) (Q : List Rg) : BestL (Q.reverse ++ S) (mergeR R Q) := by
  induction Q generalizing S R with
  | nil => exact h
  | cons x Q ih =>
    have := ih (h.put x)
    simpa [mergeR] using this
theorem BestL.merge {S T R Q : List Rg} (h : BestL S R) (h2 : BestL T Q) : BestL (S ++ T) (mergeR R Q) := by
  have h3 := h.puts Q
  refine ⟨h3.srt, fun r hr => ?_, fun s hs hok => ?_⟩
  · obtain ⟨a1, a2⟩ := h3.mem r hr
    refine ⟨?_, a2⟩
    rcases List.mem_append.1 a1 with e | e
    · exact List.mem_append.2 (.inr (h2.mem r (List.mem_reverse.1 e)).1)
    · exact List.mem_append.2 (.inl e)
  · rcases List.mem_append.1 hs with e | e
    · exact h3.best s (List.mem_append.2 (.inr e)) hok
    · obtain ⟨m, hm, hk, hw⟩ := h2.best s e hok
      obtain ⟨q, hq, hk2, hw2⟩ := h3.best m (List.mem_append.2 (.inl (List.mem_reverse.2 hm))) (h2.mem m hm).2
      refine ⟨q, hq, hk2.trans hk, ?_⟩
      cases h4 : winB s q with
      | false => rfl
      | true =>
        cases h5 : winB m s with
        | true => rw [winB_trans h5 h4] at hw2; cases hw2
        | false =>
          have := winB_same hok (h2.mem m hm).2 hk.symm hw h5
          rw [this, hw2] at h4
          cases h4
theorem mergeR_length (R Q : List Rg) : (mergeR R Q).length ≤ R.length + Q.length := by
  induction Q generalizing R with
  | nil => simp [mergeR]
  | cons x Q ih =>
    have h1 := ih (putC R x)
    have h2 := putC_length R x
    simp only [mergeR, List.foldl_cons, List.length_cons] at *
    omega
/-- All that is put, one behind the other. -/
def laidT (l : List Rg) : List Rg := l.foldl putC []
theorem laidT_best (l : List Rg) : BestL l (laidT l) := by
  have := BestL.nil.puts l
  exact this.set fun x => by simp
theorem laidT_next (l : List Rg) (i : Nat) (h : i < l.length) : laidT (l.take (i + 1)) = putC (laidT (l.take i)) l[i] := by
  unfold laidT
  rw [List.take_succ_eq_append_getElem h, List.foldl_append]
  rfl
theorem laidT_len (l : List Rg) : (laidT l).length ≤ l.length := by
  have := mergeR_length [] l
  simpa [mergeR, laidT] using this
def laidL (l : List Rg) : List Rg := laidT (l.take 200)
theorem laidL_len (l : List Rg) : (laidL l).length ≤ 200 := by
  have := laidT_len (l.take 200)
  unfold laidL
  simp at this
  omega

/-- What a register has. -/
def getR (R : List Rg) (k : Ky) : Option Rg := R.find? fun r => decide (keyR r = k)
theorem getR_some {R : List Rg} {k : Ky} {r : Rg} (h : getR R k = some r) : r ∈ R ∧ keyR r = k := ⟨List.mem_of_find?_eq_some h, by simpa using List.find?_some h⟩
theorem getR_none {R : List Rg} {k : Ky} (h : getR R k = none) : ∀ r ∈ R, keyR r ≠ k := fun r hr => by simpa using List.find?_eq_none.1 h r hr
theorem getR_mem {R : List Rg} (hs : SrtR R) {r : Rg} (h : r ∈ R) : getR R (keyR r) = some r := by
  cases e : getR R (keyR r) with
  | none => exact absurd rfl (getR_none e r h)
  | some m => rw [hs.uniq (getR_some e).1 h (getR_some e).2]
/-- What the document's Put does, step by step. -/
def stepP (r : Rg) (p : List Rg × Bool) (x : Rg) : List Rg × Bool :=
  if keyR x = keyR r then (if winB r x = true then (p.1 ++ [r], true) else (p.1 ++ [x], true))
  else if (!p.2 && ltK (keyR r) (keyR x)) = true then (p.1 ++ [r] ++ [x], true) else (p.1 ++ [x], p.2)
def putTo (r : Rg) (R : List Rg) : List Rg × Bool := R.foldl (stepP r) ([], false)
theorem putTo_next (r : Rg) (R : List Rg) (k : Nat) (h : k < R.length) : putTo r (R.take (k + 1)) = stepP r (putTo r (R.take k)) R[k] := by
  unfold putTo
  rw [List.take_succ_eq_append_getElem h, List.foldl_append]
  rfl
theorem step_done (r : Rg) : ∀ (R out : List Rg), (∀ x ∈ R, keyR x ≠ keyR r) → R.foldl (stepP r) (out, true) = (out ++ R, true)
  | [], out, _ => by simp
  | x :: R, out, h => by
    rw [List.foldl_cons]
    have : stepP r (out, true) x = (out ++ [x], true) := by
      unfold stepP
      rw [if_neg (h x List.mem_cons_self)]
      simp
    rw [this, step_done r R (out ++ [x]) fun y hy => h y (List.mem_cons_of_mem _ hy)]
    simp
theorem step_ins (r : Rg) : ∀ (R out : List Rg), SrtR R → (if (R.foldl (stepP r) (out, false)).2 = true then (R.foldl (stepP r) (out, false)).1 else (R.foldl (stepP r) (out, false)).1 ++ [r]) = out ++ insR R r
  | [], out, _ => by simp [insR]
  | x :: R, out, h => by
    have h1 := List.pairwise_cons.1 h
    rw [List.foldl_cons]
    by_cases e : keyR x = keyR r
    · have hn : ∀ y ∈ R, keyR y ≠ keyR r := fun y hy e2 => ltK_ne (h1.1 y hy) (e.trans e2.symm)
      by_cases hw : winB r x = true
      · have : stepP r (out, false) x = (out ++ [r], true) := by unfold stepP; rw [if_pos e, if_pos hw]
        rw [this, step_done r R _ hn]
        simp [insR, e, hw]
      · have : stepP r (out, false) x = (out ++ [x], true) := by unfold stepP; rw [if_pos e, if_neg hw]
        rw [this, step_done r R _ hn]
        simp [insR, e, hw]
    · by_cases hl : ltK (keyR r) (keyR x) = true
      · have hn : ∀ y ∈ R, keyR y ≠ keyR r := fun y hy e2 => ltK_ne (ltK_trans hl (h1.1 y hy)) e2.symm
        have : stepP r (out, false) x = (out ++ [r] ++ [x], true) := by unfold stepP; rw [if_neg e, if_pos (by simp [hl])]
        rw [this, step_done r R _ hn]
        simp [insR, e, hl]
      · have : stepP r (out, false) x = (out ++ [x], false) := by unfold stepP; rw [if_neg e, if_neg (by simp [hl])]
        rw [this, step_ins r R (out ++ [x]) h1.2]
        simp [insR, e, hl]
theorem putTo_ins {R : List Rg} (h : SrtR R) (r : Rg) : (if (putTo r R).2 = true then (putTo r R).1 else (putTo r R).1 ++ [r]) = insR R r := by
  have := step_ins r R [] h
  rw [List.nil_append] at this
  exact this
theorem putTo_length (r : Rg) (R : List Rg) : ∀ k, k ≤ R.length → (putTo r (R.take k)).1.length ≤ 2 * k
  | 0, _ => by simp [putTo]
  | k + 1, h => by
    have ih := putTo_length r R k (by omega)
    rw [putTo_next r R k (by omega)]
    unfold stepP
    split
    · split <;> simp <;> omega
    · split <;> simp <;> omega

/-- A node's registers. -/
def ofR (R : List Rg) (s : St) : List Rg := R.filter fun r => decide (r.nd = s)
theorem mem_of {R : List Rg} {s : St} {r : Rg} : r ∈ ofR R s ↔ r ∈ R ∧ r.nd = s := by unfold ofR; simp
def zeroR : Rg := ⟨(0, 0), ⟨#[]⟩, (0, 0), ⟨#[]⟩, false⟩
def atR (R : List Rg) (k : Ky) : Rg := (getR R k).getD zeroR
theorem atR_mem {R : List Rg} (hs : SrtR R) {r : Rg} (h : r ∈ R) : atR R (keyR r) = r := by unfold atR; rw [getR_mem hs h]; rfl
/-- A node's registers by its names, rising. -/
theorem of_names {R : List Rg} (hs : SrtR R) (s : St) (M : List ByteArray) (hM : M.Pairwise fun a b => ltT a b = true) (hm : ∀ n, n ∈ M ↔ ∃ r ∈ R, r.nd = s ∧ r.nm = n) : M.map (fun n => atR R (s, n)) = ofR R s := by
  have hat : ∀ n ∈ M, ∃ r ∈ R, r.nd = s ∧ r.nm = n ∧ atR R (s, n) = r := fun n hn => by
    obtain ⟨r, hr, e1, e2⟩ := (hm n).1 hn
    refine ⟨r, hr, e1, e2, ?_⟩
    rw [← e1, ← e2]
    exact atR_mem hs hr
  refine SrtR.ext ?_ (hs.filter _) fun x => ?_
  · unfold SrtR
    rw [List.pairwise_map]
    refine List.Pairwise.imp_of_mem ?_ hM
    intro a b ha hb hl
    obtain ⟨r, hr, e1, e2, e3⟩ := hat a ha
    obtain ⟨q, hq, f1, f2, f3⟩ := hat b hb
    rw [e3, f3, ltK_iff]
    exact .inr ⟨e1.trans f1.symm, by show ltT r.nm q.nm = true; rw [e2, f2]; exact hl⟩
  · rw [List.mem_map, mem_of]
    constructor
    · rintro ⟨n, hn, rfl⟩
      obtain ⟨r, hr, e1, e2, e3⟩ := hat n hn
      rw [e3]
      exact ⟨hr, e1⟩
    · rintro ⟨hx, e⟩
      refine ⟨x.nm, (hm _).2 ⟨x, hx, e, rfl⟩, ?_⟩
      rw [← e]
      exact atR_mem hs hx
/-- All registers by their nodes, rising. -/
theorem all_nodes {R : List Rg} (hs : SrtR R) (N : List St) (hN : N.Pairwise fun a b => ltS a b = true) (hn : ∀ s, s ∈ N ↔ ∃ r ∈ R, r.nd = s) : N.flatMap (ofR R) = R := by
  refine SrtR.ext ?_ hs fun x => ?_
  · unfold SrtR
    rw [List.pairwise_flatMap]
    refine ⟨fun s _ => hs.filter _, ?_⟩
    refine List.Pairwise.imp ?_ hN
    intro a b hl x hx y hy
    rw [ltK_iff]
    left
    show ltS x.nd y.nd = true
    rw [(mem_of.1 hx).2, (mem_of.1 hy).2]
    exact hl
  · rw [List.mem_flatMap]
    constructor
    · rintro ⟨s, _, hx⟩
      exact (mem_of.1 hx).1
    · intro hx
      exact ⟨x.nd, (hn _).2 ⟨x, hx, rfl⟩, mem_of.2 ⟨hx, rfl⟩⟩
theorem of_length (R : List Rg) (s : St) : (ofR R s).length ≤ R.length := by unfold ofR; exact List.length_filter_le _ _
end Go.Proofs.Ytecliogffcnfiaa
