/- Nodes that lie in blocks, linked as siblings: what the links are when one is taken out, or put in. -/
import Derived.Test.YtccpljllgpabnabPlainVt
namespace Go.Proofs.Ytccpljllgpabnab
set_option linter.unusedVariables false
set_option linter.unusedSimpArgs false

def updF {α : Type} (f : Nat → α) (k : Nat) (v : α) : Nat → α := fun j => if j = k then v else f j
theorem updF_same {α : Type} (f : Nat → α) (k : Nat) (v : α) : updF f k v k = v := if_pos rfl
theorem updF_ne {α : Type} (f : Nat → α) {k j : Nat} (v : α) (h : j ≠ k) : updF f k v j = f j := if_neg h

/-- A node's own fields. -/
structure Nf where
  k : St
  tg : ByteArray
  tx : ByteArray
  at_ : List At
/-- What nodes in blocks are: their fields, the value of their attributes; their kids; to whom they point. -/
structure Gr where
  o : Nat → Nf
  av : Nat → Value
  C : Nat → List Nat
  up : Nat → Option Nat
  pv : Nat → Option Nat
  nx : Nat → Option Nat
  fs : Nat → Option Nat
/-- The links are those of the kids' lists. -/
structure Lnk (X : Nat → Prop) (g : Gr) : Prop where
  fst : ∀ p, X p → g.fs p = (g.C p).head?
  spl : ∀ p l1 c l2, X p → g.C p = l1 ++ c :: l2 → g.up c = some p ∧ g.pv c = l1.getLast? ∧ g.nx c = l2.head?
  mem : ∀ p c, X p → c ∈ g.C p → X c
  nod : ∀ p, X p → (g.C p).Nodup
  out : ∀ c, X c → (∀ p, X p → c ∉ g.C p) → g.up c = none ∧ g.pv c = none ∧ g.nx c = none
def orU (f : Nat → Option Nat) (k : Option Nat) (v : Option Nat) : Nat → Option Nat := match k with | none => f | some a => updF f a v
theorem orU_ne {f : Nat → Option Nat} {k v : Option Nat} {j : Nat} (h : k ≠ some j) : orU f k v j = f j := by
  cases k with
  | none => rfl
  | some a => exact updF_ne _ _ fun e => h (by rw [e])
theorem orU_same {f : Nat → Option Nat} {k v : Option Nat} {j : Nat} (h : k = some j) : orU f k v j = v := by
  subst h
  exact updF_same _ _ _
/-- One is taken out. -/
def unl (g : Gr) (p n : Nat) : Gr :=
  { g with
    C := fun b => (g.C b).filter fun x => decide (x ≠ n)
    fs := if g.pv n = none then updF g.fs p (g.nx n) else g.fs
    nx := updF (orU g.nx (g.pv n) (g.nx n)) n none
    pv := updF (orU g.pv (g.nx n) (g.pv n)) n none
    up := updF g.up n none }
/-- A list in which one stands right behind another one (none: ahead of all). -/
def insA (a : Option Nat) (n : Nat) (l : List Nat) : List Nat :=
  match a with
  | none => n :: l
  | some x => l.flatMap fun y => if y = x then [y, n] else [y]
def nxtA (g : Gr) (p : Nat) (a : Option Nat) : Option Nat := match a with | none => g.fs p | some x => g.nx x
/-- One is put in. -/
def lnk (g : Gr) (n p : Nat) (a : Option Nat) : Gr :=
  { g with
    C := updF g.C p (insA a n (g.C p))
    up := updF g.up n (some p)
    fs := if a = none then updF g.fs p (some n) else g.fs
    nx := updF (orU g.nx a (some n)) n (nxtA g p a)
    pv := orU (updF g.pv n a) (nxtA g p a) (some n) }
theorem Lnk.upOf {X : Nat → Prop} {g : Gr} (h : Lnk X g) {p c : Nat} (hp : X p) (hc : c ∈ g.C p) : g.up c = some p := by
  obtain ⟨l1, l2, e⟩ := List.append_of_mem hc
  exact (h.spl p l1 c l2 hp e).1
theorem Lnk.one {X : Nat → Prop} {g : Gr} (h : Lnk X g) {p q c : Nat} (hp : X p) (hq : X q) (hc : c ∈ g.C p) (hc2 : c ∈ g.C q) : p = q := by
  have h1 := h.upOf hp hc
  rw [h.upOf hq hc2] at h1
  injection h1 with h1
  exact h1.symm
theorem Lnk.parent {X : Nat → Prop} {g : Gr} (h : Lnk X g) {c : Nat} (hc : X c) {p : Nat} (hu : g.up c = some p) (hX : ∀ q, X q ∨ ¬ X q) : X p ∧ c ∈ g.C p := by
  by_cases h1 : ∃ q, X q ∧ c ∈ g.C q
  · obtain ⟨q, hq, hm⟩ := h1
    have h2 := h.upOf hq hm
    rw [hu] at h2
    injection h2 with h2
    subst h2
    exact ⟨hq, hm⟩
  · have := (h.out c hc fun q hq hm => h1 ⟨q, hq, hm⟩).1
    rw [hu] at this
    cases this
theorem filter_out {n : Nat} {l : List Nat} (h : n ∉ l) : (l.filter fun x => decide (x ≠ n)) = l := List.filter_eq_self.2 fun x hx => by
  simp
  exact fun e => h (e ▸ hx)
theorem filter_mid {n : Nat} {l1 l2 : List Nat} (h : (l1 ++ n :: l2).Nodup) : ((l1 ++ n :: l2).filter fun x => decide (x ≠ n)) = l1 ++ l2 := by
  rw [List.nodup_append] at h
  obtain ⟨h1, h2, h3⟩ := h
  rw [List.nodup_cons] at h2
  rw [List.filter_append, List.filter_cons, filter_out (fun hm => h3 n hm n (List.mem_cons_self ..) rfl), filter_out h2.1]
  simp
theorem insA_mid {a : Nat} {n : Nat} {l1 l2 : List Nat} (h : (l1 ++ a :: l2).Nodup) : insA (some a) n (l1 ++ a :: l2) = l1 ++ a :: n :: l2 := by
  have key : ∀ l : List Nat, a ∉ l → (l.flatMap fun y => if y = a then [y, n] else [y]) = l := fun l => by
    induction l with
    | nil => intro _; rfl
    | cons x r ih =>
      intro hm
      rw [List.flatMap_cons, ih fun q => hm (List.mem_cons_of_mem _ q), if_neg fun (e : x = a) => hm (by rw [e]; exact List.mem_cons_self ..)]
      rfl
  rw [List.nodup_append] at h
  obtain ⟨h1, h2, h3⟩ := h
  rw [List.nodup_cons] at h2
  unfold insA
  dsimp only
  rw [List.flatMap_append, List.flatMap_cons, key l1 (fun hm => h3 a hm a (List.mem_cons_self ..) rfl), key l2 h2.1, if_pos rfl]
  simp
theorem Lnk.unl_C {X : Nat → Prop} {g : Gr} (h : Lnk X g) {p n : Nat} (hp : X p) (hn : n ∈ g.C p) {q : Nat} (hq : X q) (hne : q ≠ p) : (unl g p n).C q = g.C q := filter_out fun hm => hne (h.one hq hp hm hn)
theorem last_ne {l1 l2 : List Nat} {c x : Nat} {r : List Nat} (hd : (l1 ++ c :: (r ++ [x]) ++ l2).Nodup) : c ≠ x := by
  intro e
  subst e
  rw [List.append_assoc, List.nodup_append] at hd
  obtain ⟨_, h2, _⟩ := hd
  rw [List.cons_append, List.nodup_cons] at h2
  exact h2.1 (by simp)
theorem getLast_app {l r : List Nat} (h : r ≠ []) : (l ++ r).getLast? = r.getLast? := by
  cases r with
  | nil => exact absurd rfl h
  | cons x t => rw [List.getLast?_append, List.getLast?_cons]; rfl
theorem head_app {l r : List Nat} (h : l ≠ []) : (l ++ r).head? = l.head? := by
  cases l with
  | nil => exact absurd rfl h
  | cons x t => rfl
theorem split_two {l1 l2 m1 m2 : List Nat} {c : Nat} (h : l1 ++ l2 = m1 ++ c :: m2) : (∃ r, l1 = m1 ++ c :: r ∧ m2 = r ++ l2) ∨ ∃ r, l2 = r ++ c :: m2 ∧ m1 = l1 ++ r := by
  rcases List.append_eq_append_iff.1 h with ⟨r, e1, e2⟩ | ⟨r, e1, e2⟩
  · exact .inr ⟨r, e2, e1⟩
  · cases r with
    | nil => exact .inr ⟨[], by simpa using e2.symm, by simpa using e1.symm⟩
    | cons x r =>
      rw [List.cons_append, List.cons.injEq] at e2
      obtain ⟨rfl, e2⟩ := e2
      exact .inl ⟨r, e1, e2⟩
theorem nd_mid {l1 l2 : List Nat} {n : Nat} (h : (l1 ++ n :: l2).Nodup) : n ∉ l1 ∧ n ∉ l2 ∧ (∀ x ∈ l1, x ∉ l2) := by
  rw [List.nodup_append] at h
  obtain ⟨h1, h2, h3⟩ := h
  rw [List.nodup_cons] at h2
  exact ⟨fun hm => h3 n hm n (List.mem_cons_self ..) rfl, h2.1, fun x hx hy => h3 x hx x (List.mem_cons_of_mem _ hy) rfl⟩
theorem last_mem {l : List Nat} {a : Nat} (h : l.getLast? = some a) : a ∈ l := List.mem_of_getLast? h
theorem head_mem {l : List Nat} {a : Nat} (h : l.head? = some a) : a ∈ l := List.mem_of_head? h

/-- The links behind one that is taken out. -/
theorem Lnk.unl {X : Nat → Prop} {g : Gr} (h : Lnk X g) {p n : Nat} (hp : X p) (hn : n ∈ g.C p) : Lnk X (unl g p n) := by
  obtain ⟨l1, l2, e⟩ := List.append_of_mem hn
  obtain ⟨u1, u2, u3⟩ := h.spl p l1 n l2 hp e
  have hnd := h.nod p hp
  rw [e] at hnd
  obtain ⟨d1, d2, d3⟩ := nd_mid hnd
  have eC : (Go.Proofs.Ytccpljllgpabnab.unl g p n).C p = l1 ++ l2 := by
    show ((g.C p).filter fun x => decide (x ≠ n)) = _
    rw [e]
    exact filter_mid hnd
  have eO : ∀ q, X q → q ≠ p → (Go.Proofs.Ytccpljllgpabnab.unl g p n).C q = g.C q := fun q hq hne => h.unl_C hp hn hq hne
  have hsub : ∀ q c, c ∈ (Go.Proofs.Ytccpljllgpabnab.unl g p n).C q → c ∈ g.C q ∧ c ≠ n := fun q c hc => by
    have hc2 : c ∈ (g.C q).filter fun x => decide (x ≠ n) := hc
    rw [List.mem_filter] at hc2
    exact ⟨hc2.1, by simpa using hc2.2⟩
  have pvC : ∀ a, g.pv n = some a → a ∈ l1 := fun a ha => last_mem (u2 ▸ ha)
  have nxC : ∀ a, g.nx n = some a → a ∈ l2 := fun a ha => head_mem (u3 ▸ ha)
  have inP : ∀ a, a ∈ l1 ∨ a ∈ l2 → a ∈ g.C p := fun a ha => by
    rw [e, List.mem_append, List.mem_cons]
    exact ha.imp id .inr
  have nxE : ∀ c, c ≠ n → g.pv n ≠ some c → (Go.Proofs.Ytccpljllgpabnab.unl g p n).nx c = g.nx c := fun c h1 h2 => (updF_ne _ _ h1).trans (orU_ne h2)
  have pvE : ∀ c, c ≠ n → g.nx n ≠ some c → (Go.Proofs.Ytccpljllgpabnab.unl g p n).pv c = g.pv c := fun c h1 h2 => (updF_ne _ _ h1).trans (orU_ne h2)
  have upE : ∀ c, c ≠ n → (Go.Proofs.Ytccpljllgpabnab.unl g p n).up c = g.up c := fun c h1 => updF_ne _ _ h1
  refine ⟨fun q hq => ?_, fun q m1 c m2 hq hs => ?_, fun q c hq hc => h.mem q c hq (hsub q c hc).1, fun q hq => List.Nodup.sublist List.filter_sublist (h.nod q hq), fun c hc hno => ?_⟩
  · show (if g.pv n = none then updF g.fs p (g.nx n) else g.fs) q = _
    by_cases hqp : q = p
    · subst hqp
      rw [eC]
      cases l1 with
      | nil => rw [if_pos (by rw [u2]; rfl), updF_same, u3]; rfl
      | cons x r => rw [if_neg (by rw [u2]; simp), h.fst q hq, e]; rfl
    · rw [eO q hq hqp]
      split
      · rw [updF_ne _ _ hqp]; exact h.fst q hq
      · exact h.fst q hq
  · have hcm : c ∈ (Go.Proofs.Ytccpljllgpabnab.unl g p n).C q := by rw [hs]; simp
    obtain ⟨hcq, hcn⟩ := hsub q c hcm
    by_cases hqp : q = p
    · subst hqp
      rw [eC] at hs
      rcases split_two hs with ⟨r, e1, e2⟩ | ⟨r, e1, e2⟩
      · have e3 : g.C q = m1 ++ c :: (r ++ n :: l2) := by rw [e, e1]; simp
        obtain ⟨o1, o2, o3⟩ := h.spl q _ c _ hq e3
        have hc1 : c ∈ l1 := by rw [e1]; simp
        refine ⟨(upE c hcn).trans o1, (pvE c hcn fun hx => d3 c hc1 (nxC c hx)).trans o2, ?_⟩
        rw [e2]
        cases r with
        | nil =>
          have : g.pv n = some c := by rw [u2, e1]; simp
          show updF (orU g.nx (g.pv n) (g.nx n)) n none c = _
          rw [updF_ne _ _ hcn, orU_same this, u3]
          rfl
        | cons z r =>
          rw [nxE c hcn ?_, o3]
          · rfl
          · intro hx
            rw [u2, e1, getLast_app (by simp)] at hx
            have h9 : (z :: r).getLast? = some c := by rw [List.getLast?_cons_cons] at hx; exact hx
            have h8 := last_mem h9
            rw [e1] at hnd
            have := (nd_mid (l1 := m1) (n := c) (l2 := z :: r ++ n :: l2) (by simpa using hnd)).2.1
            exact this (List.mem_append_left _ h8)
      · have e3 : g.C q = (l1 ++ n :: r) ++ c :: m2 := by rw [e, e1]; simp
        obtain ⟨o1, o2, o3⟩ := h.spl q _ c _ hq e3
        have hc2 : c ∈ l2 := by rw [e1]; simp
        refine ⟨(upE c hcn).trans o1, ?_, (nxE c hcn fun hx => d3 c (pvC c hx) hc2).trans o3⟩
        rw [e2]
        cases r with
        | nil =>
          have : g.nx n = some c := by rw [u3, e1]; rfl
          show updF (orU g.pv (g.nx n) (g.pv n)) n none c = _
          rw [updF_ne _ _ hcn, orU_same this, u2]
          simp
        | cons z r =>
          rw [pvE c hcn ?_, o2, getLast_app (by simp), getLast_app (by simp)]
          · rfl
          · intro hx
            rw [u3, e1] at hx
            have h9 : z = c := by simpa using hx
            subst h9
            rw [e1] at hnd
            have := (nd_mid (l1 := l1 ++ [n]) (n := z) (l2 := r ++ z :: m2) (by simpa using hnd)).2.1
            exact this (by simp)
    · rw [eO q hq hqp] at hs
      obtain ⟨o1, o2, o3⟩ := h.spl q m1 c m2 hq hs
      refine ⟨(upE c hcn).trans o1, (pvE c hcn fun hx => ?_).trans o2, (nxE c hcn fun hx => ?_).trans o3⟩
      · exact hqp (h.one hq hp hcq (inP c (.inr (nxC c hx))))
      · exact hqp (h.one hq hp hcq (inP c (.inl (pvC c hx))))
  · by_cases hcn : c = n
    · subst hcn
      exact ⟨updF_same _ _ _, updF_same _ _ _, updF_same _ _ _⟩
    · have hno2 : ∀ q, X q → c ∉ g.C q := fun q hq hm => hno q hq (List.mem_filter.2 ⟨hm, by simpa using hcn⟩)
      obtain ⟨o1, o2, o3⟩ := h.out c hc hno2
      exact ⟨(upE c hcn).trans o1, (pvE c hcn fun hx => hno2 p hp (inP c (.inr (nxC c hx)))).trans o2, (nxE c hcn fun hx => hno2 p hp (inP c (.inl (pvC c hx)))).trans o3⟩
theorem nodup_insert {m1 m2 : List Nat} {n : Nat} (h : (m1 ++ m2).Nodup) (hn : n ∉ m1 ++ m2) : (m1 ++ n :: m2).Nodup := by
  rw [List.nodup_append] at h ⊢
  obtain ⟨h1, h2, h3⟩ := h
  rw [List.mem_append] at hn
  refine ⟨h1, List.nodup_cons.2 ⟨fun h => hn (.inr h), h2⟩, fun x hx y hy e => ?_⟩
  rcases List.mem_cons.1 hy with rfl | hy
  · exact hn (.inl (e ▸ hx))
  · exact h3 x hx y hy e
/-- The place at which one is put in. -/
theorem insA_split {X : Nat → Prop} {g : Gr} (h : Lnk X g) {p : Nat} (hp : X p) {a : Option Nat} (ha : ∀ x, a = some x → x ∈ g.C p) (n : Nat) : ∃ m1 m2, g.C p = m1 ++ m2 ∧ insA a n (g.C p) = m1 ++ n :: m2 ∧ a = m1.getLast? ∧ nxtA g p a = m2.head? := by
  cases a with
  | none => exact ⟨[], g.C p, rfl, rfl, rfl, h.fst p hp⟩
  | some x =>
    obtain ⟨l1, l2, e⟩ := List.append_of_mem (ha x rfl)
    refine ⟨l1 ++ [x], l2, by rw [e]; simp, ?_, by simp, (h.spl p l1 x l2 hp e).2.2⟩
    have hnd := h.nod p hp
    rw [e] at hnd ⊢
    rw [insA_mid hnd]
    simp
/-- The links behind one that is put in. -/
theorem Lnk.lnk {X : Nat → Prop} {g : Gr} (h : Lnk X g) {p n : Nat} (hp : X p) (hX : X n) (hn : ∀ q, X q → n ∉ g.C q) {a : Option Nat} (ha : ∀ x, a = some x → x ∈ g.C p) : Lnk X (lnk g n p a) := by
  obtain ⟨m1, m2, e, eI, ea, em⟩ := insA_split h hp ha n
  have eC : (Go.Proofs.Ytccpljllgpabnab.lnk g n p a).C p = m1 ++ n :: m2 := (updF_same _ _ _).trans eI
  have eO : ∀ q, q ≠ p → (Go.Proofs.Ytccpljllgpabnab.lnk g n p a).C q = g.C q := fun q hne => updF_ne _ _ hne
  have hnd := h.nod p hp
  have hnp := hn p hp
  rw [e] at hnd hnp
  have hnd2 := nodup_insert hnd hnp
  obtain ⟨d1, d2, d3⟩ := nd_mid hnd2
  have aC : ∀ x, a = some x → x ∈ m1 := fun x hx => last_mem (ea ▸ hx)
  have mC : ∀ x, nxtA g p a = some x → x ∈ m2 := fun x hx => head_mem (em ▸ hx)
  have inP : ∀ x, x ∈ m1 ∨ x ∈ m2 → x ∈ g.C p := fun x hx => by rw [e, List.mem_append]; exact hx
  have nxE : ∀ c, c ≠ n → a ≠ some c → (Go.Proofs.Ytccpljllgpabnab.lnk g n p a).nx c = g.nx c := fun c h1 h2 => (updF_ne _ _ h1).trans (orU_ne h2)
  have pvE : ∀ c, c ≠ n → nxtA g p a ≠ some c → (Go.Proofs.Ytccpljllgpabnab.lnk g n p a).pv c = g.pv c := fun c h1 h2 => (orU_ne h2).trans (updF_ne _ _ h1)
  have upE : ∀ c, c ≠ n → (Go.Proofs.Ytccpljllgpabnab.lnk g n p a).up c = g.up c := fun c h1 => updF_ne _ _ h1
  refine ⟨fun q hq => ?_, fun q k1 c k2 hq hs => ?_, fun q c hq hc => ?_, fun q hq => ?_, fun c hc hno => ?_⟩
  · show (if a = none then updF g.fs p (some n) else g.fs) q = _
    by_cases hqp : q = p
    · subst hqp
      rw [eC]
      cases m1 with
      | nil => rw [if_pos (by rw [ea]; rfl), updF_same]; rfl
      | cons x r => rw [if_neg (by rw [ea]; simp), h.fst q hq, e]; rfl
    · rw [eO q hqp]
      split
      · rw [updF_ne _ _ hqp]; exact h.fst q hq
      · exact h.fst q hq
  · by_cases hqp : q = p
    · subst hqp
      rw [eC] at hs
      rcases split_two hs with ⟨r, e1, e2⟩ | ⟨r, e1, e2⟩
      · have e3 : g.C q = k1 ++ c :: (r ++ m2) := by rw [e, e1]; simp
        obtain ⟨o1, o2, o3⟩ := h.spl q _ c _ hq e3
        have hc1 : c ∈ m1 := by rw [e1]; simp
        have hcn : c ≠ n := fun e => d1 (e ▸ hc1)
        refine ⟨(upE c hcn).trans o1, (pvE c hcn fun hx => d3 c hc1 (mC c hx)).trans o2, ?_⟩
        rw [e2]
        cases r with
        | nil =>
          have : a = some c := by rw [ea, e1]; simp
          show updF (orU g.nx a (some n)) n (nxtA g q a) c = _
          rw [updF_ne _ _ hcn, orU_same this]
          rfl
        | cons z r =>
          rw [nxE c hcn ?_, o3]
          · rfl
          · intro hx
            rw [ea, e1, getLast_app (by simp)] at hx
            have h9 : (z :: r).getLast? = some c := by rw [List.getLast?_cons_cons] at hx; exact hx
            have h8 := last_mem h9
            rw [e1] at hnd
            have := (nd_mid (l1 := k1) (n := c) (l2 := z :: r ++ m2) (by simpa using hnd)).2.1
            exact this (List.mem_append_left _ h8)
      · cases r with
        | nil =>
          rw [List.nil_append, List.cons.injEq] at e1
          obtain ⟨rfl, rfl⟩ := e1
          rw [List.append_nil] at e2
          subst e2
          refine ⟨updF_same _ _ _, ?_, (updF_same _ _ _).trans em⟩
          show orU (updF g.pv n a) (nxtA g q a) (some n) n = _
          rw [orU_ne (fun hx => d2 (mC n hx)), updF_same, ea]
        | cons z r =>
          rw [List.cons_append, List.cons.injEq] at e1
          obtain ⟨rfl, e1⟩ := e1
          have e3 : g.C q = (m1 ++ r) ++ c :: k2 := by rw [e, e1]; simp
          obtain ⟨o1, o2, o3⟩ := h.spl q _ c _ hq e3
          have hc2 : c ∈ m2 := by rw [e1]; simp
          have hcn : c ≠ n := fun e => d2 (e ▸ hc2)
          refine ⟨(upE c hcn).trans o1, ?_, (nxE c hcn fun hx => d3 c (aC c hx) hc2).trans o3⟩
          rw [e2]
          cases r with
          | nil =>
            have : nxtA g q a = some c := by rw [em, e1]; rfl
            show orU (updF g.pv n a) (nxtA g q a) (some n) c = _
            rw [orU_same this]
            simp
          | cons z r =>
            rw [pvE c hcn ?_, o2, getLast_app (by simp), getLast_app (by simp)]
            · rfl
            · intro hx
              rw [em, e1] at hx
              have h9 : z = c := by simpa using hx
              subst h9
              rw [e1] at hnd
              have := (nd_mid (l1 := m1) (n := z) (l2 := r ++ z :: k2) (by simpa using hnd)).2.1
              exact this (by simp)
    · rw [eO q hqp] at hs
      have hcq : c ∈ g.C q := by rw [hs]; simp
      have hcn : c ≠ n := fun e => hn q hq (e ▸ hcq)
      obtain ⟨o1, o2, o3⟩ := h.spl q k1 c k2 hq hs
      refine ⟨(upE c hcn).trans o1, (pvE c hcn fun hx => ?_).trans o2, (nxE c hcn fun hx => ?_).trans o3⟩
      · exact hqp (h.one hq hp hcq (inP c (.inr (mC c hx))))
      · exact hqp (h.one hq hp hcq (inP c (.inl (aC c hx))))
  · by_cases hqp : q = p
    · subst hqp
      rw [eC, List.mem_append, List.mem_cons] at hc
      rcases hc with hc | rfl | hc
      · exact h.mem q c hq (inP c (.inl hc))
      · exact hX
      · exact h.mem q c hq (inP c (.inr hc))
    · rw [eO q hqp] at hc
      exact h.mem q c hq hc
  · by_cases hqp : q = p
    · subst hqp
      rw [eC]
      exact hnd2
    · rw [eO q hqp]
      exact h.nod q hq
  · have hcn : c ≠ n := fun e => hno p hp (by rw [eC, e]; simp)
    have hno2 : ∀ q, X q → c ∉ g.C q := fun q hq hm => by
      by_cases hqp : q = p
      · subst hqp
        refine hno q hq ?_
        rw [e, List.mem_append] at hm
        rw [eC, List.mem_append, List.mem_cons]
        exact hm.imp id .inr
      · exact hno q hq (by rw [eO q hqp]; exact hm)
    obtain ⟨o1, o2, o3⟩ := h.out c hc hno2
    exact ⟨(upE c hcn).trans o1, (pvE c hcn fun hx => hno2 p hp (inP c (.inr (mC c hx)))).trans o2, (nxE c hcn fun hx => hno2 p hp (inP c (.inl (aC c hx)))).trans o3⟩
end Go.Proofs.Ytccpljllgpabnab
