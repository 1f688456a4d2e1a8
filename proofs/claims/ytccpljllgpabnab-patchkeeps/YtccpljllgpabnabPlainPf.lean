/- A node's parent; what the steps of a patch do to a tree, and to those that are held: plainly. -/
import Derived.Test.YtccpljllgpabnabPlainPe
namespace Go.Proofs.Ytccpljllgpabnab
set_option linter.unusedVariables false
set_option linter.unusedSimpArgs false

mutual
/-- The key of the node of which one is a kid. -/
def parV (k : St) : VT → Option St
  | .node q _ _ _ ks => if k ∈ ks.map VT.k then some q else parL k ks
def parL (k : St) : List VT → Option St
  | [] => none
  | t :: r => (parV k t).or (parL k r)
end
theorem parV_eq (k : St) (t : VT) : parV k t = if k ∈ t.ks.map VT.k then some t.k else parL k t.ks := by cases t; rfl
theorem keysL_kid {k : St} {l : List VT} (h : k ∈ l.map VT.k) : k ∈ keysL l := by
  obtain ⟨t, ht, rfl⟩ := List.mem_map.1 h
  exact keysL_root ht
mutual
theorem fndV_sub (q : St) : ∀ (t u : VT), fndV q t = some u → (∀ x ∈ keysV u, x ∈ keysV t) ∧ ∀ x ∈ keysL u.ks, x ∈ keysL t.ks
  | .node q0 tg tx a ks, u, h => by
    rw [fndV] at h
    by_cases e : q0 = q
    · rw [if_pos e] at h
      injection h with h
      subst h
      exact ⟨fun _ h => h, fun _ h => h⟩
    · rw [if_neg e] at h
      have h2 := fndL_sub q ks u h
      exact ⟨fun x hx => by rw [keysV]; exact List.mem_cons_of_mem _ (h2 x hx), fun x hx => h2 x (by rw [keysV_eq]; exact List.mem_cons_of_mem _ hx)⟩
theorem fndL_sub (q : St) : ∀ (l : List VT) (u : VT), fndL q l = some u → ∀ x ∈ keysV u, x ∈ keysL l
  | [], u, h => by cases h
  | t :: r, u, h => by
    rw [fndL, Option.or_eq_some_iff] at h
    intro x hx
    rw [keysL, List.mem_append]
    rcases h with h | ⟨_, h⟩
    · exact .inl ((fndV_sub q t u h).1 x hx)
    · exact .inr (fndL_sub q r u h x hx)
end
theorem fndL_under {q k : St} : ∀ {l : List VT} {u : VT}, (keysL l).Nodup → fndL q l = some u → k ∈ keysL u.ks → k ∉ l.map VT.k
  | [], u, _, h, _ => by cases h
  | t :: r, u, hn, h, hk => by
    rw [keysL] at hn
    have h1 := (List.nodup_append.1 hn).1
    rw [keysV_eq, List.nodup_cons] at h1
    rw [fndL, Option.or_eq_some_iff] at h
    rw [List.map_cons, List.mem_cons]
    rcases h with h | ⟨_, h⟩
    · have h2 := (fndV_sub q t u h).2 k hk
      have h3 : k ∈ keysV t := by rw [keysV_eq]; exact List.mem_cons_of_mem _ h2
      rintro (e | e)
      · exact h1.1 (e ▸ h2)
      · exact nodup_apart hn h3 (keysL_kid e)
    · have h2 := fndL_sub q r u h k (by rw [keysV_eq]; exact List.mem_cons_of_mem _ hk)
      rintro (e | e)
      · exact nodup_apart hn (by rw [e, keysV_eq]; exact List.mem_cons_self ..) h2
      · exact fndL_under (List.nodup_append.1 hn).2.1 h hk e
mutual
theorem parV_none (k : St) : ∀ t : VT, k ∉ keysL t.ks → parV k t = none
  | .node q tg tx a ks, h => by
    replace h : k ∉ keysL ks := h
    rw [parV, if_neg fun e => h (keysL_kid e)]
    exact parL_none k ks h
theorem parL_none (k : St) : ∀ l : List VT, k ∉ keysL l → parL k l = none
  | [], _ => rfl
  | t :: r, h => by
    rw [keysL, List.mem_append] at h
    rw [parL, parV_none k t fun e => h (.inl (by rw [keysV_eq]; exact List.mem_cons_of_mem _ e)), parL_none k r fun e => h (.inr e)]
    rfl
end
mutual
theorem parV_of (k q : St) : ∀ (t u : VT), (keysV t).Nodup → fndV q t = some u → k ∈ u.ks.map VT.k → parV k t = some q
  | .node q0 tg tx a ks, u, hn, hf, hk => by
    rw [keysV, List.nodup_cons] at hn
    rw [fndV] at hf
    rw [parV]
    by_cases e : q0 = q
    · rw [if_pos e] at hf
      injection hf with hf
      subst hf
      replace hk : k ∈ ks.map VT.k := hk
      rw [if_pos hk, e]
    · rw [if_neg e] at hf
      rw [if_neg (fndL_under hn.2 hf (keysL_kid hk))]
      exact parL_of k q ks u hn.2 hf hk
theorem parL_of (k q : St) : ∀ (l : List VT) (u : VT), (keysL l).Nodup → fndL q l = some u → k ∈ u.ks.map VT.k → parL k l = some q
  | [], u, _, hf, _ => by cases hf
  | t :: r, u, hn, hf, hk => by
    rw [keysL] at hn
    rw [fndL, Option.or_eq_some_iff] at hf
    rw [parL]
    rcases hf with hf | ⟨_, hf⟩
    · rw [parV_of k q t u (List.nodup_append.1 hn).1 hf hk]
      rfl
    · have h2 := fndL_sub q r u hf k (by rw [keysV_eq]; exact List.mem_cons_of_mem _ (keysL_kid hk))
      have h3 : k ∉ keysV t := fun e => nodup_apart hn e h2
      rw [keysV_eq, List.mem_cons] at h3
      rw [parV_none k t fun e => h3 (.inr e), parL_of k q r u (List.nodup_append.1 hn).2.1 hf hk]
      rfl
end
mutual
theorem fndV_cut (k q : St) : ∀ (t u : VT), (keysV t).Nodup → fndV q t = some u → k ∈ u.ks.map VT.k → fndV q (cutV k t) = some (cutV k u)
  | .node q0 tg tx a ks, u, hn, hf, hk => by
    rw [keysV, List.nodup_cons] at hn
    rw [fndV] at hf
    rw [cutV, fndV]
    by_cases e : q0 = q
    · rw [if_pos e] at hf ⊢
      injection hf with hf
      subst hf
      rw [cutV]
    · rw [if_neg e] at hf ⊢
      exact fndL_cut k q ks u hn.2 hf hk
theorem fndL_cut (k q : St) : ∀ (l : List VT) (u : VT), (keysL l).Nodup → fndL q l = some u → k ∈ u.ks.map VT.k → fndL q (cutL k l) = some (cutV k u)
  | [], u, _, hf, _ => by cases hf
  | t :: r, u, hn, hf, hk => by
    have hne : t.k ≠ k := fun e => fndL_under hn hf (keysL_kid hk) (by rw [← e]; simp)
    rw [keysL] at hn
    rw [cutL, if_neg hne, fndL]
    rw [fndL, Option.or_eq_some_iff] at hf
    rcases hf with hf | ⟨h0, hf⟩
    · rw [fndV_cut k q t u (List.nodup_append.1 hn).1 hf hk]
      rfl
    · have h2 := fndL_sub q r u hf k (by rw [keysV_eq]; exact List.mem_cons_of_mem _ (keysL_kid hk))
      have h3 : k ∉ keysV t := fun e => nodup_apart hn e h2
      rw [keysV_eq, List.mem_cons] at h3
      rw [cutV_off k t fun e => h3 (.inr e), h0, fndL_cut k q r u (List.nodup_append.1 hn).2.1 hf hk]
      rfl
end
theorem cutL_roots2 {k a : St} (ha : a ≠ k) : ∀ {l : List VT}, a ∈ l.map VT.k → a ∈ (cutL k l).map VT.k
  | t :: r, h => by
    rw [List.map_cons, List.mem_cons] at h
    rw [cutL]
    by_cases e : t.k = k
    · rw [if_pos e]
      exact cutL_roots2 ha (h.resolve_left fun e2 => ha (e2.trans e))
    · rw [if_neg e, List.map_cons, List.mem_cons, cutV_k]
      exact h.imp id (cutL_roots2 ha)
theorem UpN.uniq {g : Gr} {x y : Nat} (hx : g.up x = none) (hy : g.up y = none) : ∀ {a b c : Nat}, UpN g a c x → UpN g b c y → x = y
  | 0, 0, c, h, k => h.symm.trans k
  | 0, b + 1, c, h, ⟨p, k1, _⟩ => by
    obtain rfl : c = x := h
    rw [hx] at k1; cases k1
  | a + 1, 0, c, ⟨p, h1, _⟩, k => by
    obtain rfl : c = y := k
    rw [hy] at h1; cases h1
  | a + 1, b + 1, c, ⟨p, h1, h2⟩, ⟨q, k1, k2⟩ => by
    rw [h1] at k1
    injection k1 with k1
    subst k1
    exact UpN.uniq hx hy h2 k2
section
variable {bh : Nat} {X : Nat → Prop} {g : Gr} {D : List (St × Nat)} {T : VT} {top : Nat} {H : List VT}
theorem PwP.upBh {Lo : List VT} {lb : List Nat} (h : PwP bh X g D Lo lb H) : g.up bh = none := (h.lk.out bh h.xh h.hn).1
theorem PwP.topX (h : PwP bh X g D [T] [top] H) : (X top ∧ top ≠ bh) ∧ g.up top = none ∧ Rt g T top ∧ (g.o top).k = T.k := by
  obtain ⟨l1, l2, l3⟩ := h.lx top (by simp)
  exact ⟨⟨l1, l2⟩, (h.lk.out top l1 l3).1, h.lr.1, by rw [(Rt_iff.1 h.lr.1).1]⟩
theorem PwP.nd1 (h : PwP bh X g D [T] [top] H) : (keysV T ++ keysL H).Nodup := by have := h.nd; simpa [keysL] using this
/-- Where a key is. -/
theorem PwP.look (h : PwP bh X g D [T] [top] H) (k : St) :
    (k ∉ keysV T ∧ k ∉ keysL H ∧ getP Prod.fst D k = none) ∨
    (∃ y c m, fndV k T = some y ∧ k ∉ keysL H ∧ (X c ∧ c ≠ bh) ∧ Rt g y c ∧ (g.o c).k = k ∧ UpN g m c top ∧ getP Prod.fst D k = some (k, c)) ∨
    (∃ y c m r, fndL k H = some y ∧ k ∉ keysV T ∧ (X c ∧ c ≠ bh) ∧ Rt g y c ∧ (g.o c).k = k ∧ r ∈ g.C bh ∧ UpN g m c r ∧ getP Prod.fst D k = some (k, c)) := by
  have hnd := h.nd1
  by_cases h1 : k ∈ keysV T
  · obtain ⟨y, c, m, r, e1, e2, e3, e4, e5, e6, e7⟩ := h.inLo (k := k) (by simpa [keysL] using h1)
    obtain rfl : r = top := by simpa using e5
    refine .inr (.inl ⟨y, c, m, ?_, nodup_apart hnd h1, e2, e3, e4, e6, e7⟩)
    rw [fndL, Option.or_eq_some_iff] at e1
    rcases e1 with e1 | ⟨_, e1⟩
    · exact e1
    · cases e1
  · by_cases h2 : k ∈ keysL H
    · obtain ⟨y, c, m, r, e1, e2, e3, e4, e5, e6, e7⟩ := h.inH h2
      exact .inr (.inr ⟨y, c, m, r, e1, h1, e2, e3, e4, e5, e6, e7⟩)
    · exact .inl ⟨h1, h2, h.absent (by simpa [keysL] using h1) h2⟩
/-- A node of the tree is not above the hand. -/
theorem PwP.notBoth (h : PwP bh X g D [T] [top] H) {c m n r : Nat} (h1 : UpN g m c top) (h2 : UpN g n c r) (hr : r ∈ g.C bh) : False := by
  have h3 := h2.snoc (h.lk.upOf h.xh hr)
  exact h.topX.1.2 (UpN.uniq h.topX.2.1 h.upBh h1 h3)
/-- Who is above a node of the tree. -/
theorem PwP.above (h : PwP bh X g D [T] [top] H) {k : St} {y : VT} {c m : Nat} (hc : X c ∧ c ≠ bh) (ht : c ≠ top) (hu : UpN g m c top) (hk : (g.o c).k = k) : ∃ p u, (X p ∧ p ≠ bh) ∧ c ∈ g.C p ∧ g.up c = some p ∧ fndV (g.o p).k T = some u ∧ RtL g u.ks (g.C p) ∧ k ∈ u.ks.map VT.k := by
  cases m with
  | zero => exact absurd hu ht
  | succ m =>
    obtain ⟨p, h1, h2⟩ := hu
    obtain ⟨hX, hm⟩ := h.lk.parent hc.1 h1 fun q => Classical.em _
    have hpb : p ≠ bh := fun e => by
      cases m with
      | zero => exact h.topX.1.2 (by rw [← e]; exact h2.symm)
      | succ m =>
        obtain ⟨z, h3, _⟩ := h2
        rw [e, h.upBh] at h3
        cases h3
    have hp : X p ∧ p ≠ bh := ⟨hX, hpb⟩
    have hg := getP_mem h.dn (h.Xd p hX hpb)
    rcases h.look (g.o p).k with ⟨_, _, e⟩ | ⟨u, p', m', e1, e2, e3, e4, e5, e6, e7⟩ | ⟨u, p', m', r, e1, e2, e3, e4, e5, e6, e7, e8⟩
    · rw [hg] at e; cases e
    · have ep : p' = p := h.inj e3 hp e5
      subst ep
      refine ⟨p', u, hp, hm, h1, e1, (Rt_iff.1 e4).2, ?_⟩
      rw [← hk]
      exact (h.kidOf hX (Rt_iff.1 e4).2 hc).2 h1
    · have ep : p' = p := h.inj e3 hp e5
      subst ep
      exact (h.notBoth h2 e7 e6).elim
/-- Who is above a node beneath the hand. -/
theorem PwP.aboveH (h : PwP bh X g D [T] [top] H) {c m r : Nat} (hc : X c ∧ c ≠ bh) (hr : r ∈ g.C bh) (hu : UpN g m c r) : ∃ p, X p ∧ c ∈ g.C p ∧ g.up c = some p := by
  have : ∃ p, g.up c = some p := by
    cases m with
    | zero =>
      obtain rfl : c = r := hu
      exact ⟨bh, h.lk.upOf h.xh hr⟩
    | succ m =>
      obtain ⟨p, h1, _⟩ := hu
      exact ⟨p, h1⟩
  obtain ⟨p, h1⟩ := this
  obtain ⟨hX, hm⟩ := h.lk.parent hc.1 h1 fun q => Classical.em _
  exact ⟨p, hX, hm, h1⟩
/-- Taken. -/
theorem PwP.takeG (h : PwP bh X g D [T] [top] H) {y : VT} {p c : Nat} (hp : X p) (hc : c ∈ g.C p) (hy : Rt g y c) (hT : T.k ≠ y.k) (hf : fndV y.k T = some y ∨ fndL y.k H = some y) : PwP bh X (lnk (Go.Proofs.Ytccpljllgpabnab.unl g p c) c bh none) D [cutV y.k T] [top] (y :: cutL y.k H) := by
  have h1 := h.unl hp hc hy (hf.imp (fun e => by rw [fndL, e]; rfl) id)
  rw [cutL, if_neg hT, cutL] at h1
  exact PwP.hold (lb := [top]) (Lo := [cutV y.k T]) h1 rfl
/-- Put. -/
theorem PwP.putG (h : PwP bh X g D [T] [top] H) {y u : VT} {p c : Nat} {a : Option Nat} {pk ak : St} (hc : c ∈ g.C bh) (hy : Rt g y c) (hyH : fndL y.k H = some y) (hyT : y.k ∉ keysV T) (hf : fndV pk T = some u) (hp : X p ∧ p ≠ bh) (hpk : (g.o p).k = pk) (hac : ∀ x, a = some x → x ∈ g.C p) (ha : KeyA g (fun c => X c ∧ c ≠ bh) a ak) (hau : ak = (0, 0) ∨ ak ∈ u.ks.map VT.k) : PwP bh X (lnk (Go.Proofs.Ytccpljllgpabnab.unl g bh c) c p a) D [insV pk ak y T] [top] (cutL y.k H) := by
  have hTk : T.k ≠ y.k := fun e => hyT (by rw [keysV_eq, e]; exact List.mem_cons_self ..)
  have h1 := h.unl h.xh hc hy (.inr hyH)
  rw [cutL, if_neg hTk, cutL, cutV_off y.k T fun e => hyT (by rw [keysV_eq]; exact List.mem_cons_of_mem _ e)] at h1
  refine PwP.put (T := T) (y := y) (top := top) (n := c) h1 hf hp hpk (fun x hx => ?_) ?_ hau
  · refine List.mem_filter.2 ⟨hac x hx, ?_⟩
    have : x ≠ c := fun e => hp.2 (h.lk.one hp.1 h.xh (hac x hx) (e ▸ hc))
    simpa using this
  · cases a with
    | none => exact ha
    | some x => exact ha
/-- Shifted. -/
theorem PwP.shiftG (h : PwP bh X g D [T] [top] H) {y u : VT} {p c : Nat} {a : Option Nat} {ak : St} (hc : c ∈ g.C p) (hy : Rt g y c) (hyT : fndV y.k T = some y) (hT : T.k ≠ y.k) (hyH : y.k ∉ keysL H) (hp : X p ∧ p ≠ bh) (hf : fndV (g.o p).k T = some u) (hku : y.k ∈ u.ks.map VT.k) (hac : ∀ x, a = some x → x ∈ g.C p) (ha : KeyA g (fun c => X c ∧ c ≠ bh) a ak) (hay : ak ≠ y.k ∨ ak = (0, 0)) (hau : ak = (0, 0) ∨ ak ∈ u.ks.map VT.k) : PwP bh X (lnk (Go.Proofs.Ytccpljllgpabnab.unl g p c) c p a) D [insV (g.o p).k ak y (cutV y.k T)] [top] H := by
  have hcY := h.kid p c hp.1 hc
  have hck : (g.o c).k = y.k := by rw [(Rt_iff.1 hy).1]
  have h1 := h.unl hp.1 hc hy (.inl (by rw [fndL, hyT]; rfl))
  rw [cutL, if_neg hT, cutL, cutL_off y.k H hyH] at h1
  have hndT := (List.nodup_append.1 h.nd1).1
  refine PwP.put (T := cutV y.k T) (y := y) (top := top) (n := c) h1 (fndV_cut y.k _ T u hndT hf hku) hp rfl (fun x hx => ?_) ?_ ?_
  · refine List.mem_filter.2 ⟨hac x hx, ?_⟩
    have : x ≠ c := fun e => by
      subst hx
      subst e
      obtain ⟨z1, z2⟩ := ha
      have := (z2 x hcY).2 rfl
      rw [hck] at this
      rcases hay with hay | hay
      · exact hay this.symm
      · exact z1 hay
    simpa using this
  · cases a with
    | none => exact ha
    | some x => exact ha
  · by_cases e : ak = (0, 0)
    · exact .inl e
    · refine .inr ?_
      rw [cutV_eq]
      exact cutL_roots2 (hay.resolve_right e) (hau.resolve_left e)
end

/-- A step of a patch. -/
structure Pa where
  kd : Int
  k : St
  pa : St
  af : St
  nm : ByteArray
  vl : ByteArray
def heldP (k : St) (H : List VT) : Option VT := H.find? fun y => decide (y.k = k)
def hasA (nm : ByteArray) (l : List At) : Bool := l.any fun a => decide (a.1 = nm)
def setA (nm vl : ByteArray) (l : List At) : List At := (l.filter fun a => ltT a.1 nm) ++ (nm, vl) :: l.filter fun a => ltT nm a.1
def delA (nm : ByteArray) (l : List At) : List At := l.filter fun a => decide (a.1 ≠ nm)
/-- A node's own fields behind a step. -/
def stepF (p : Pa) (f : Nf) : Int × Nf :=
  if p.kd = 6 then (0, { f with tg := p.nm }) else if p.kd = 7 then (0, { f with tx := p.vl }) else
  if p.kd = 8 then (if hasA p.nm f.at_ = false ∧ f.at_.length = 4096 then (6, f) else (0, { f with at_ := setA p.nm p.vl f.at_ })) else
  if hasA p.nm f.at_ then (0, { f with at_ := delA p.nm f.at_ }) else (4, f)
theorem stepF_k (p : Pa) (f : Nf) : (stepF p f).2.k = f.k := by
  unfold stepF
  repeat' split
  all_goals rfl
/-- What a right step does. -/
def stepU (p : Pa) (T : VT) (H : List VT) : Int × VT × List VT :=
  if p.kd = 1 then
    if p.k ∈ H.map VT.k then (4, T, H) else match fndL p.k H with
    | some y => (0, T, y :: cutL p.k H)
    | none => if T.k = p.k then (7, T, H) else match fndV p.k T with
      | none => (4, T, H)
      | some y => (0, cutV p.k T, y :: H)
  else if p.kd = 2 then match heldP p.k H with
    | none => (4, T, H)
    | some y => if y.ks = [] then (0, T, cutL p.k H) else (7, T, H)
  else if p.kd = 3 then
    if p.k ∈ keysV T ++ keysL H then (5, T, H) else if T.sz + szs H = 8192 then (6, T, H) else (0, T, .node p.k p.nm ⟨#[]⟩ [] [] :: H)
  else if p.kd = 4 then match heldP p.k H, fndV p.pa T with
    | some y, some u => if p.af ≠ (0, 0) ∧ p.af ∉ u.ks.map VT.k then (7, T, H) else (0, insV p.pa p.af y T, cutL p.k H)
    | _, _ => (4, T, H)
  else if p.kd = 5 then match fndV p.k T with
    | none => (4, T, H)
    | some y => if T.k = p.k then (7, T, H) else match parV p.k T with
      | none => (7, T, H)
      | some q => match fndV q T with
        | none => (7, T, H)
        | some u => if p.af ≠ (0, 0) ∧ p.af ∉ u.ks.map VT.k then (7, T, H) else (0, insV q p.af y (cutV p.k T), H)
  else match (fndV p.k T).or (fndL p.k H) with
    | none => (4, T, H)
    | some y => if (stepF p y.nf).1 ≠ 0 then ((stepF p y.nf).1, T, H) else (0, withV p.k (fun f => (stepF p f).2) T, withL p.k (fun f => (stepF p f).2) H)
theorem heldP_some {k : St} {H : List VT} {y : VT} (h : heldP k H = some y) : y ∈ H ∧ y.k = k := by
  unfold heldP at h
  exact ⟨List.mem_of_find?_eq_some h, by simpa using List.find?_some h⟩
theorem heldP_none {k : St} {H : List VT} : heldP k H = none ↔ k ∉ H.map VT.k := by
  unfold heldP
  rw [List.find?_eq_none]
  simp
theorem fnd_held {k : St} : ∀ {l : List VT} {y : VT}, (keysL l).Nodup → y ∈ l → y.k = k → fndL k l = some y
  | t :: r, y, hn, h, e => by
    rw [keysL] at hn
    rw [fndL, fndV_eq]
    rcases List.mem_cons.1 h with rfl | h
    · rw [if_pos e]; rfl
    · have h2 : k ∈ keysL r := by rw [← e]; exact keysL_root h
      have h3 : k ∉ keysV t := fun h => nodup_apart hn h h2
      rw [keysV_eq, List.mem_cons] at h3
      rw [if_neg fun e => h3 (.inl e.symm), (fndL_none k t.ks).2 fun h => h3 (.inr h), fnd_held (List.nodup_append.1 hn).2.1 h e]
      rfl
theorem heldP_of {k : St} {H : List VT} (hn : (keysL H).Nodup) (hk : k ∈ H.map VT.k) : ∃ y, heldP k H = some y ∧ fndL k H = some y ∧ y.k = k := by
  cases e : heldP k H with
  | none => exact absurd hk (heldP_none.1 e)
  | some y =>
    obtain ⟨h1, h2⟩ := heldP_some e
    exact ⟨y, rfl, fnd_held hn h1 h2, h2⟩
end Go.Proofs.Ytccpljllgpabnab
