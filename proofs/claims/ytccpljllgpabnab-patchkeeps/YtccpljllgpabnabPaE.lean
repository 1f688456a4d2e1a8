/- The work and the trees that it is: what is asked, linked, unlinked; one more node. -/
import Derived.Test.YtccpljllgpabnabPaD
namespace Go.Proofs.Ytccpljllgpabnab
open Go.RowKit
set_option linter.unusedVariables false
set_option linter.unusedSimpArgs false

/-- A step as a value. -/
def paCells (p : Pa) : List Value := [.int .i64 p.kd, .int .i64 p.k.1, .int .i64 p.k.2, .int .i64 p.pa.1, .int .i64 p.pa.2, .int .i64 p.af.1, .int .i64 p.af.2, .string p.nm, .string p.vl]
def paV (p : Pa) : Value := .agg #[.int .i64 p.kd, .int .i64 p.k.1, .int .i64 p.k.2, .int .i64 p.pa.1, .int .i64 p.pa.2, .int .i64 p.af.1, .int .i64 p.af.2, .string p.nm, .string p.vl]
/-- The work, and what it is: a tree, and what is held. -/
structure PwS (B wb bm bh top : Nat) (X : Nat → Prop) (g : Gr) (D : List (St × Nat)) (T : VT) (H : List VT) (W : World) : Prop where
  m : PwM B wb bm bh (some top) X g D W
  p : PwP bh X g D [T] [top] H
/-- What is elder than a block is as it was, and so is each array of functions. -/
structure BelT (B : Nat) (w W : World) : Prop where
  b : Below B w W
  f : ∀ (k : Nat) (cs : Array Value), w.heap[k]? = some (.cells cs 47) → W.heap[k]? = some (.cells cs 47)
theorem BelT.trans {B : Nat} {w W W' : World} (h : BelT B w W) (k : BelT B W W') : BelT B w W' := ⟨h.b.trans k.b, fun j cs e => k.f j cs (h.f j cs e)⟩
theorem BelT.of {B : Nat} {w W : World} (h : Below w.heap.size w W) (hB : B ≤ w.heap.size) : BelT B w W := ⟨h.mono hB, fun k cs e => (h.block k (row_lt e)).trans e⟩
/-- What a step leaves. -/
def StpP (B wb bm bh top : Nat) (r : Int × VT × List VT) (e : Ending) (W : World) : Prop := e = .returned (.int .i64 r.1) ∧ (r.1 = 0 → ∃ X g D, PwS B wb bm bh top X g D r.2.1 r.2.2 W)
theorem StpP.err {B wb bm bh top : Nat} {c : Int} {T : VT} {H : List VT} {W : World} (hc : c ≠ 0) : StpP B wb bm bh top (c, T, H) (.returned (.int .i64 c)) W := ⟨rfl, fun e => absurd e hc⟩
theorem StpP.ok {B wb bm bh top : Nat} {X : Nat → Prop} {g : Gr} {D : List (St × Nat)} {T : VT} {H : List VT} {W : World} (h : PwS B wb bm bh top X g D T H W) : StpP B wb bm bh top (0, T, H) (.returned (.int .i64 0)) W := ⟨rfl, fun _ => ⟨X, g, D, h⟩⟩
theorem nd_sib {X : Nat → Prop} {g : Gr} (h : Lnk X g) {q c : Nat} (hq : X q) (hc : c ∈ g.C q) : (∀ a, g.pv c = some a → X a ∧ a ≠ c) ∧ ∀ y, g.nx c = some y → X y ∧ y ≠ c := by
  obtain ⟨l1, l2, e⟩ := List.append_of_mem hc
  obtain ⟨_, u2, u3⟩ := h.spl q l1 c l2 hq e
  have hnd := h.nod q hq
  rw [e] at hnd
  obtain ⟨d1, d2, _⟩ := nd_mid hnd
  refine ⟨fun a ha => ?_, fun y hy => ?_⟩
  · have hm := last_mem (u2 ▸ ha)
    exact ⟨h.mem q a hq (by rw [e]; simp [hm]), fun e => d1 (e ▸ hm)⟩
  · have hm := head_mem (u3 ▸ hy)
    exact ⟨h.mem q y hq (by rw [e]; simp [hm]), fun e => d2 (e ▸ hm)⟩
theorem nd_put {X : Nat → Prop} {g : Gr} (h : Lnk X g) {p n : Nat} (hp : X p) (hno : ∀ q, X q → n ∉ g.C q) {a : Option Nat} (ha : ∀ x, a = some x → x ∈ g.C p) : (∀ x, a = some x → X x ∧ x ≠ n) ∧ (∀ y, nxtA g p a = some y → X y) ∧ nxtA g p a ≠ some n := by
  obtain ⟨m1, m2, e, _, _, em⟩ := insA_split h hp ha n
  refine ⟨fun x hx => ⟨h.mem p x hp (ha x hx), fun e => hno p hp (e ▸ ha x hx)⟩, fun y hy => ?_, fun hy => ?_⟩
  · exact h.mem p y hp (by rw [e]; exact List.mem_append_right _ (head_mem (em ▸ hy)))
  · exact hno p hp (by rw [e]; exact List.mem_append_right _ (head_mem (em ▸ hy)))
section
variable {B wb bm bh top : Nat} {tp : Option Nat} {X : Nat → Prop} {g : Gr} {D : List (St × Nat)} {T : VT} {H : List VT} {w W W' : World}
theorem PwM.notX (h : PwM B wb bm bh tp X g D W) {k : Nat} {cs : Array Value} {t : TypeId} {fr : Nat × Nat} (hk : W.heap[k]? = some (.cells cs t fr)) (ht : t ≠ 51) : ¬ X k := fun hx => by
  have h1 := h.mem k hx
  rw [hk] at h1
  injection h1 with h1
  injection h1 with _ h1
  exact ht h1
theorem PwM.touchT (h : PwM B wb bm bh tp X g D W) (ht : Touch X W W') : BelT B W W' := ⟨h.touch ht, fun k cs e => (ht.block k (row_lt e) (h.notX e (by decide))).trans e⟩
theorem PwM.mapT (h : PwM B wb bm bh tp X g D W) (hg : W.grownBy W' (some bm)) : BelT B W W' := ⟨⟨hg.os, hg.tape, hg.output, hg.size, fun k hk => hg.block k (Nat.lt_of_lt_of_le hk h.le) fun e => by cases e; have := h.lo.2.1; omega⟩, fun k cs e => (hg.block k (row_lt e) fun e2 => by cases e2; obtain ⟨es, cl, h2, _⟩ := h.mp; rw [h2] at e; cases e).trans e⟩
theorem unlink_s (h : PwM B wb bm bh tp X g D w) (hl : Lnk X g) {q c : Nat} (hq : X q) (hc : c ∈ g.C q) : Calls Try.prog 50 #[.pointer (some ⟨c, 0, none⟩)] w fun e w' => (∃ v, e = .returned v) ∧ PwM B wb bm bh tp X (unl g q c) D w' ∧ Touch X w w' :=
  (unlink_any X g c q w h.mem (hl.mem q c hq hc) hq (hl.upOf hq hc) (nd_sib hl hq hc).1 (nd_sib hl hq hc).2).mono fun e w' ⟨h1, h2, h3⟩ => ⟨h1, h.relink h2 h3 rfl rfl, h3⟩
theorem link_s (h : PwM B wb bm bh tp X g D w) (hl : Lnk X g) {p n : Nat} {a : Option Nat} (hn : X n) (hno : ∀ q, X q → n ∉ g.C q) (hp : X p) (ha : ∀ x, a = some x → x ∈ g.C p) : Calls Try.prog 49 #[.pointer (some ⟨n, 0, none⟩), .pointer (some ⟨p, 0, none⟩), ptr a] w fun e w' => (∃ v, e = .returned v) ∧ PwM B wb bm bh tp X (lnk g n p a) D w' ∧ Touch X w w' :=
  (link_any X g n p a w h.mem hn hp (nd_put hl hp hno ha).1 (nd_put hl hp hno ha).2.1 (nd_put hl hp hno ha).2.2).mono fun e w' ⟨h1, h2, h3, _⟩ => ⟨h1, h.relink h2 h3 rfl rfl, h3⟩
/-- What is known of a node that is held. -/
structure HeldI (bh : Nat) (X : Nat → Prop) (g : Gr) (D : List (St × Nat)) (T : VT) (H : List VT) (k : St) (c : Nat) (y : VT) : Prop where
  hp : heldP k H = some y
  fl : fndL k H = some y
  yk : y.k = k
  cx : X c ∧ c ≠ bh
  rt : Rt g y c
  ck : (g.o c).k = k
  up : g.up c = some bh
  mem : c ∈ g.C bh
  nt : k ∉ keysV T
  gp : getP Prod.fst D k = some (k, c)
def HeldQ (bh : Nat) (X : Nat → Prop) (g : Gr) (D : List (St × Nat)) (T : VT) (H : List VT) (k : St) (v : Value) : Prop := (v = .pointer none ∧ heldP k H = none) ∨ ∃ c y, v = .pointer (some ⟨c, 0, none⟩) ∧ HeldI bh X g D T H k c y
theorem PwP.heldI (h : PwP bh X g D [T] [top] H) {k : St} {c : Nat} {y : VT} (hf : fndL k H = some y) (hnt : k ∉ keysV T) (hc : X c ∧ c ≠ bh) (hr : Rt g y c) (hk : (g.o c).k = k) (hg : getP Prod.fst D k = some (k, c)) (hu : g.up c = some bh) : HeldI bh X g D T H k c y := by
  have hm : k ∈ H.map VT.k := by rw [← hk]; exact (h.heldOf hc).2 hu
  obtain ⟨y', e1, e2, e3⟩ := heldP_of (List.nodup_append.1 h.nd1).2.1 hm
  rw [hf] at e2
  injection e2 with e2
  subst e2
  exact ⟨e1, hf, e3, hc, hr, hk, hu, (h.lk.parent hc.1 hu fun q => Classical.em _).2, hnt, hg⟩
theorem PwP.notHeld (h : PwP bh X g D [T] [top] H) {k : St} {c : Nat} (hc : X c ∧ c ≠ bh) (hk : (g.o c).k = k) (hu : g.up c ≠ some bh) : heldP k H = none := heldP_none.2 fun hm => hu ((h.heldOf hc).1 (by rw [hk]; exact hm))
theorem held_s (hm : PwM B wb bm bh (some top) X g D w) (hp : PwP bh X g D [T] [top] H) (k : St) : Calls Try.prog 51 #[.pointer (some ⟨wb, 0, none⟩), .agg #[.int .i64 k.1, .int .i64 k.2]] w fun e w' => (∃ v, e = .returned v ∧ HeldQ bh X g D T H k v) ∧ Below w.heap.size w w' := by
  rcases hp.look k with ⟨h1, h2, e⟩ | ⟨y, c, m, e1, e2, e3, e4, e5, e6, e7⟩ | ⟨y, c, m, r, e1, e2, e3, e4, e5, e6, e7, e8⟩
  · exact (held_none k w hm e).mono fun e w' ⟨h3, h4⟩ => ⟨⟨_, h3, .inl ⟨rfl, heldP_none.2 fun hm => h2 (keysL_kid hm)⟩⟩, h4⟩
  · have hno : heldP k H = none := heldP_none.2 fun hm => e2 (keysL_kid hm)
    cases hu : g.up c with
    | none => exact (held_nil k w hm e7 e3.1 hp.xh hu).mono fun e w' ⟨h3, h4⟩ => ⟨⟨_, h3, .inl ⟨rfl, hno⟩⟩, h4⟩
    | some q =>
      obtain ⟨hq, _⟩ := hp.lk.parent e3.1 hu fun q => Classical.em _
      by_cases hqb : q = bh
      · subst hqb
        exact absurd (keysL_kid (by rw [← e5]; exact (hp.heldOf e3).2 hu)) e2
      · exact (held_no k w hm e7 e3.1 hp.xh hq hu hqb).mono fun e w' ⟨h3, h4⟩ => ⟨⟨_, h3, .inl ⟨rfl, hno⟩⟩, h4⟩
  · obtain ⟨q, hq, hcq, hu⟩ := hp.aboveH e3 e6 e7
    by_cases hqb : q = bh
    · subst hqb
      exact (held_yes k w hm e8 e3.1 hq hu).mono fun e w' ⟨h3, h4⟩ => ⟨⟨_, h3, .inr ⟨c, y, rfl, hp.heldI e1 e2 e3 e4 e5 e8 hu⟩⟩, h4⟩
    · exact (held_no k w hm e8 e3.1 hp.xh hq hu hqb).mono fun e w' ⟨h3, h4⟩ => ⟨⟨_, h3, .inl ⟨rfl, hp.notHeld e3 e5 (by rw [hu]; exact fun e => hqb (by injection e))⟩⟩, h4⟩
/-- What is known of a node of the tree. -/
structure InI (bh top : Nat) (X : Nat → Prop) (g : Gr) (D : List (St × Nat)) (T : VT) (H : List VT) (k : St) (c : Nat) (u : VT) : Prop where
  fv : fndV k T = some u
  nh : k ∉ keysL H
  cx : X c ∧ c ≠ bh
  rt : Rt g u c
  ck : (g.o c).k = k
  up : ∃ m, UpN g m c top
  gp : getP Prod.fst D k = some (k, c)
def InQ (bh top : Nat) (X : Nat → Prop) (g : Gr) (D : List (St × Nat)) (T : VT) (H : List VT) (k : St) (v : Value) : Prop := (v = .pointer none ∧ fndV k T = none) ∨ ∃ c u, v = .pointer (some ⟨c, 0, none⟩) ∧ InI bh top X g D T H k c u
theorem inTree_s (hm : PwM B wb bm bh (some top) X g D w) (hp : PwP bh X g D [T] [top] H) (k : St) : Calls Try.prog 52 #[.pointer (some ⟨wb, 0, none⟩), .agg #[.int .i64 k.1, .int .i64 k.2]] w fun e w' => (∃ v, e = .returned v ∧ InQ bh top X g D T H k v) ∧ Below w.heap.size w w' := by
  have hcl : ∀ c p, X c → g.up c = some p → X p := fun c p hc hu => (hp.lk.parent hc hu fun q => Classical.em _).1
  rcases hp.look k with ⟨h1, h2, e⟩ | ⟨y, c, m, e1, e2, e3, e4, e5, e6, e7⟩ | ⟨y, c, m, r, e1, e2, e3, e4, e5, e6, e7, e8⟩
  · exact (inTree_none k w hm e).mono fun e w' ⟨h3, h4⟩ => ⟨⟨_, h3, .inl ⟨rfl, (fndV_none k T).2 h1⟩⟩, h4⟩
  · refine (inTree_some k w hm e7 e3.1 hp.topX.1.1 hp.topX.2.1 e6 hp.topX.2.1 hcl).mono fun e w' ⟨h3, h4⟩ => ⟨⟨_, h3, .inr ⟨c, y, if_pos rfl, e1, e2, e3, e4, e5, ⟨m, e6⟩, e7⟩⟩, h4⟩
  · refine (inTree_some k w hm e8 e3.1 hp.topX.1.1 hp.topX.2.1 (e7.snoc (hp.lk.upOf hp.xh e6)) hp.upBh hcl).mono fun e w' ⟨h3, h4⟩ => ⟨⟨_, h3, .inl ⟨if_neg fun e => hp.topX.1.2 e.symm, (fndV_none k T).2 e2⟩⟩, h4⟩
/-- Where something is to stand. -/
def AhQ (bh : Nat) (X : Nat → Prop) (g : Gr) (p : Nat) (u : VT) (k : St) (v : Value) : Prop := (v = .tuple #[.pointer none, .bool false] ∧ k ≠ (0, 0) ∧ k ∉ u.ks.map VT.k) ∨ ∃ a, v = .tuple #[ptr a, .bool true] ∧ KeyA g (fun c => X c ∧ c ≠ bh) a k ∧ (∀ x, a = some x → x ∈ g.C p) ∧ (k = (0, 0) ∨ k ∈ u.ks.map VT.k)
theorem ahead_s (hm : PwM B wb bm bh (some top) X g D w) (hp : PwP bh X g D [T] [top] H) {p : Nat} {u : VT} (hX : X p) (hu : RtL g u.ks (g.C p)) (k : St) : Calls Try.prog 53 #[.pointer (some ⟨wb, 0, none⟩), .pointer (some ⟨p, 0, none⟩), .agg #[.int .i64 k.1, .int .i64 k.2]] w fun e w' => (∃ v, e = .returned v ∧ AhQ bh X g p u k v) ∧ Below w.heap.size w w' := by
  by_cases hz : k = (0, 0)
  · exact (ahead_zero p k w hm hz).mono fun e w' ⟨h3, h4⟩ => ⟨⟨_, h3, .inr ⟨none, rfl, hz, (fun x e => by cases e), .inl hz⟩⟩, h4⟩
  have hsome : ∀ c, (X c ∧ c ≠ bh) → (g.o c).k = k → getP Prod.fst D k = some (k, c) → Calls Try.prog 53 #[.pointer (some ⟨wb, 0, none⟩), .pointer (some ⟨p, 0, none⟩), .agg #[.int .i64 k.1, .int .i64 k.2]] w fun e w' => (∃ v, e = .returned v ∧ AhQ bh X g p u k v) ∧ Below w.heap.size w w' := fun c hc hk hg => by
    have hkid := hp.kidOf hX hu hc
    rw [hk] at hkid
    cases hu2 : g.up c with
    | none => exact (ahead_nil p k w hm hz hg hc.1 hX hu2).mono fun e w' ⟨h3, h4⟩ => ⟨⟨_, h3, .inl ⟨rfl, hz, fun hm => by rw [hkid, hu2] at hm; cases hm⟩⟩, h4⟩
    | some q =>
      by_cases hqp : q = p
      · subst hqp
        have hmem := (hp.lk.parent hc.1 hu2 fun q => Classical.em _).2
        refine (ahead_yes q k w hm hz hg hc.1 hX hu2).mono fun e w' ⟨h3, h4⟩ => ⟨⟨_, h3, .inr ⟨some c, rfl, ⟨hz, by rw [← hk]; exact hp.key hc⟩, (fun x e => by injection e with e; rw [← e]; exact hmem), .inr (hkid.2 hu2)⟩⟩, h4⟩
      · exact (ahead_no p k w hm hz hg hc.1 hX (hp.lk.parent hc.1 hu2 fun q => Classical.em _).1 hu2 hqp).mono fun e w' ⟨h3, h4⟩ => ⟨⟨_, h3, .inl ⟨rfl, hz, fun hm => by rw [hkid, hu2] at hm; injection hm with hm; exact hqp hm⟩⟩, h4⟩
  rcases hp.look k with ⟨h1, h2, e⟩ | ⟨y, c, m, e1, e2, e3, e4, e5, e6, e7⟩ | ⟨y, c, m, r, e1, e2, e3, e4, e5, e6, e7, e8⟩
  · refine (ahead_none p k w hm hz e).mono fun e9 w' ⟨h3, h4⟩ => ⟨⟨_, h3, .inl ⟨rfl, hz, fun hm => ?_⟩⟩, h4⟩
    obtain ⟨c, hc, hk⟩ := (hu.keyOf k).1 hm
    have h5 := hp.kid p c hX hc
    have h6 := getP_mem hp.dn (hp.Xd c h5.1 h5.2)
    rw [hk] at h6
    dsimp only at h6
    rw [h6] at e
    cases e
  · exact hsome c e3 e5 e7
  · exact hsome c e3 e5 e8
/-- One more node. -/
theorem PwM.addNode (h : PwM B wb bm bh tp X g D W) {n : Nat} {f : Nf} {a : Value} (hn : W.heap[n]? = some (.cells (gRow (addG g n f a) n) 51)) (hX : ¬ X n) (hB : B ≤ n) (hO : OwnAt B W a f.at_) (hap : ∀ b k, X b → (g.av b).ownBlock = some k → a.ownBlock ≠ some k) (hna : ∀ k, a.ownBlock = some k → k ≠ bm) (hg : W.grownBy W' (some bm)) (hm : MapIs Prod.fst (fun e => ptr (some e.2)) W' bm (D ++ [(f.k, n)])) : PwM B wb bm bh tp (fun b => X b ∨ b = n) (addG g n f a) (D ++ [(f.k, n)]) W' := by
  have hk : ∀ k, k < W.heap.size → k ≠ bm → W'.heap[k]? = W.heap[k]? := fun k hk hne => hg.block k hk fun e => hne (by cases e; rfl)
  have hne : ∀ b, X b → b ≠ n := fun b hb e => hX (e ▸ hb)
  have hnb : n ≠ bm := fun e => by
    obtain ⟨es, cl, h2, _⟩ := h.mp
    rw [e, h2] at hn
    cases hn
  have hR : ∀ b, X b → gRow (addG g n f a) b = gRow g b := fun b hb => by
    simp only [gRow, addG, updF_ne _ _ (hne b hb)]
  refine ⟨(hk _ (row_lt h.wr) h.wm).trans h.wr, hm, fun b hb => ?_, fun b hb => ?_, fun b c k hb hc e1 e2 => ?_, h.lo.1, h.lo.2.1, fun b hb => hb.elim (h.lo.2.2 b) fun e => e ▸ hB⟩
  · rcases hb with hb | rfl
    · rw [hR b hb]
      exact (hk _ (h.mem.lt hb) fun e => h.mX (e ▸ hb)).trans (h.mem b hb)
    · exact (hk _ (row_lt hn) hnb).trans hn
  · rcases hb with hb | rfl
    · have h1 := h.at_ b hb
      show OwnAt B W' (updF g.av n a b) (updF g.o n f b).at_
      rw [updF_ne _ _ (hne b hb), updF_ne _ _ (hne b hb)]
      exact OwnE.keep h1 fun k e => hk k (OwnE.lt h1 k e).2 (h.aT hb e).2.2
    · show OwnAt B W' (updF g.av b a b) (updF g.o b f b).at_
      rw [updF_same, updF_same]
      exact OwnE.keep hO fun k e => hk k (OwnE.lt hO k e).2 (hna k e)
  · have key : ∀ b, (X b ∨ b = n) → (addG g n f a).av b = if b = n then a else g.av b := fun b _ => rfl
    rw [key b hb] at e1
    rw [key c hc] at e2
    rcases hb with hb | rfl <;> rcases hc with hc | rfl
    · rw [if_neg (hne b hb)] at e1
      rw [if_neg (hne c hc)] at e2
      exact h.ap b c k hb hc e1 e2
    · rw [if_neg (hne b hb)] at e1
      rw [if_pos rfl] at e2
      exact absurd e2 (hap b k hb e1)
    · rw [if_neg (hne c hc)] at e2
      rw [if_pos rfl] at e1
      exact absurd e1 (hap c k hc e2)
    · rfl
end

end Go.Proofs.Ytccpljllgpabnab
