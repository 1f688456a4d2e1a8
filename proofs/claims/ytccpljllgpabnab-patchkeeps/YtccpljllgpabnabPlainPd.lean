/- A forest in blocks, found by keys: some trees that stand by themselves, some beneath a hand. -/
import Derived.Test.YtccpljllgpabnabPlainPc
import Derived.Test.YtccpljllgpabnabMpW
namespace Go.Proofs.Ytccpljllgpabnab
set_option linter.unusedVariables false
set_option linter.unusedSimpArgs false

theorem getP_mem {D : List (St × Nat)} (h : (D.map Prod.fst).Nodup) : ∀ {e : St × Nat}, e ∈ D → getP Prod.fst D e.1 = some e := by
  induction D with
  | nil => intro e he; simp at he
  | cons x r ih =>
    intro e he
    rw [List.map_cons, List.nodup_cons] at h
    unfold getP
    rw [List.find?_cons]
    rcases List.mem_cons.1 he with rfl | he
    · simp
    · have hne : x.1 ≠ e.1 := fun e2 => h.1 (by rw [e2]; exact List.mem_map_of_mem he)
      rw [decide_eq_false hne]
      exact ih h.2 he
theorem getP_no {D : List (St × Nat)} {k : St} (h : ∀ e ∈ D, e.1 ≠ k) : getP Prod.fst D k = none := by
  unfold getP
  rw [List.find?_eq_none]
  intro e he
  simpa using h e he
/-- Trees that stand by themselves (Lo, at lb), and those beneath the hand. -/
structure PwP (bh : Nat) (X : Nat → Prop) (g : Gr) (D : List (St × Nat)) (Lo : List VT) (lb : List Nat) (H : List VT) : Prop where
  lk : Lnk X g
  dX : ∀ e ∈ D, X e.2 ∧ e.2 ≠ bh ∧ (g.o e.2).k = e.1
  Xd : ∀ b, X b → b ≠ bh → ((g.o b).k, b) ∈ D
  dn : (D.map Prod.fst).Nodup
  xh : X bh
  hn : ∀ p, X p → bh ∉ g.C p
  lr : RtL g Lo lb
  lx : ∀ b ∈ lb, X b ∧ b ≠ bh ∧ ∀ p, X p → b ∉ g.C p
  rh : RtL g H (g.C bh)
  nd : (keysL Lo ++ keysL H).Nodup
  ky : ∀ e ∈ D, e.1 ∈ keysL Lo ++ keysL H
section
variable {bh : Nat} {X : Nat → Prop} {g : Gr} {D : List (St × Nat)} {Lo : List VT} {lb : List Nat} {H : List VT}
theorem PwP.inj (h : PwP bh X g D Lo lb H) {b c : Nat} (hb : X b ∧ b ≠ bh) (hc : X c ∧ c ≠ bh) (e : (g.o b).k = (g.o c).k) : b = c := by
  have h1 := getP_mem h.dn (h.Xd b hb.1 hb.2)
  have h2 := getP_mem h.dn (h.Xd c hc.1 hc.2)
  dsimp only at h1 h2
  rw [e, h2] at h1
  injection h1 with h1
  injection h1 with _ h1
  exact h1.symm
theorem PwP.key (h : PwP bh X g D Lo lb H) {n : Nat} (hn : X n ∧ n ≠ bh) : ∀ c, (X c ∧ c ≠ bh) → ((g.o c).k = (g.o n).k ↔ c = n) := fun c hc => ⟨fun e => h.inj hc hn e, fun e => by rw [e]⟩
theorem PwP.kid (h : PwP bh X g D Lo lb H) : ∀ p c, X p → c ∈ g.C p → X c ∧ c ≠ bh := fun p c hp hc => ⟨h.lk.mem p c hp hc, fun e => h.hn p hp (e ▸ hc)⟩
theorem PwP.hm (h : PwP bh X g D Lo lb H) : ∀ p c, (X p ∧ p ≠ bh) → c ∈ g.C p → X c ∧ c ≠ bh := fun p c hp hc => h.kid p c hp.1 hc
theorem PwP.hu (h : PwP bh X g D Lo lb H) : ∀ p c, (X p ∧ p ≠ bh) → c ∈ g.C p → g.up c = some p := fun p c hp hc => h.lk.upOf hp.1 hc
theorem PwP.lY (h : PwP bh X g D Lo lb H) : ∀ c ∈ lb, X c ∧ c ≠ bh := fun c hc => ⟨(h.lx c hc).1, (h.lx c hc).2.1⟩
theorem PwP.hY (h : PwP bh X g D Lo lb H) : ∀ c ∈ g.C bh, X c ∧ c ≠ bh := fun c hc => h.kid bh c h.xh hc
/-- A tree that stands by itself: a node of it. -/
theorem PwP.inLo (h : PwP bh X g D Lo lb H) {k : St} (hk : k ∈ keysL Lo) : ∃ y c m r, fndL k Lo = some y ∧ (X c ∧ c ≠ bh) ∧ Rt g y c ∧ (g.o c).k = k ∧ r ∈ lb ∧ UpN g m c r ∧ getP Prod.fst D k = some (k, c) := by
  cases hf : fndL k Lo with
  | none => exact absurd hk ((fndL_none k Lo).1 hf)
  | some y =>
    obtain ⟨c, m, r, h1, h2, h3, h4⟩ := RtL.find (Y := fun c => X c ∧ c ≠ bh) h.hm h.hu k Lo lb y h.lY h.lr hf
    have h5 : (g.o c).k = k := by rw [(Rt_iff.1 h2).1]; exact fndL_k k Lo y hf
    refine ⟨y, c, m, r, rfl, h1, h2, h5, h3, h4, ?_⟩
    have h6 := getP_mem h.dn (h.Xd c h1.1 h1.2)
    rw [h5] at h6
    exact h6
theorem PwP.inH (h : PwP bh X g D Lo lb H) {k : St} (hk : k ∈ keysL H) : ∃ y c m r, fndL k H = some y ∧ (X c ∧ c ≠ bh) ∧ Rt g y c ∧ (g.o c).k = k ∧ r ∈ g.C bh ∧ UpN g m c r ∧ getP Prod.fst D k = some (k, c) := by
  cases hf : fndL k H with
  | none => exact absurd hk ((fndL_none k H).1 hf)
  | some y =>
    obtain ⟨c, m, r, h1, h2, h3, h4⟩ := RtL.find (Y := fun c => X c ∧ c ≠ bh) h.hm h.hu k H (g.C bh) y h.hY h.rh hf
    have h5 : (g.o c).k = k := by rw [(Rt_iff.1 h2).1]; exact fndL_k k H y hf
    refine ⟨y, c, m, r, rfl, h1, h2, h5, h3, h4, ?_⟩
    have h6 := getP_mem h.dn (h.Xd c h1.1 h1.2)
    rw [h5] at h6
    exact h6
theorem PwP.absent (h : PwP bh X g D Lo lb H) {k : St} (hk : k ∉ keysL Lo) (hk2 : k ∉ keysL H) : getP Prod.fst D k = none := getP_no fun e he e2 => by
  have := h.ky e he
  rw [e2, List.mem_append] at this
  exact this.elim hk hk2
/-- How many there are. -/
theorem PwP.len (h : PwP bh X g D Lo lb H) : D.length = szs Lo + szs H := by
  have hp : (D.map Prod.fst).Perm (keysL Lo ++ keysL H) := by
    refine (List.perm_ext_iff_of_nodup h.dn h.nd).2 fun k => ⟨fun hk => ?_, fun hk => ?_⟩
    · obtain ⟨e, he, rfl⟩ := List.mem_map.1 hk
      exact h.ky e he
    · rcases List.mem_append.1 hk with hk | hk
      · obtain ⟨y, c, m, r, _, h1, _, h5, _⟩ := h.inLo hk
        have h6 := h.Xd c h1.1 h1.2
        rw [h5] at h6
        exact List.mem_map.2 ⟨_, h6, rfl⟩
      · obtain ⟨y, c, m, r, _, h1, _, h5, _⟩ := h.inH hk
        have h6 := h.Xd c h1.1 h1.2
        rw [h5] at h6
        exact List.mem_map.2 ⟨_, h6, rfl⟩
  have := hp.length_eq
  rw [List.length_map, List.length_append, keysL_len, keysL_len] at this
  exact this
theorem RtL.keyOf {g : Gr} : ∀ {l : List VT} {bs : List Nat}, RtL g l bs → ∀ k, k ∈ l.map VT.k ↔ ∃ c ∈ bs, (g.o c).k = k
  | [], [], _, k => by simp
  | t :: r, b :: l, h, k => by
    have h1 := (Rt_iff.1 h.1).1
    rw [List.map_cons, List.mem_cons, RtL.keyOf h.2 k]
    constructor
    · rintro (e | ⟨c, hc, e⟩)
      · exact ⟨b, List.mem_cons_self .., by rw [h1, e]⟩
      · exact ⟨c, List.mem_cons_of_mem _ hc, e⟩
    · rintro ⟨c, hc, e⟩
      rcases List.mem_cons.1 hc with rfl | hc
      · exact .inl (by rw [← e, h1])
      · exact .inr ⟨c, hc, e⟩
/-- Who stands right beneath a node. -/
theorem PwP.kidOf (h : PwP bh X g D Lo lb H) {u : VT} {p : Nat} (hp : X p) (hu : RtL g u.ks (g.C p)) {c : Nat} (hc : X c ∧ c ≠ bh) : (g.o c).k ∈ u.ks.map VT.k ↔ g.up c = some p := by
  rw [hu.keyOf]
  constructor
  · rintro ⟨x, hx, e⟩
    have := h.inj (h.kid p x hp hx) hc e
    subst this
    exact h.lk.upOf hp hx
  · intro e
    exact ⟨c, (h.lk.parent hc.1 e fun q => Classical.em _).2, rfl⟩
theorem PwP.heldOf (h : PwP bh X g D Lo lb H) {c : Nat} (hc : X c ∧ c ≠ bh) : (g.o c).k ∈ H.map VT.k ↔ g.up c = some bh := by
  rw [h.rh.keyOf]
  constructor
  · rintro ⟨x, hx, e⟩
    have := h.inj (h.kid bh x h.xh hx) hc e
    subst this
    exact h.lk.upOf h.xh hx
  · intro e
    exact ⟨c, (h.lk.parent hc.1 e fun q => Classical.em _).2, rfl⟩
theorem cutL_roots {k : St} : ∀ {l : List VT}, k ∉ l.map VT.k → (cutL k l).map VT.k = l.map VT.k
  | [], _ => rfl
  | t :: r, h => by
    rw [List.map_cons, List.mem_cons] at h
    rw [cutL, if_neg (fun e => h (.inl e.symm)), List.map_cons, List.map_cons, cutV_k, cutL_roots fun e => h (.inr e)]
theorem keysL_perm {l m : List VT} (h : (recL l).Perm (recL m)) : (keysL l).Perm (keysL m) := by
  have := h.map Nf.k
  rw [recL_keys, recL_keys] at this
  exact this
/-- What one finds beneath has keys of the whole. -/
theorem fnd_rec {k : St} {l : List VT} {y : VT} (h : (keysL l).Nodup) (hf : fndL k l = some y) : (recL l).Perm (recL (cutL k l ++ [y])) := by
  have := cutL_perm k l y h hf
  rw [recL_append]
  simpa [recL] using this
theorem fnd_sub {k : St} {l : List VT} {y : VT} (h : (keysL l).Nodup) (hf : fndL k l = some y) : ∀ q ∈ keysV y, q ∈ keysL l := fun q hq => by
  have := (keysL_perm (fnd_rec h hf)).mem_iff (a := q)
  rw [this, keysL_append, List.mem_append]
  exact .inr (by simp [keysL, hq])
theorem fnd_nodup {k : St} {l : List VT} {y : VT} (h : (keysL l).Nodup) (hf : fndL k l = some y) : (keysV y).Nodup ∧ k ∉ keysL y.ks := by
  have h1 := (keysL_perm (fnd_rec h hf)).nodup_iff.1 h
  rw [keysL_append, List.nodup_append] at h1
  have h2 : (keysV y).Nodup := by simpa [keysL] using h1.2.1
  refine ⟨h2, ?_⟩
  rw [keysV_eq, List.nodup_cons, fndL_k k l y hf] at h2
  exact h2.1
/-- One is taken out, and stands by itself then. -/
theorem PwP.unl (h : PwP bh X g D Lo lb H) {q n : Nat} {y : VT} (hq : X q) (hn : n ∈ g.C q) (hy : Rt g y n) (hf : fndL y.k Lo = some y ∨ fndL y.k H = some y) : PwP bh X (unl g q n) D (cutL y.k Lo ++ [y]) (lb ++ [n]) (cutL y.k H) := by
  have hY := h.kid q n hq hn
  have ek : (g.o n).k = y.k := by rw [(Rt_iff.1 hy).1]
  have hk : ∀ c, (X c ∧ c ≠ bh) → ((g.o c).k = y.k ↔ c = n) := by rw [← ek]; exact h.key hY
  have hnl : n ∉ lb := fun hm => (h.lx n hm).2.2 q hq hn
  have hsub : ∀ p c, c ∈ (Go.Proofs.Ytccpljllgpabnab.unl g q n).C p → c ∈ g.C p ∧ c ≠ n := fun p c hc => by
    have hc2 : c ∈ (g.C p).filter fun x => decide (x ≠ n) := hc
    rw [List.mem_filter] at hc2
    exact ⟨hc2.1, by simpa using hc2.2⟩
  have hnd := List.nodup_append.1 h.nd
  have hnk : y.k ∉ keysL y.ks := by
    rcases hf with hf | hf
    · exact (fnd_nodup hnd.1 hf).2
    · exact (fnd_nodup hnd.2.1 hf).2
  have h1 : RtL (Go.Proofs.Ytccpljllgpabnab.unl g q n) (cutL y.k Lo) lb := by
    have := RtL.unl (p := q) (Y := fun c => X c ∧ c ≠ bh) h.hm hk Lo lb h.lY h.lr
    rw [filter_out hnl] at this
    exact this
  have h2 : Rt (Go.Proofs.Ytccpljllgpabnab.unl g q n) y n := by
    have := Rt.unl (p := q) (Y := fun c => X c ∧ c ≠ bh) h.hm hk y n hY hy
    rw [cutV_off y.k y hnk] at this
    exact this
  have hp : (keysL Lo ++ keysL H).Perm (keysL (cutL y.k Lo ++ [y]) ++ keysL (cutL y.k H)) := by
    rcases hf with hf | hf
    · have hkH : y.k ∉ keysL H := nodup_apart h.nd (Classical.byContradiction fun hc => by rw [(fndL_none _ _).2 hc] at hf; cases hf)
      rw [cutL_off _ _ hkH]
      exact (keysL_perm (fnd_rec hnd.1 hf)).append_right _
    · have hkL : y.k ∉ keysL Lo := fun hc => nodup_apart h.nd hc (Classical.byContradiction fun hc => by rw [(fndL_none _ _).2 hc] at hf; cases hf)
      rw [cutL_off _ _ hkL, keysL_append]
      have h3 := keysL_perm (fnd_rec hnd.2.1 hf)
      rw [keysL_append] at h3
      refine (h3.append_left _).trans ?_
      rw [List.append_assoc]
      exact List.perm_append_comm.append_left _
  refine ⟨h.lk.unl hq hn, h.dX, h.Xd, h.dn, h.xh, fun p hp hc => h.hn p hp (hsub p bh hc).1, h1.app (RtL.one h2), fun b hb => ?_, ?_, hp.nodup_iff.1 h.nd, fun e he => hp.mem_iff.1 (h.ky e he)⟩
  · rcases List.mem_append.1 hb with hb | hb
    · exact ⟨(h.lx b hb).1, (h.lx b hb).2.1, fun p hp hc => (h.lx b hb).2.2 p hp (hsub p b hc).1⟩
    · obtain rfl : b = n := by simpa using hb
      exact ⟨hY.1, hY.2, fun p hp hc => (hsub p b hc).2 rfl⟩
  · exact RtL.unl (p := q) (Y := fun c => X c ∧ c ≠ bh) h.hm hk H (g.C bh) h.hY h.rh
/-- One that stands by itself is put beneath the hand. -/
theorem PwP.hold {y : VT} {n : Nat} (h : PwP bh X g D (Lo ++ [y]) (lb ++ [n]) H) (hl : lb.length = Lo.length) : PwP bh X (lnk g n bh none) D Lo lb (y :: H) := by
  have hnx := h.lx n (by simp)
  have hC : ∀ c, (X c ∧ c ≠ bh) → (lnk g n bh none).C c = g.C c := fun c hc => updF_ne _ _ hc.2
  have hlr : RtL g Lo lb ∧ Rt g y n := by
    have h0 := h.lr
    clear h hnx hC
    induction Lo generalizing lb with
    | nil =>
      have : lb = [] := List.eq_nil_of_length_eq_zero hl
      subst this
      exact ⟨trivial, h0.1⟩
    | cons t r ih =>
      cases lb with
      | nil => simp at hl
      | cons b l =>
        have := ih (lb := l) (by simpa using hl) h0.2
        exact ⟨⟨h0.1, this.1⟩, this.2⟩
  have hcg : ∀ c, (X c ∧ c ≠ bh) → (lnk g n bh none).o c = g.o c ∧ (lnk g n bh none).C c = g.C c := fun c hc => ⟨rfl, hC c hc⟩
  have hp : (keysL (Lo ++ [y]) ++ keysL H).Perm (keysL Lo ++ keysL (y :: H)) := by
    rw [keysL_append, List.append_assoc, keysL, keysL, keysL, List.append_nil]
  have hl2 : ∀ c ∈ lb, X c ∧ c ≠ bh := fun c hc => h.lY c (List.mem_append_left _ hc)
  have hno : ∀ c ∈ lb, c ≠ n := fun c hc e => by
    subst e
    have h1 := (hlr.1.keyOf (g.o c).k).2 ⟨c, hc, rfl⟩
    have h2 : (g.o c).k = y.k := by rw [(Rt_iff.1 hlr.2).1]
    rw [h2] at h1
    obtain ⟨t, ht, e⟩ := List.mem_map.1 h1
    have h3 := keysL_root ht
    rw [e] at h3
    have h4 := (List.nodup_append.1 h.nd).1
    rw [keysL_append] at h4
    refine nodup_apart h4 h3 ?_
    rw [keysL, keysV_eq]
    simp
  refine ⟨h.lk.lnk h.xh hnx.1 hnx.2.2 (fun x e => by cases e), h.dX, h.Xd, h.dn, h.xh, fun p hp hc => ?_, RtL.congr (Y := fun c => X c ∧ c ≠ bh) h.hm hcg Lo lb hl2 hlr.1, fun b hb => ⟨(hl2 b hb).1, (hl2 b hb).2, fun p hp hc => ?_⟩, ?_, hp.nodup_iff.1 h.nd, fun e he => hp.mem_iff.1 (h.ky e he)⟩
  · by_cases e : p = bh
    · subst e
      have hc2 : p ∈ n :: g.C p := by have : (lnk g n p none).C p = n :: g.C p := updF_same _ _ _; rw [this] at hc; exact hc
      rcases List.mem_cons.1 hc2 with e | hc2
      · exact hnx.2.1 e.symm
      · exact h.hn p hp hc2
    · rw [hC p ⟨hp, e⟩] at hc
      exact h.hn p hp hc
  · by_cases e : p = bh
    · subst e
      have hc2 : b ∈ n :: g.C p := by have : (lnk g n p none).C p = n :: g.C p := updF_same _ _ _; rw [this] at hc; exact hc
      rcases List.mem_cons.1 hc2 with e | hc2
      · exact hno b hb e
      · exact (h.lx b (List.mem_append_left _ hb)).2.2 p hp hc2
    · rw [hC p ⟨hp, e⟩] at hc
      exact (h.lx b (List.mem_append_left _ hb)).2.2 p hp hc
  · have e : (lnk g n bh none).C bh = n :: g.C bh := updF_same _ _ _
    rw [e]
    exact ⟨Rt.congr (Y := fun c => X c ∧ c ≠ bh) h.hm hcg y n ⟨hnx.1, hnx.2.1⟩ hlr.2, RtL.congr (Y := fun c => X c ∧ c ≠ bh) h.hm hcg H (g.C bh) h.hY h.rh⟩
/-- One that stands by itself is put beneath a node of a tree that does. -/
theorem PwP.put {T y u : VT} {top n p : Nat} {a : Option Nat} {pk ak : St} (h : PwP bh X g D [T, y] [top, n] H) (hf : fndV pk T = some u) (hp : X p ∧ p ≠ bh) (hpk : (g.o p).k = pk) (hac : ∀ x, a = some x → x ∈ g.C p) (ha : KeyA g (fun c => X c ∧ c ≠ bh) a ak) (hau : ak = (0, 0) ∨ ak ∈ u.ks.map VT.k) : PwP bh X (lnk g n p a) D [insV pk ak y T] [top] H := by
  have hnx := h.lx n (by simp)
  have htx := h.lx top (by simp)
  have hrt : Rt g T top := h.lr.1
  have hry : Rt g y n := h.lr.2.1
  have hnd0 : (keysV T ++ (keysV y ++ keysL H)).Nodup := by have := h.nd; simpa [keysL] using this
  have hpT : pk ∈ keysV T := Classical.byContradiction fun hc => by rw [(fndV_none _ _).2 hc] at hf; cases hf
  have hno := nodup_apart hnd0 hpT
  rw [List.mem_append] at hno
  have hkp : ∀ c, (X c ∧ c ≠ bh) → ((g.o c).k = pk ↔ c = p) := by rw [← hpk]; exact h.key hp
  have h1 : Rt (lnk g n p a) y n := Rt.lnk_off (Y := fun c => X c ∧ c ≠ bh) h.hm y n ⟨hnx.1, hnx.2.1⟩ (by rw [hpk]; exact fun e => hno (.inl e)) hry
  have h2 := Rt.lnk (Y := fun c => X c ∧ c ≠ bh) h.hm hkp ha h1 T top ⟨htx.1, htx.2.1⟩ hrt
  have hC : (lnk g n p a).C bh = g.C bh := updF_ne _ _ fun e => hp.2 e.symm
  have h3 : RtL (lnk g n p a) H (g.C bh) := RtL.lnk_off (Y := fun c => X c ∧ c ≠ bh) h.hm H (g.C bh) h.hY (by rw [hpk]; exact fun e => hno (.inr e)) h.rh
  have hperm : (keysV (insV pk ak y T)).Perm (keysV T ++ keysV y) := by
    have := (insV_perm pk ak y T u (List.nodup_append.1 hnd0).1 hf hau).map Nf.k
    rw [recV_keys, List.map_append, recV_keys, recV_keys] at this
    exact this
  have hp2 : (keysL [T, y] ++ keysL H).Perm (keysL [insV pk ak y T] ++ keysL H) := by
    refine List.Perm.append_right _ ?_
    simp only [keysL, List.append_nil]
    exact hperm.symm
  have hmem : ∀ q c, X q → c ∈ (lnk g n p a).C q → c ∈ g.C q ∨ c = n := fun q c hq hc => by
    by_cases e : q = p
    · subst e
      obtain ⟨m1, m2, e1, e2, _, _⟩ := insA_split h.lk hq hac n
      have e3 : (lnk g n q a).C q = m1 ++ n :: m2 := (updF_same _ _ _).trans e2
      rw [e3, List.mem_append, List.mem_cons] at hc
      rw [e1, List.mem_append]
      rcases hc with hc | hc | hc
      · exact .inl (.inl hc)
      · exact .inr hc
      · exact .inl (.inr hc)
    · have e3 : (lnk g n p a).C q = g.C q := updF_ne _ _ e
      rw [e3] at hc
      exact .inl hc
  have htn : top ≠ n := fun e => by
    subst e
    have h5 := (Rt_iff.1 hrt).1
    rw [(Rt_iff.1 hry).1] at h5
    injection h5 with h5
    refine nodup_apart hnd0 (k := T.k) (by rw [keysV_eq]; exact List.mem_cons_self ..) (List.mem_append_left _ ?_)
    rw [keysV_eq, h5]
    exact List.mem_cons_self ..
  refine ⟨h.lk.lnk hp.1 hnx.1 hnx.2.2 hac, h.dX, h.Xd, h.dn, h.xh, fun q hq hc => ?_, RtL.one h2, fun b hb => ?_, by rw [hC]; exact h3, hp2.nodup_iff.1 h.nd, fun e he => hp2.mem_iff.1 (h.ky e he)⟩
  · rcases hmem q bh hq hc with hc | hc
    · exact h.hn q hq hc
    · exact hnx.2.1 hc.symm
  · obtain rfl : b = top := by simpa using hb
    exact ⟨htx.1, htx.2.1, fun q hq hc => (hmem q b hq hc).elim (htx.2.2 q hq) htn⟩
end
end Go.Proofs.Ytccpljllgpabnab
