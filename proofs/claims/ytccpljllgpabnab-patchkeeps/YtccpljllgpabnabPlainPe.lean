/- A forest in blocks: one more, one less, other fields; one that is put behind another one's kids. -/
import Derived.Test.YtccpljllgpabnabPlainPd
namespace Go.Proofs.Ytccpljllgpabnab
set_option linter.unusedVariables false
set_option linter.unusedSimpArgs false

theorem RtL.app_inv {g : Gr} : ∀ {l : List VT} {bs : List Nat} {m : List VT} {cs : List Nat}, bs.length = l.length → RtL g (l ++ m) (bs ++ cs) → RtL g l bs ∧ RtL g m cs
  | [], [], _, _, _, h => ⟨trivial, h⟩
  | _ :: r, _ :: l, _, _, e, h => by
    have := RtL.app_inv (l := r) (bs := l) (by simpa using e) h.2
    exact ⟨⟨h.1, this.1⟩, this.2⟩
  | [], _ :: _, _, _, e, _ => by simp at e
  | _ :: _, [], _, _, e, _ => by simp at e
/-- One more node, which nobody points to. -/
def addG (g : Gr) (n : Nat) (f : Nf) (a : Value) : Gr := { o := updF g.o n f, av := updF g.av n a, C := updF g.C n [], up := updF g.up n none, pv := updF g.pv n none, nx := updF g.nx n none, fs := updF g.fs n none }
theorem Lnk.add {X : Nat → Prop} {g : Gr} (h : Lnk X g) {n : Nat} (hn : ¬ X n) (f : Nf) (a : Value) : Lnk (fun b => X b ∨ b = n) (addG g n f a) := by
  have hC : ∀ p, X p → (addG g n f a).C p = g.C p := fun p hp => updF_ne _ _ fun e => hn (e ▸ hp)
  have hCn : (addG g n f a).C n = [] := updF_same _ _ _
  have hc : ∀ p c, (X p ∨ p = n) → c ∈ (addG g n f a).C p → X p ∧ c ∈ g.C p ∧ c ≠ n := fun p c hp hm => by
    rcases hp with hp | rfl
    · rw [hC p hp] at hm
      exact ⟨hp, hm, fun (e : c = n) => hn (by rw [← e]; exact h.mem p c hp hm)⟩
    · rw [hCn] at hm
      simp at hm
  refine ⟨fun p hp => ?_, fun p l1 c l2 hp hs => ?_, fun p c hp hm => .inl (h.mem p c (hc p c hp hm).1 (hc p c hp hm).2.1), fun p hp => ?_, fun c hX hno => ?_⟩
  · rcases hp with hp | rfl
    · rw [hC p hp]
      exact (updF_ne _ _ fun (e : p = n) => hn (by rw [← e]; exact hp)).trans (h.fst p hp)
    · rw [hCn]
      exact updF_same _ _ _
  · obtain ⟨h1, h2, h3⟩ := hc p c hp (by rw [hs]; simp)
    rw [hC p h1] at hs
    obtain ⟨o1, o2, o3⟩ := h.spl p l1 c l2 h1 hs
    exact ⟨(updF_ne _ _ h3).trans o1, (updF_ne _ _ h3).trans o2, (updF_ne _ _ h3).trans o3⟩
  · rcases hp with hp | rfl
    · rw [hC p hp]; exact h.nod p hp
    · rw [hCn]; exact List.nodup_nil
  · by_cases e : c = n
    · subst e
      exact ⟨updF_same _ _ _, updF_same _ _ _, updF_same _ _ _⟩
    · have hX2 : X c := hX.resolve_right e
      obtain ⟨o1, o2, o3⟩ := h.out c hX2 fun p hp hm => hno p (.inl hp) (by rw [hC p hp]; exact hm)
      exact ⟨(updF_ne _ _ e).trans o1, (updF_ne _ _ e).trans o2, (updF_ne _ _ e).trans o3⟩
section
variable {bh : Nat} {X : Nat → Prop} {g : Gr} {D : List (St × Nat)} {Lo : List VT} {lb : List Nat} {H : List VT}
theorem PwP.notD (h : PwP bh X g D Lo lb H) {k : St} (hk : k ∉ keysL Lo) (hk2 : k ∉ keysL H) : k ∉ D.map Prod.fst := fun hm => by
  obtain ⟨e, he, rfl⟩ := List.mem_map.1 hm
  exact (List.mem_append.1 (h.ky e he)).elim hk hk2
theorem PwP.add (h : PwP bh X g D Lo lb H) {n : Nat} (hn : ¬ X n) (f : Nf) (a : Value) (hk : f.k ∉ keysL Lo) (hk2 : f.k ∉ keysL H) : PwP bh (fun b => X b ∨ b = n) (addG g n f a) (D ++ [(f.k, n)]) (Lo ++ [.node f.k f.tg f.tx f.at_ []]) (lb ++ [n]) H := by
  have hbn : bh ≠ n := fun e => hn (e ▸ h.xh)
  have hne : ∀ b, X b → b ≠ n := fun b hb e => hn (e ▸ hb)
  have hO : ∀ b, X b → (addG g n f a).o b = g.o b := fun b hb => updF_ne _ _ (hne b hb)
  have hC : ∀ b, X b → (addG g n f a).C b = g.C b := fun b hb => updF_ne _ _ (hne b hb)
  have hOn : (addG g n f a).o n = f := updF_same _ _ _
  have hCn : (addG g n f a).C n = [] := updF_same _ _ _
  have hp : (f.k :: (keysL Lo ++ keysL H)).Perm (keysL (Lo ++ [.node f.k f.tg f.tx f.at_ []]) ++ keysL H) := by
    rw [keysL_append]
    simp only [keysL, keysV, List.append_nil, List.append_assoc, List.singleton_append]
    exact List.perm_middle.symm
  have hnd : (f.k :: (keysL Lo ++ keysL H)).Nodup := List.nodup_cons.2 ⟨fun hm => (List.mem_append.1 hm).elim hk hk2, h.nd⟩
  have hcg : ∀ c, (X c ∧ c ≠ bh) → (addG g n f a).o c = g.o c ∧ (addG g n f a).C c = g.C c := fun c hc => ⟨hO c hc.1, hC c hc.1⟩
  refine ⟨h.lk.add hn f a, fun e he => ?_, fun b hb hbb => ?_, ?_, .inl h.xh, fun p hp2 hm => ?_, ?_, fun b hb => ?_, ?_, hp.nodup_iff.1 hnd, fun e he => hp.mem_iff.1 ?_⟩
  · rcases List.mem_append.1 he with he | he
    · obtain ⟨d1, d2, d3⟩ := h.dX e he
      exact ⟨.inl d1, d2, by rw [hO _ d1]; exact d3⟩
    · obtain rfl : e = (f.k, n) := by simpa using he
      exact ⟨.inr rfl, fun e => hbn e.symm, by rw [hOn]⟩
  · rw [List.mem_append]
    rcases hb with hb | rfl
    · rw [hO b hb]; exact .inl (h.Xd b hb hbb)
    · rw [hOn]; exact .inr (by simp)
  · rw [List.map_append, List.nodup_append]
    refine ⟨h.dn, by simp, fun x hx y hy e => ?_⟩
    obtain rfl : y = f.k := by simpa using hy
    exact h.notD hk hk2 (e ▸ hx)
  · rcases hp2 with hp2 | rfl
    · rw [hC p hp2] at hm; exact h.hn p hp2 hm
    · rw [hCn] at hm; simp at hm
  · refine (RtL.congr (Y := fun c => X c ∧ c ≠ bh) h.hm hcg Lo lb h.lY h.lr).app (RtL.one ⟨hOn, ?_⟩)
    rw [hCn]
    trivial
  · rcases List.mem_append.1 hb with hb | hb
    · obtain ⟨l1, l2, l3⟩ := h.lx b hb
      refine ⟨.inl l1, l2, fun p hp2 hm => ?_⟩
      rcases hp2 with hp2 | rfl
      · rw [hC p hp2] at hm; exact l3 p hp2 hm
      · rw [hCn] at hm; simp at hm
    · obtain rfl : b = n := by simpa using hb
      refine ⟨.inr rfl, fun e => hbn e.symm, fun p hp2 hm => ?_⟩
      rcases hp2 with hp2 | rfl
      · rw [hC p hp2] at hm; exact hn (h.lk.mem p b hp2 hm)
      · rw [hCn] at hm; simp at hm
  · rw [hC bh h.xh]
    exact RtL.congr (Y := fun c => X c ∧ c ≠ bh) h.hm hcg H (g.C bh) h.hY h.rh
  · rcases List.mem_append.1 he with he | he
    · exact List.mem_cons_of_mem _ (h.ky e he)
    · obtain rfl : e = (f.k, n) := by simpa using he
      exact List.mem_cons_self ..
theorem PwP.lastNe {y : VT} {n : Nat} (h : PwP bh X g D (Lo ++ [y]) (lb ++ [n]) H) (hl : lb.length = Lo.length) : ∀ c ∈ lb, c ≠ n := fun c hc e => by
  have hlr := RtL.app_inv hl h.lr
  subst e
  have h1 := (hlr.1.keyOf (g.o c).k).2 ⟨c, hc, rfl⟩
  have h2 : (g.o c).k = y.k := by rw [(Rt_iff.1 hlr.2.1).1]
  rw [h2] at h1
  obtain ⟨t, ht, e⟩ := List.mem_map.1 h1
  have h3 := keysL_root ht
  rw [e] at h3
  have h4 := (List.nodup_append.1 h.nd).1
  rw [keysL_append] at h4
  refine nodup_apart h4 h3 ?_
  rw [keysL, keysV_eq]
  simp
/-- One that stands by itself, without kids, is no more. -/
theorem PwP.remove {y : VT} {n : Nat} (h : PwP bh X g D (Lo ++ [y]) (lb ++ [n]) H) (hl : lb.length = Lo.length) (hy : y.ks = []) {j : Nat} (hj : D[j]? = some (y.k, n)) : PwP bh (fun b => X b ∧ b ≠ n) g (D.eraseIdx j) Lo lb H := by
  have hlr := RtL.app_inv hl h.lr
  have hnx := h.lx n (by simp)
  have hCn : g.C n = [] := by
    have := (Rt_iff.1 hlr.2.1).2
    rw [hy] at this
    exact List.eq_nil_of_length_eq_zero (RtL.len this)
  obtain ⟨hjl, hje⟩ := List.getElem?_eq_some_iff.1 hj
  have hinj : ∀ i (hi : i < D.length), D[i].1 = y.k → i = j := fun i hi e => by
    have h1 : (D.map Prod.fst)[i]'(by simpa using hi) = (D.map Prod.fst)[j]'(by simpa using hjl) := by rw [List.getElem_map, List.getElem_map, e, hje]
    exact (List.getElem_inj h.dn).1 h1
  have hmem : ∀ e ∈ D.eraseIdx j, e ∈ D ∧ e.1 ≠ y.k := fun e he => by
    obtain ⟨i, hi, hne, rfl⟩ := List.mem_eraseIdx_iff_getElem.1 he
    exact ⟨List.getElem_mem hi, fun e => hne (hinj i hi e)⟩
  have hkn : (g.o n).k = y.k := by rw [(Rt_iff.1 hlr.2.1).1]
  have hlast := h.lastNe hl
  refine ⟨⟨fun p hp => h.lk.fst p hp.1, fun p l1 c l2 hp hs => h.lk.spl p l1 c l2 hp.1 hs, fun p c hp hc => ⟨h.lk.mem p c hp.1 hc, fun e => hnx.2.2 p hp.1 (e ▸ hc)⟩, fun p hp => h.lk.nod p hp.1, fun c hc hno => h.lk.out c hc.1 fun p hp hm => ?_⟩, fun e he => ?_, fun b hb hbb => ?_, ?_, ⟨h.xh, fun e => hnx.2.1 e.symm⟩, fun p hp hc => h.hn p hp.1 hc, hlr.1, fun b hb => ?_, h.rh, ?_, fun e he => ?_⟩
  · by_cases e : p = n
    · rw [e, hCn] at hm; simp at hm
    · exact hno p ⟨hp, e⟩ hm
  · obtain ⟨h1, h2⟩ := hmem e he
    obtain ⟨d1, d2, d3⟩ := h.dX e h1
    exact ⟨⟨d1, fun e2 => h2 (by rw [← d3, e2, hkn])⟩, d2, d3⟩
  · have h1 := h.Xd b hb.1 hbb
    obtain ⟨i, hi, e⟩ := List.mem_iff_getElem.1 h1
    refine List.mem_eraseIdx_iff_getElem.2 ⟨i, hi, fun e2 => hb.2 ?_, e⟩
    subst e2
    rw [hje] at e
    injection e with _ e
    exact e.symm
  · exact List.Nodup.sublist ((List.eraseIdx_sublist _ _).map _) h.dn
  · have := h.lx b (List.mem_append_left _ hb)
    exact ⟨⟨this.1, hlast b hb⟩, this.2.1, fun p hp hc => this.2.2 p hp.1 hc⟩
  · have := h.nd
    rw [keysL_append] at this
    exact List.Nodup.sublist (List.Sublist.append (List.sublist_append_left _ _) (List.Sublist.refl _)) this
  · obtain ⟨h1, h2⟩ := hmem e he
    have := h.ky e h1
    rw [keysL_append, List.mem_append, List.mem_append] at this
    rw [List.mem_append]
    rcases this with (h3 | h3) | h3
    · exact .inl h3
    · exfalso
      rw [keysL, keysV_eq, hy] at h3
      exact h2 (by simpa [keysL] using h3)
    · exact .inr h3
/-- A node's fields are others. -/
theorem PwP.with_ (h : PwP bh X g D Lo lb H) {n : Nat} {k : St} (hn : X n ∧ n ≠ bh) (ek : (g.o n).k = k) {F : Nf → Nf} (hF : ∀ x, (F x).k = x.k) (av : Nat → Value) : PwP bh X { g with o := updF g.o n (F (g.o n)), av := av } D (withL k F Lo) lb (withL k F H) := by
  have hk : ∀ c, (X c ∧ c ≠ bh) → ((g.o c).k = k ↔ c = n) := by rw [← ek]; exact h.key hn
  have hO : ∀ b, (updF g.o n (F (g.o n)) b).k = (g.o b).k := fun b => by
    by_cases e : b = n
    · rw [e, updF_same, hF]
    · rw [updF_ne _ _ e]
  refine ⟨⟨h.lk.fst, h.lk.spl, h.lk.mem, h.lk.nod, h.lk.out⟩, fun e he => ⟨(h.dX e he).1, (h.dX e he).2.1, (hO _).trans (h.dX e he).2.2⟩, fun b hb hbb => ?_, h.dn, h.xh, h.hn, RtL.with_ (Y := fun c => X c ∧ c ≠ bh) hF h.hm hk Lo lb h.lY h.lr, h.lx, RtL.with_ (Y := fun c => X c ∧ c ≠ bh) hF h.hm hk H (g.C bh) h.hY h.rh, ?_, fun e he => ?_⟩
  · show ((updF g.o n (F (g.o n)) b).k, b) ∈ D
    rw [hO]
    exact h.Xd b hb hbb
  · rw [withL_keys, withL_keys]; exact h.nd
  · rw [withL_keys, withL_keys]; exact h.ky e he
/-- One that stands by itself is put behind the kids of the one ahead of it. -/
theorem PwP.join {T y : VT} {b n : Nat} (h : PwP bh X g D (Lo ++ [T, y]) (lb ++ [b, n]) H) (hl : lb.length = Lo.length) : PwP bh X (lnk g n b (g.C b).getLast?) D (Lo ++ [.node T.k T.tg T.tx T.at_ (T.ks ++ [y])]) (lb ++ [b]) H := by
  have hlr := RtL.app_inv hl h.lr
  have hT : Rt g T b := hlr.2.1
  have hy : Rt g y n := hlr.2.2.1
  have hnx := h.lx n (by simp)
  have hbx := h.lx b (by simp)
  have hY : X b ∧ b ≠ bh := ⟨hbx.1, hbx.2.1⟩
  have hkb : (g.o b).k = T.k := by rw [(Rt_iff.1 hT).1]
  have hnd : (keysL Lo ++ (T.k :: (keysL T.ks ++ (keysV y ++ keysL H)))).Nodup := by
    have := h.nd
    rw [keysL_append] at this
    simpa [keysL, keysV_eq T] using this
  have hnd2 := (List.nodup_append.1 hnd).2.1
  have hT1 := (List.nodup_cons.1 hnd2).1
  rw [List.mem_append, List.mem_append] at hT1
  have hLo : T.k ∉ keysL Lo := fun hm => nodup_apart hnd hm (List.mem_cons_self ..)
  have hlast : ∀ x, (g.C b).getLast? = some x → x ∈ g.C b := fun x hx => last_mem hx
  have hins : insA (g.C b).getLast? n (g.C b) = g.C b ++ [n] := by
    rcases List.eq_nil_or_concat (g.C b) with e | ⟨l, x, e⟩
    · rw [e]; rfl
    · rw [e, List.concat_eq_append, List.getLast?_append]
      have h9 := h.lk.nod b hbx.1
      rw [e, List.concat_eq_append] at h9
      show insA (some x) n (l ++ x :: []) = _
      rw [insA_mid (by simpa using h9)]
      simp
  have hCb : (lnk g n b (g.C b).getLast?).C b = g.C b ++ [n] := (updF_same _ _ _).trans hins
  have hCo : ∀ q, q ≠ b → (lnk g n b (g.C b).getLast?).C q = g.C q := fun q hq => updF_ne _ _ hq
  have hlbY : ∀ c ∈ lb, X c ∧ c ≠ bh := fun c hc => h.lY c (List.mem_append_left _ hc)
  have h1 : RtL (lnk g n b (g.C b).getLast?) Lo lb := RtL.lnk_off (Y := fun c => X c ∧ c ≠ bh) h.hm Lo lb hlbY (by rw [hkb]; exact hLo) hlr.1
  have h2 : Rt (lnk g n b (g.C b).getLast?) y n := Rt.lnk_off (Y := fun c => X c ∧ c ≠ bh) h.hm y n ⟨hnx.1, hnx.2.1⟩ (by rw [hkb]; exact fun e => hT1 (.inr (.inl e))) hy
  have h3 : RtL (lnk g n b (g.C b).getLast?) T.ks (g.C b) := RtL.lnk_off (Y := fun c => X c ∧ c ≠ bh) h.hm T.ks (g.C b) (fun c hc => h.hm b c hY hc) (by rw [hkb]; exact fun e => hT1 (.inl e)) (Rt_iff.1 hT).2
  have h4 : Rt (lnk g n b (g.C b).getLast?) (.node T.k T.tg T.tx T.at_ (T.ks ++ [y])) b := by
    refine ⟨(Rt_iff.1 hT).1, ?_⟩
    rw [hCb]
    exact h3.app (RtL.one h2)
  have hmem : ∀ q c, X q → c ∈ (lnk g n b (g.C b).getLast?).C q → c ∈ g.C q ∨ c = n := fun q c hq hc => by
    by_cases e : q = b
    · subst e
      rw [hCb, List.mem_append] at hc
      exact hc.imp id (by simp)
    · rw [hCo q e] at hc
      exact .inl hc
  have hp : (keysL (Lo ++ [T, y]) ++ keysL H).Perm (keysL (Lo ++ [.node T.k T.tg T.tx T.at_ (T.ks ++ [y])]) ++ keysL H) := by
    rw [keysL_append, keysL_append]
    simp [keysL, keysV_eq T, keysV, keysL_append]
  have hno : ∀ c, c ∈ lb ++ [b] → c ≠ n := by
    have h9 : PwP bh X g D ((Lo ++ [T]) ++ [y]) ((lb ++ [b]) ++ [n]) H := by simpa using h
    exact h9.lastNe (by simp [hl])
  refine ⟨h.lk.lnk hbx.1 hnx.1 hnx.2.2 hlast, h.dX, h.Xd, h.dn, h.xh, fun p hp2 hc => ?_, h1.app (RtL.one h4), fun c hc => ?_, ?_, hp.nodup_iff.1 h.nd, fun e he => hp.mem_iff.1 (h.ky e he)⟩
  · rcases hmem p bh hp2 hc with hc | hc
    · exact h.hn p hp2 hc
    · exact hnx.2.1 hc.symm
  · have hc2 : c ∈ lb ++ [b, n] := by
      rw [List.mem_append] at hc ⊢
      exact hc.imp id (by simp +contextual)
    have h9 := h.lx c hc2
    exact ⟨h9.1, h9.2.1, fun p hp2 hm => (hmem p c hp2 hm).elim (h9.2.2 p hp2) (hno c hc)⟩
  · rw [hCo bh fun e => hbx.2.1 e.symm]
    exact RtL.lnk_off (Y := fun c => X c ∧ c ≠ bh) h.hm H (g.C bh) h.hY (by rw [hkb]; exact fun e => hT1 (.inr (.inr e))) h.rh
end
end Go.Proofs.Ytccpljllgpabnab
