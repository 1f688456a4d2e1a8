/- DiffFewest of package topiarylaw18 is proved at this commit, in its second form: for every input (a tree, a tree, a list of numbers) of bulk at most 1048576 the call returns true and the arguments read as they did. (The first form is false by size alone.) -/
import Derived.Test.YthhnglpkfcmjiabZDy
import Derived.WideLaws
import Derived.Test.YthhnglpkfcmjiabZDm
import Derived.Test.YthhnglpkfcmjiabZDv
import Derived.Test.YthhnglpkfcmjiabZDw
import Derived.Test.YthhnglpkfcmjiabBaseMI
import Derived.Deep.CondSized
namespace Go.Proofs.Ythhnglpkfcmjiab
open Go.RowKit Go.Shelf
set_option linter.unusedVariables false
set_option linter.unusedSimpArgs false

attribute [local go_sem] Oper.semAt_some

theorem results_ie {fn : Func} {p q : Tmp} (h : fn.results = #[.cell p 3, .cell q 32]) (tmps : Array Value) (w : World) (g h2 : Nat) (x y : Int)
    (hp : tmps.getD p undef = .pointer (some ⟨g, 0, none⟩)) (hq : tmps.getD q undef = .pointer (some ⟨h2, 0, none⟩)) (hc : w.cell? ⟨g, 0, none⟩ = some (.int .i64 x)) (hd : w.cell? ⟨h2, 0, none⟩ = some (.int .i64 y)) :
    (results fn tmps).run Try.prog w = .ok (.tuple #[.int .i64 x, .int .i64 y]) w := by
  have hp' : tmps[p]?.getD undef = .pointer (some ⟨g, 0, none⟩) := by simpa using hp
  have hq' : tmps[q]?.getD undef = .pointer (some ⟨h2, 0, none⟩) := by simpa using hq
  have e1 : (loadVar 3 ⟨g, 0, none⟩).run Try.prog w = .ok (.int .i64 x) w := by
    simp [loadVar, isAgg, run_underlying Try.underlying3, load, go_sem]
    simp [Sem.run, hc]
  have e2 : (loadVar 32 ⟨h2, 0, none⟩).run Try.prog w = .ok (.int .i64 y) w := by
    simp [loadVar, isAgg, run_underlying Try.underlying32, load, go_sem]
    simp [Sem.run, hd]
  simp [results, h, hp', hq', asAddr, e1, e2]
theorem rnS_kp {w W2 U : World} {S : Nat → Prop} {bx : Nat → Option (Value × TypeId)} (h : RnS w W2 S bx U) {b : Nat} {v0 : Value} {t : TypeId} (hb : bx b = some (v0, t)) (v : Value) : KpS S W2.heap.size U (U.setCell ⟨b, 0, none⟩ v) :=
  KpS.grown (grownBy_setCell _ _ _ _) (fun k q => Nat.lt_of_lt_of_le (h.sl k q) h.kp.1) (fun g e => by cases e; exact ⟨(h.ns b v0 t hb).1, .inl (h.ns b v0 t hb).2.2⟩)
theorem rnS_kf {w W2 U : World} {S : Nat → Prop} {bx : Nat → Option (Value × TypeId)} (h : RnS w W2 S bx U) {b : Nat} {v0 : Value} {t : TypeId} (hb : bx b = some (v0, t)) (v : Value) : KeepsFrom W2.heap.size U (U.setCell ⟨b, 0, none⟩ v) :=
  KeepsFrom.of_grownBy (grownBy_setCell _ _ _ _) (fun j e => by cases e; exact (h.ns b v0 t hb).2.2)
theorem map_len {α : Type} {ky : α → St} {vl : α → Value} {w : World} {b : Nat} {D : List α} (h : MapIs ky vl w b D) : ∃ es cl, w.heap[b]? = some (.map es cl) ∧ es.size = D.length := by
  obtain ⟨es, cl, h1, h2⟩ := h
  refine ⟨es, cl, h1, ?_⟩
  have h3 := congrArg List.length h2.ent
  simpa using h3
/-- Two lists of the same members, each once. -/
theorem len_mem {L M : List St} (h1 : L.Nodup) (h2 : M.Nodup) (h : ∀ s, s ∈ L ↔ s ∈ M) : L.length = M.length := by
  have key : ∀ (L M : List St), L.Nodup → (∀ s, s ∈ L → s ∈ M) → L.length ≤ M.length := fun L => by
    induction L with
    | nil => intro M _ _; simp
    | cons x r ih =>
      intro M hn hm
      rw [List.nodup_cons] at hn
      have h1 : x ∈ M := hm x (List.mem_cons_self ..)
      have h3 := ih (M.erase x) hn.2 fun s hs => (List.mem_erase_of_ne (fun e => hn.1 (by rw [← e]; exact hs))).2 (hm s (List.mem_cons_of_mem _ hs))
      rw [List.length_erase_of_mem h1] at h3
      have := List.length_pos_of_mem h1
      rw [List.length_cons]
      omega
  exact Nat.le_antisymm (key L M h1 fun s => (h s).1) (key M L h2 fun s => (h s).2)
theorem oth_up : ∀ (t : List Int) (f i : Nat), (∀ p ∈ oth t f i, (i : Int) ≤ p) ∧ (oth t f i).Pairwise (· < ·)
  | _, 0, i => ⟨fun p h => by simp [oth] at h, by simp [oth]⟩
  | [], f + 1, i => by
    obtain ⟨h1, h2⟩ := oth_up [] f (i + 1)
    rw [oth_no (fun p e => by simp at e)]
    refine ⟨fun p h => ?_, List.pairwise_cons.2 ⟨fun p h => by have := h1 p h; omega, h2⟩⟩
    rcases List.mem_cons.1 h with rfl | h
    · omega
    · have := h1 p h; omega
  | q :: t, f + 1, i => by
    by_cases e : q = (i : Int)
    · subst e
      obtain ⟨h1, h2⟩ := oth_up t f (i + 1)
      rw [oth_yes]
      exact ⟨fun p h => by have := h1 p h; omega, h2⟩
    · obtain ⟨h1, h2⟩ := oth_up (q :: t) f (i + 1)
      rw [oth_no (fun p e2 => by simp at e2; subst e2; exact e)]
      refine ⟨fun p h => ?_, List.pairwise_cons.2 ⟨fun p h => by have := h1 p h; omega, h2⟩⟩
      rcases List.mem_cons.1 h with rfl | h
      · omega
      · have := h1 p h; omega
theorem shD_nodup {a b n : VT} (hna : ((flT a).map VT.k).Nodup) (hnb : ((flT b).map VT.k).Nodup) (hk : a.k = b.k) (hn : n ∈ flT b) : (shD a b n).Nodup := by
  have hlen := plD_len hna hnb hk hn
  have hks : (stK a b n.ks).Nodup := by
    unfold stK
    refine List.Nodup.sublist List.filter_sublist ?_
    rw [← flatS_t default b (0, 0) 0 0 0] at hn
    obtain ⟨x, hx, rfl⟩ := List.mem_map.1 hn
    exact ks_nodup hnb hx
  unfold shD List.Nodup
  rw [List.pairwise_map]
  refine List.Pairwise.imp_of_mem (fun {p q} hp hq hlt e => ?_) (oth_up _ _ 0).2
  obtain ⟨i, ei, hi⟩ := oth_at _ _ _ p hp
  obtain ⟨j, ej, hj⟩ := oth_at _ _ _ q hq
  subst ei ej
  have hi2 : i < (stK a b n.ks).length := by omega
  have hj2 : j < (stK a b n.ks).length := by omega
  simp only [Int.toNat_natCast, List.getD_eq_getElem?_getD, List.getElem?_eq_getElem hi2, List.getElem?_eq_getElem hj2, Option.getD_some] at e
  exact (List.pairwise_iff_getElem.1 hks) i j hi2 hj2 (by omega) e
theorem flatS_kept_n (S : Nat → Prop) (w W : World) (hk : KeepsS S w W) : ∀ (n : Nat) (t : VT) (u : St) (i b o : Nat), t.sz ≤ n → VAt S w t b o → S b → flatS W t u i b o = flatS w t u i b o
  | 0, t, _, _, _, _, h, _, _ => by have := t.sz_pos; omega
  | n + 1, t, u, i, b, o, h, hv, hs => by
    rw [flatS_eq, flatS_eq]
    have key : ∀ (l : List VT) (v : St) (j b2 o2 : Nat), (∀ i (hi : i < l.length), (VAt S w l[i] b2 (o2 + i * 6) ∧ S b2) ∧ l[i].sz ≤ n) → flatsS W l v j b2 o2 = flatsS w l v j b2 o2 := fun l => by
      induction l with
      | nil => intro _ _ _ _ _; simp [flatsS]
      | cons y r ihr =>
        intro v j b2 o2 hl
        have h0 := hl 0 (by simp)
        rw [Nat.zero_mul, Nat.add_zero, List.getElem_cons_zero] at h0
        rw [flatsS, flatsS, flatS_kept_n S w W hk n y v j b2 o2 h0.2 h0.1.1 h0.1.2, ihr v (j + 1) b2 (o2 + 6) (fun i hi => ?_)]
        have h1 := hl (i + 1) (by simpa using hi)
        rw [List.getElem_cons_succ, show o2 + (i + 1) * 6 = o2 + 6 + i * 6 by omega] at h1
        exact h1
    by_cases hks : t.ks = []
    · rw [hks]; simp [flatsS]
    · obtain ⟨b2, o2, ck, ekb, hg, hlt, c5, _⟩ := hv.kbo (i := 0) (by cases h9 : t.ks with | nil => exact absurd h9 hks | cons _ _ => simp)
      have e5 : kbo W b o = kbo w b o := by
        unfold kbo
        rw [hk.cell (p := ⟨b, o + 5, none⟩) hs]
      rw [e5, ekb]
      rw [key t.ks t.k 0 b2 o2 fun j hj => ?_]
      obtain ⟨b3, o3, ck3, ekb3, hg3, _, _, hv3⟩ := hv.kbo hj
      rw [ekb] at ekb3
      injection ekb3 with e1 e2
      subst e1 e2
      exact ⟨⟨hv3, hg3⟩, by have := VT.kid hj; omega⟩
theorem flatS_kept {S : Nat → Prop} {w W : World} {t : VT} {b o : Nat} (hv : VAt S w t b o) (hk : KeepsS S w W) (hb : S b) (u : St) (i : Nat) : flatS W t u i b o = flatS w t u i b o := flatS_kept_n S w W hk t.sz t u i b o (Nat.le_refl _) hv hb

set_option maxRecDepth 100000 in
set_option maxHeartbeats 8000000 in
theorem shifts_in (n0 : Nat) (hn : 6 ≤ n0) (G : Nat → Prop) (a b : VT) (s : St) (va vb : Value) (w : World) (ha : VIs G w va a) (hb : VIs G w vb b) (hsa : a.sz ≤ 1048576) (hba : BnA a) (hsb : b.sz ≤ 1048576) (hbb : BnA b) :
    CallsIn Fence.wide n0 Try.prog 10 #[va, vb, .agg #[.int .i64 s.1, .int .i64 s.2]] w fun e w' => e = .returned (.tuple #[.int .i64 (shfD a b s).1, .int .i64 (shfD a b s).2]) ∧ Below w.heap.size w w' := by
  replace ha := ha.turn (G' := fun k => k < w.heap.size) (Nat.le_refl _) fun k _ q => ⟨q, rfl⟩
  replace hb := hb.turn (G' := fun k => k < w.heap.size) (Nat.le_refl _) fun k _ q => ⟨q, rfl⟩
  obtain ⟨aa, ca, ak, da, e1, fa⟩ := ha.form
  obtain ⟨ba, cb, bk, db, e2, fb⟩ := hb.form
  subst e1 e2
  obtain ⟨W0, hw0⟩ : ∃ X, X = (((((w.alloc (.cells #[.int .i64 a.k.1, .int .i64 a.k.2, .string a.tg, .string a.tx, .slice aa a.at_.length ca, .slice ak a.ks.length da] 27)).alloc (.cells #[.int .i64 b.k.1, .int .i64 b.k.2, .string b.tg, .string b.tx, .slice ba b.at_.length cb, .slice bk b.ks.length db] 27)).alloc (.cells #[.int .i64 s.1, .int .i64 s.2] 23)).alloc (.cells #[.int .i64 0] 3)).alloc (.cells #[.int .i64 0] 32)) := ⟨_, rfl⟩
  have hO0 : W0.heap[w.heap.size]? = some (.cells #[.int .i64 a.k.1, .int .i64 a.k.2, .string a.tg, .string a.tx, .slice aa a.at_.length ca, .slice ak a.ks.length da] 27) := (by rw [hw0]; rw [Below.heap_alloc _ _ _ (by simp <;> omega)]; rw [Below.heap_alloc _ _ _ (by simp <;> omega)]; rw [Below.heap_alloc _ _ _ (by simp <;> omega)]; rw [Below.heap_alloc _ _ _ (by simp <;> omega)]; have h := heap_alloc_new w (.cells #[.int .i64 a.k.1, .int .i64 a.k.2, .string a.tg, .string a.tx, .slice aa a.at_.length ca, .slice ak a.ks.length da] 27); exact h)
  have hO1 : W0.heap[w.heap.size + 1]? = some (.cells #[.int .i64 b.k.1, .int .i64 b.k.2, .string b.tg, .string b.tx, .slice ba b.at_.length cb, .slice bk b.ks.length db] 27) := (by rw [hw0]; rw [Below.heap_alloc _ _ _ (by simp <;> omega)]; rw [Below.heap_alloc _ _ _ (by simp <;> omega)]; rw [Below.heap_alloc _ _ _ (by simp <;> omega)]; have h := heap_alloc_new (w.alloc (.cells #[.int .i64 a.k.1, .int .i64 a.k.2, .string a.tg, .string a.tx, .slice aa a.at_.length ca, .slice ak a.ks.length da] 27)) (.cells #[.int .i64 b.k.1, .int .i64 b.k.2, .string b.tg, .string b.tx, .slice ba b.at_.length cb, .slice bk b.ks.length db] 27); rw [show (w.alloc (.cells #[.int .i64 a.k.1, .int .i64 a.k.2, .string a.tg, .string a.tx, .slice aa a.at_.length ca, .slice ak a.ks.length da] 27)).heap.size = w.heap.size + 1 by simp] at h; exact h)
  have hO2 : W0.heap[w.heap.size + 2]? = some (.cells #[.int .i64 s.1, .int .i64 s.2] 23) := (by rw [hw0]; rw [Below.heap_alloc _ _ _ (by simp <;> omega)]; rw [Below.heap_alloc _ _ _ (by simp <;> omega)]; have h := heap_alloc_new ((w.alloc (.cells #[.int .i64 a.k.1, .int .i64 a.k.2, .string a.tg, .string a.tx, .slice aa a.at_.length ca, .slice ak a.ks.length da] 27)).alloc (.cells #[.int .i64 b.k.1, .int .i64 b.k.2, .string b.tg, .string b.tx, .slice ba b.at_.length cb, .slice bk b.ks.length db] 27)) (.cells #[.int .i64 s.1, .int .i64 s.2] 23); rw [show ((w.alloc (.cells #[.int .i64 a.k.1, .int .i64 a.k.2, .string a.tg, .string a.tx, .slice aa a.at_.length ca, .slice ak a.ks.length da] 27)).alloc (.cells #[.int .i64 b.k.1, .int .i64 b.k.2, .string b.tg, .string b.tx, .slice ba b.at_.length cb, .slice bk b.ks.length db] 27)).heap.size = w.heap.size + 2 by simp] at h; exact h)
  have hO3 : W0.heap[w.heap.size + 3]? = some (.cells #[.int .i64 0] 3) := (by rw [hw0]; rw [Below.heap_alloc _ _ _ (by simp <;> omega)]; have h := heap_alloc_new (((w.alloc (.cells #[.int .i64 a.k.1, .int .i64 a.k.2, .string a.tg, .string a.tx, .slice aa a.at_.length ca, .slice ak a.ks.length da] 27)).alloc (.cells #[.int .i64 b.k.1, .int .i64 b.k.2, .string b.tg, .string b.tx, .slice ba b.at_.length cb, .slice bk b.ks.length db] 27)).alloc (.cells #[.int .i64 s.1, .int .i64 s.2] 23)) (.cells #[.int .i64 0] 3); rw [show (((w.alloc (.cells #[.int .i64 a.k.1, .int .i64 a.k.2, .string a.tg, .string a.tx, .slice aa a.at_.length ca, .slice ak a.ks.length da] 27)).alloc (.cells #[.int .i64 b.k.1, .int .i64 b.k.2, .string b.tg, .string b.tx, .slice ba b.at_.length cb, .slice bk b.ks.length db] 27)).alloc (.cells #[.int .i64 s.1, .int .i64 s.2] 23)).heap.size = w.heap.size + 3 by simp] at h; exact h)
  have hO4 : W0.heap[w.heap.size + 4]? = some (.cells #[.int .i64 0] 32) := (by rw [hw0]; have h := heap_alloc_new ((((w.alloc (.cells #[.int .i64 a.k.1, .int .i64 a.k.2, .string a.tg, .string a.tx, .slice aa a.at_.length ca, .slice ak a.ks.length da] 27)).alloc (.cells #[.int .i64 b.k.1, .int .i64 b.k.2, .string b.tg, .string b.tx, .slice ba b.at_.length cb, .slice bk b.ks.length db] 27)).alloc (.cells #[.int .i64 s.1, .int .i64 s.2] 23)).alloc (.cells #[.int .i64 0] 3)) (.cells #[.int .i64 0] 32); rw [show ((((w.alloc (.cells #[.int .i64 a.k.1, .int .i64 a.k.2, .string a.tg, .string a.tx, .slice aa a.at_.length ca, .slice ak a.ks.length da] 27)).alloc (.cells #[.int .i64 b.k.1, .int .i64 b.k.2, .string b.tg, .string b.tx, .slice ba b.at_.length cb, .slice bk b.ks.length db] 27)).alloc (.cells #[.int .i64 s.1, .int .i64 s.2] 23)).alloc (.cells #[.int .i64 0] 3)).heap.size = w.heap.size + 4 by simp] at h; exact h)
  have hb2 : Below w.heap.size w W0 := (by rw [hw0]; exact (((((Below.refl _ _).alloc (Nat.le_refl _) _).alloc (by simp <;> omega) _).alloc (by simp <;> omega) _).alloc (by simp <;> omega) _).alloc (by simp <;> omega) _)
  have hs2 : W0.heap.size = w.heap.size + 5 := (by rw [hw0]; simp)
  obtain ⟨bb, ebb⟩ : ∃ q, q = w.heap.size + 1 := ⟨_, rfl⟩
  obtain ⟨kb, ekb⟩ : ∃ q, q = w.heap.size + 2 := ⟨_, rfl⟩
  obtain ⟨rb, erb⟩ : ∃ q, q = w.heap.size + 3 := ⟨_, rfl⟩
  obtain ⟨ob, eob⟩ : ∃ q, q = w.heap.size + 4 := ⟨_, rfl⟩
  rw [← ebb] at hO1
  rw [← ekb] at hO2
  rw [← erb] at hO3
  rw [← eob] at hO4
  have HA : Hid (VIs (fun k => k < w.heap.size) W0 (.agg #[.int .i64 a.k.1, .int .i64 a.k.2, .string a.tg, .string a.tx, .slice aa a.at_.length ca, .slice ak a.ks.length da]) a) := ha.below hb2
  have HB : Hid (VIs (fun k => k < w.heap.size) W0 (.agg #[.int .i64 b.k.1, .int .i64 b.k.2, .string b.tg, .string b.tx, .slice ba b.at_.length cb, .slice bk b.ks.length db]) b) := hb.below hb2
  have HFa : Hid (FdIs (fun k => k < w.heap.size) W0 (.slice aa a.at_.length ca) (.slice ak a.ks.length da) a.at_ a.ks) := fa.below hb2
  have HFb : Hid (FdIs (fun k => k < w.heap.size) W0 (.slice ba b.at_.length cb) (.slice bk b.ks.length db) b.at_ b.ks) := fb.below hb2
  have HL : Hid (Below w.heap.size w W0) := hb2
  have Hsz : Hid (W0.heap.size = w.heap.size + 5) := hs2
  have HO0 := hide9 hO0
  have HO1 := hide9 hO1
  have HO2 := hide9 hO2
  have HO3 := hide9 hO3
  have HO4 := hide9 hO4
  have HE := hide9 hw0
  have HN1 := hide9 ebb
  have HN2 := hide9 ekb
  have HN3 := hide9 erb
  have HN4 := hide9 eob
  clear fa fb ha hb hb2 hs2 hw0 hO0 hO1 hO2 hO3 hO4
  have hro : Fence.wide.round = none := rfl
  have h1n : 1 ≤ n0 := by omega
  refine callsIn_of_wp_marksD Try.func10 rfl trivial ?_ hro
  simp only [Try.ntmps10, List.size_toArray, List.length_cons, List.length_nil, Nat.reduceAdd, Nat.reduceSub, Array.replicate_succ, Array.replicate_zero, List.push_toArray, List.append_toArray, List.nil_append, List.cons_append]
  have Y1 := HO0.out
  have Y2 := HO1.out
  rw [HE.out] at Y1
  rw [HE.out, ebb] at Y2
  obtain ⟨y0, y1, y2, y3, y4, y5⟩ := row6d Y1
  obtain ⟨z0, z1, z2, z3, z4, z5⟩ := row6d Y2
  gi_wp2_with fail
  clear y0 y1 y2 y3 y4 y5 z0 z1 z2 z3 z4 z5 Y1 Y2
  rw [← HE.out]
  (try rw [show w.heap.size + 1 + 1 + 1 + 1 = ob by omega])
  (try rw [show w.heap.size + 1 + 1 + 1 = rb by omega])
  (try rw [show w.heap.size + 1 + 1 = kb by omega])
  (try rw [show w.heap.size + 4 = ob by omega])
  (try rw [show w.heap.size + 3 = rb by omega])
  (try rw [show w.heap.size + 2 = kb by omega])
  (try rw [show w.heap.size + 1 = bb by omega])
  clear HE ebb ekb erb eob
  refine ⟨trivial, ?_⟩
  refine (callsIn_wide.2 (dcheck_any _ a b _ _ _ HA.out HB.out hsa hba hsb hbb)).mono ?_
  rintro e w1 ⟨rfl, hb1⟩
  obtain ⟨cy, ecy⟩ : ∃ x, x = whyD a b := ⟨_, rfl⟩
  rw [← ecy]
  have Hcy := hide9 ecy
  clear ecy HA HB
  replace HO0 := hide9 ((hb1.block _ (row_lt HO0.out)).trans HO0.out)
  replace HO1 := hide9 ((hb1.block _ (row_lt HO1.out)).trans HO1.out)
  replace HO2 := hide9 ((hb1.block _ (row_lt HO2.out)).trans HO2.out)
  replace HO3 := hide9 ((hb1.block _ (row_lt HO3.out)).trans HO3.out)
  replace HO4 := hide9 ((hb1.block _ (row_lt HO4.out)).trans HO4.out)
  replace HFa := hide9 (HFa.out.below hb1)
  replace HFb := hide9 (HFb.out.below hb1)
  replace HL := hide9 (HL.out.trans (hb1.mono HL.out.size))
  have Hs1 : Hid (w.heap.size + 5 ≤ w1.heap.size) := (by show _ ≤ _; have h1 := hb1.size; have h2 := Hsz.out; omega)
  clear hb1 Hsz
  by_cases hy : cy = 0
  · subst hy
    have Hwy : Hid (whyD a b = 0) := Hcy.out.symm
    clear Hcy
    gi_wp2_with fail
    refine ⟨trivial, ?_⟩
    refine (callsIn_wide.2 (spots_any bb _)).mono ?_
    rintro e W2 ⟨rfl, hw2⟩
    obtain ⟨pb, epb⟩ : ∃ n, n = w1.heap.size := ⟨_, rfl⟩
    rw [← epb]
    have hb2 : Below w1.heap.size w1 W2 := (by rw [hw2]; exact (Below.refl _ _).alloc (Nat.le_refl _) _)
    have hs2 : W2.heap.size = pb + 1 := (by rw [hw2, epb]; simp)
    have hPb : W2.heap[pb]? = some (.cells #[.pointer (some ⟨bb, 0, none⟩)] 51) := (by rw [hw2, epb]; exact heap_alloc_new _ _)
    have hO0 := (hb2.block _ (row_lt HO0.out)).trans HO0.out
    have hO1 := (hb2.block _ (row_lt HO1.out)).trans HO1.out
    have hO2 := (hb2.block _ (row_lt HO2.out)).trans HO2.out
    have hO3 := (hb2.block _ (row_lt HO3.out)).trans HO3.out
    have hO4 := (hb2.block _ (row_lt HO4.out)).trans HO4.out
    obtain ⟨S, eS⟩ : ∃ S : Nat → Prop, S = fun k => k < W2.heap.size ∧ k ≠ rb ∧ k ≠ ob := ⟨_, rfl⟩
    have hs1 := Hs1.out
    have n1_ := HN1.out
    have n2_ := HN2.out
    have n3_ := HN3.out
    have n4_ := HN4.out
    have HG : Hid (∀ k, k < w.heap.size → k ≠ rb ∧ k ≠ ob) := (fun k q => ⟨by omega, by omega⟩)
    have hSl : ∀ k, S k → k < W2.heap.size := fun k q => by (rw [eS] at q; exact q.1)
    have hS0 : ∀ k, k < w1.heap.size → k ≠ rb → k ≠ ob → S k := fun k q q2 q3 => by (rw [eS]; exact ⟨by omega, q2, q3⟩)
    have hnr : ¬ S rb := fun q => by (rw [eS] at q; exact q.2.1 rfl)
    have hno : ¬ S ob := fun q => by (rw [eS] at q; exact q.2.2 rfl)
    have hSa : S w.heap.size := hS0 _ (by omega) (by omega) (by omega)
    have hSb : S bb := hS0 _ (by omega) (by omega) (by omega)
    have hSk : S kb := hS0 _ (by omega) (by omega) (by omega)
    have hGa : FdIs S W2 (.slice aa a.at_.length ca) (.slice ak a.ks.length da) a.at_ a.ks := HFa.out.turn hb2.size fun k q l => ⟨hS0 k l (HG.out k q).1 (HG.out k q).2, hb2.block k l⟩
    have hGb : FdIs S W2 (.slice ba b.at_.length cb) (.slice bk b.ks.length db) b.at_ b.ks := HFb.out.turn hb2.size fun k q l => ⟨hS0 k l (HG.out k q).1 (HG.out k q).2, hb2.block k l⟩
    have hva : VAt S W2 a w.heap.size 0 := row_vat hO0 hGa
    have hvb : VAt S W2 b bb 0 := row_vat hO1 hGb
    have HSq := spots_seq (n0 - 1) S W2.heap.size pb bb b W2 hSl (Nat.le_refl _) (by rw [cell_of_row _ _ _ _ _ _ hPb]; rfl) hvb hSb
    obtain ⟨xs, exs⟩ : ∃ xs, xs = flatS W2 b (0, 0) 0 bb 0 := ⟨_, rfl⟩
    rw [← exs] at HSq
    have HA0 : RnS w W2 S (B2 rb (.int .i64 0) 3 ob (.int .i64 0) 32) W2 := RnS.mk2 hO3 hO4 (HL.out.trans (hb2.mono HL.out.size)) hSl hnr hno (by omega) (by omega)
    have HVa : Hid (S w.heap.size ∧ VAt S W2 a w.heap.size 0) := ⟨hSa, hva⟩
    have HK2 : Hid (S kb ∧ W2.cell? ⟨kb, 0, none⟩ = some (.int .i64 s.1) ∧ W2.cell? ⟨kb, 1, none⟩ = some (.int .i64 s.2)) := ⟨hSk, by rw [cell_of_row _ _ _ _ _ _ hO2]; rfl, by rw [cell_of_row _ _ _ _ _ _ hO2]; rfl⟩
    have HAt : Hid (∀ x ∈ xs, VAt S W2 x.t x.b x.o ∧ S x.b) := (by rw [exs]; exact flatS_at hvb hSb)
    have HXs := hide9 exs
    have Hne : Hid (rb ≠ ob ∧ ob ≠ rb) := (by show _ ∧ _; omega)
    have HSl := hide9 hSl
    clear exs eS hS0 hSa hSb hSk hnr hno hva hvb hGa hGb hPb hO0 hO1 hO2 hO3 hO4 hb2 hs2 hw2 epb HFa HFb HL HO0 HO1 HO2 HO3 HO4 hs1 n1_ n2_ n3_ n4_ HN1 HN2 HN3 HN4
    gi_wp2
    refine range_K h1n (gf := 27) (lb := #[.pointer (some ⟨pb, 0, none⟩)]) rfl (enters_of Try.func27 (by kernel_rfl) rfl) HSq KpS.trans (fun W l o o' hl ho hc _ => KpS.obj (fun q => by have := hSl l q; omega) ho hc) (Below.refl _ _) (fun _ => rfl)
      (fun k W => RnS w W2 S (B2 rb (.int .i64 0) 3 ob (.int .i64 0) 32) W ∧ (xs.take k).find? (fun x => decide (x.t.k = s)) = none) (fun c k W => c = .ret ∧ ∃ n : Nat, shfD a b s = ((n : Int), 0) ∧ RnS w W2 S (B2 rb (.int .i64 (n : Int)) 3 ob (.int .i64 0) 32) W)
      (fun k A B row h1 hg hr => ⟨h1.1.grown hg hr, h1.2⟩) (fun c k A B row hf hg hr => ⟨hf.1, by obtain ⟨n, q1, q2⟩ := hf.2; exact ⟨n, q1, q2.grown hg hr⟩⟩) ⟨HA0, rfl⟩
      (fun x a' W => ∃ sb, SbX W2 sb x W ∧ a' = { tmps := #[.agg #[.int .i64 a.k.1, .int .i64 a.k.2, .string a.tg, .string a.tx, .slice aa a.at_.length ca, .slice ak a.ks.length da], .agg #[.int .i64 b.k.1, .int .i64 b.k.2, .string b.tg, .string b.tx, .slice ba b.at_.length cb, .slice bk b.ks.length db], .agg #[.int .i64 s.1, .int .i64 s.2], .pointer (some ⟨w.heap.size, 0, none⟩), .pointer (some ⟨bb, 0, none⟩), .pointer (some ⟨kb, 0, none⟩), .pointer (some ⟨rb, 0, none⟩), .pointer (some ⟨ob, 0, none⟩), .int .i64 0, .pointer (some ⟨sb, 0, none⟩), .agg #[.int .i64 a.k.1, .int .i64 a.k.2, .string a.tg, .string a.tx, .slice aa a.at_.length ca, .slice ak a.ks.length da], .agg #[.int .i64 b.k.1, .int .i64 b.k.2, .string b.tg, .string b.tx, .slice ba b.at_.length cb, .slice bk b.ks.length db], .int .i64 0, .int .i64 0, .bool false, undef, .func (.func 27) #[] #[.pointer (some ⟨pb, 0, none⟩)], .agg #[.pointer (some ⟨x.b, x.o, none⟩), .int .i64 x.a.1, .int .i64 x.a.2, .int .i64 (x.i : Int)], undef, undef, undef, undef, undef, undef, undef, undef, undef, undef, undef, undef], defers := [] }) (fun x a' u A B row ⟨sb, h1, h5⟩ hg hr => ⟨sb, h1.grown hg (fun r e => (hr r e).2), h5⟩) ?assign ?body ?done ?stop
    clear HA0
    case assign =>
      rintro l k hk W K ⟨hA, hF9⟩ hK
      obtain ⟨x, ex⟩ : ∃ x, x = xs[k] := ⟨_, rfl⟩
      rw [← ex] at hK ⊢
      clear ex
      have Hz : Hid ((W.alloc (.cells #[.pointer none, .int .i64 0, .int .i64 0, .int .i64 0] 57)).heap[W.heap.size]? = some (.cells #[.pointer none, .int .i64 0, .int .i64 0, .int .i64 0] 57)) := heap_alloc_new _ _
      obtain ⟨Wn, eW⟩ : ∃ X, X = (W.alloc (.cells #[.pointer none, .int .i64 0, .int .i64 0, .int .i64 0] 57)).setRow W.heap.size #[.pointer (some ⟨x.b, x.o, none⟩), .int .i64 x.a.1, .int .i64 x.a.2, .int .i64 (x.i : Int)] := ⟨_, rfl⟩
      have hb : Below W.heap.size W Wn := (by rw [eW]; exact ((Below.refl _ _).alloc (Nat.le_refl _) _).grown (grown_setRow _ _ _) (by simp) (fun k e => by cases e; exact Nat.le_refl _))
      obtain ⟨sb, esb⟩ : ∃ n, n = W.heap.size := ⟨_, rfl⟩
      have hsx : SbX W2 sb x Wn := ⟨by rw [eW, esb]; exact setRow_same Hz.out, by rw [esb]; exact hA.kp.1⟩
      have HFin : Hid (∀ a' : Act, _ → K a' Wn) := fun a' ha => hK a' Wn (keepsFrom_below hb) (KpS.of_below hb (fun k q => Nat.lt_of_lt_of_le (hA.sl k q) hA.kp.1)) (⟨hA.below hb, hF9⟩) ⟨sb, hsx, ha⟩
      have HEw := hide9 (And.intro eW esb)
      clear hK hb hsx eW esb hA hF9
      simp only [encS] at *
      gi_wp2_with (refine wpListIn_store_rowS rfl 57 (.tmp 9) (.tmp 17) rfl W.heap.size 57 #[.pointer none, .int .i64 0, .int .i64 0, .int .i64 0] #[.pointer (some ⟨x.b, x.o, none⟩), .int .i64 x.a.1, .int .i64 x.a.2, .int .i64 (x.i : Int)] rfl rfl Hz.out sizeSp rfl (by simp [Value.oneCell']) ?_)
      rw [← HEw.out.1, ← HEw.out.2]
      exact HFin.out _ rfl
    case body =>
      rintro l k hk a' W hlD ⟨hrn, hfn⟩ ⟨sb, hsx, rfl⟩
      obtain ⟨hxv, hxS⟩ := HAt.out xs[k] (List.getElem_mem hk)
      have hnx : (xs.take (k + 1)).find? (fun x => decide (x.t.k = s)) = if xs[k].t.k = s then some xs[k] else none := (by rw [List.take_succ_eq_append_getElem hk, List.find?_append, hfn]; simp only [Option.none_or, List.find?_cons, List.find?_nil]; split <;> simp_all)
      have hxm : xs[k] ∈ xs := List.getElem_mem hk
      obtain ⟨x, ex⟩ : ∃ x, x = xs[k] := ⟨_, rfl⟩
      rw [← ex] at hxv hxS hnx hsx hxm ⊢
      have HNx := hide9 hnx
      have HC : Hid (RnS w W2 S (B2 rb (.int .i64 0) 3 ob (.int .i64 0) 32) W) := hrn
      have HC0 : Hid (RnS w W2 S (B2 rb (.int .i64 0) 3 ob (.int .i64 0) 32) W) := hrn
      have HSb : Hid (SbX W2 sb x W) := hsx
      have HSb0 : Hid (SbX W2 sb x W) := hsx
      have HXv : Hid (VAt S W2 x.t x.b x.o ∧ S x.b) := ⟨hxv, hxS⟩
      have HXm : Hid (x ∈ xs) := hxm
      obtain ⟨_, _, _, _, kc0, kc1, _⟩ := hxv.cells
      have HX2 : Hid (W2.cell? ⟨x.b, x.o, none⟩ = some (.int .i64 x.t.k.1) ∧ W2.cell? ⟨x.b, x.o + 1, none⟩ = some (.int .i64 x.t.k.2)) := ⟨kc0, kc1⟩
      have HKf : Hid (KeepsFrom W2.heap.size W W) := KeepsFrom.refl _ _
      have HKp : Hid (KpS S W2.heap.size W W) := KpS.refl _ _ _
      clear hxv hxS hnx ex kc0 kc1 hrn hfn hsx hxm
      obtain ⟨eb, heb⟩ : ∃ v : Bool, decide ((x.t.k.1, x.t.k.2) = (s.1, s.2)) = v := ⟨_, rfl⟩
      have hq : ∀ w9 : World, (binOp .eql 23 (.agg #[.int .i64 x.t.k.1, .int .i64 x.t.k.2]) (.agg #[.int .i64 s.1, .int .i64 s.2])).run Try.prog w9 = .ok (.bool eb) w9 := fun w9 => by rw [eqlSt, heb]
      gi_wp2
      refine region_round_held (S := fun W' => KeepsS (fun k => S k ∨ k = sb) W W') l (by kernel_rfl) (by kernel_rfl) (lets_then (lets_block lets_roundK)) (KeepsS.of_below (Below.refl W.heap.size W).drew (fun k q => by rcases q with q | rfl; exact Nat.lt_of_lt_of_le (HC0.out.sl k q) HC0.out.kp.1; exact row_lt HSb0.out.1)) (fun hHeld => ?_)
      obtain ⟨Uq1u0, eW⟩ : ∃ X, X = W.drew := ⟨_, rfl⟩
      have hb : Below W.heap.size W Uq1u0 := by rw [eW]; exact (Below.refl _ _).drew
      replace HC : Hid (RnS w W2 S (B2 rb (.int .i64 0) 3 ob (.int .i64 0) 32) Uq1u0) := HC.out.below hb
      replace HSb : Hid (SbX W2 sb x Uq1u0) := HSb.out.below hb
      replace HKf : Hid (KeepsFrom W2.heap.size W Uq1u0) := HKf.out.trans (keepsFrom_below hb)
      replace HKp : Hid (KpS S W2.heap.size W Uq1u0) := HKp.out.trans (KpS.of_below hb (fun k q => Nat.lt_of_lt_of_le (HC0.out.sl k q) HC0.out.kp.1))
      rw [← eW] at hHeld ⊢
      clear eW hb
      refine tkW 0 (some 18) (v := ?_) ?_ hHeld ?_
      rotate_left
      · (intro ww _; go_simp; try with_reducible rfl)
      refine tkW 1 (some 19) (v := ?_) ?_ hHeld ?_
      rotate_left
      · (intro ww hSw; (try dsimp only at hSw); obtain ⟨z0, z1, z2, z3⟩ := row4 ((hSw.2 sb (.inr rfl)).trans HSb0.out.1); go_simp; try with_reducible rfl)
      refine tkW 2 (some 20) (v := ?_) ?_ hHeld ?_
      rotate_left
      · (intro ww hSw; (try dsimp only at hSw); go_simp; try with_reducible rfl)
      refine tkW 3 (some 21) (v := ?_) ?_ hHeld ?_
      rotate_left
      · (intro ww _; go_simp; try with_reducible rfl)
      refine tkW 4 (some 22) (v := ?_) ?_ hHeld ?_
      rotate_left
      · (intro ww hSw; (try dsimp only at hSw); have q6 : ww.cell? ⟨x.b, x.o, none⟩ = some (.int .i64 x.t.k.1) := (hSw.cell (p := ⟨x.b, x.o, none⟩) (.inl HXv.out.2)).trans ((HC0.out.kp.cell (p := ⟨x.b, x.o, none⟩) HXv.out.2).trans HX2.out.1); have q7 : ww.cell? ⟨x.b, x.o + 1, none⟩ = some (.int .i64 x.t.k.2) := (hSw.cell (p := ⟨x.b, x.o + 1, none⟩) (.inl HXv.out.2)).trans ((HC0.out.kp.cell (p := ⟨x.b, x.o + 1, none⟩) HXv.out.2).trans HX2.out.2); go_simp; try with_reducible rfl)
      refine tkW 5 (some 23) (v := ?_) ?_ hHeld ?_
      rotate_left
      · (intro ww hSw; (try dsimp only at hSw); have q0 : ww.cell? ⟨kb, 0, none⟩ = some (.int .i64 s.1) := (hSw.cell (p := ⟨kb, 0, none⟩) (.inl HK2.out.1)).trans ((HC0.out.kp.cell (p := ⟨kb, 0, none⟩) HK2.out.1).trans HK2.out.2.1); have q1 : ww.cell? ⟨kb, 1, none⟩ = some (.int .i64 s.2) := (hSw.cell (p := ⟨kb, 1, none⟩) (.inl HK2.out.1)).trans ((HC0.out.kp.cell (p := ⟨kb, 1, none⟩) HK2.out.1).trans HK2.out.2.2); go_simp; try with_reducible rfl)
      refine tkW 6 (some 24) (v := ?_) ?_ hHeld ?_
      rotate_left
      · (intro ww hSw; (try dsimp only at hSw); go_simp; try with_reducible rfl)
      refine wpAnyH_done (by kernel_rfl) ?_ _
      clear hHeld hq
      obtain ⟨WA, eWA⟩ : ∃ X, X = Uq1u0 := ⟨_, rfl⟩
      rw [← eWA] at HC HSb HKf HKp ⊢
      clear eWA
      cases eb with
      | false =>
        have hky : ¬ x.t.k = s := fun e => (of_decide_eq_false heb) (by rw [e])
        have HN2 : Hid ((xs.take (k + 1)).find? (fun x => decide (x.t.k = s)) = none) := HNx.out.trans (if_neg hky)
        clear hky heb
        gi_wp2
        exact ⟨HKf.out, HKp.out, HC.out, HN2.out⟩
      | true =>
        have hky : x.t.k = s := (by have h9 := of_decide_eq_true heb; exact Prod.ext (congrArg Prod.fst h9) (congrArg Prod.snd h9))
        clear heb
        have Hky := hide9 hky
        clear hky
        obtain ⟨f1, f2, f3⟩ := why_right Hwy.out
        have Hra : Hid (((flT a).map VT.k).Nodup) := right_nodup f1
        have hxm := HXm.out
        rw [HXs.out] at hxm
        have hxt := sd_flT hxm
        have hshd : shD a b x.t = shL (flatS W2 a (0, 0) 0 w.heap.size 0) x.t := (shL_doc (right_nodup f1) (right_nodup f2) f3 hxm).symm
        have hsf : ∀ n : Nat, n = (shD a b x.t).length → shfD a b s = ((n : Int), 0) := fun n e => (by unfold shfD; have h1 : hasT b s = true := (by rw [← Hky.out]; exact hasT_of hxm); have h2 : wasT b s = x.t := (by unfold wasT; rw [← Hky.out, fnd_of (right_nodup f2) hxt]; rfl); rw [Hwy.out, if_neg (by simp), h1, if_pos rfl, h2, e])
        have hnd := shD_nodup (a := a) (b := b) (right_nodup f1) (right_nodup f2) f3 hxt
        have hkl : x.t.ks.length ≤ 1048576 := (by have h1 := flT_sz hxt; have h2 := szs_len x.t.ks; have h3 := x.t.sz_eq; omega)
        have Hshd := hide9 hshd
        have Hsf := hide9 hsf
        have Hnd := hide9 hnd
        have Hkl := hide9 hkl
        clear hshd hsf hnd hkl f1 f2 f3 hxm hxt
        have HC1 : Hid (RnS w W2 S (B2 rb (.int .i64 0) 3 ob (.int .i64 0) 32) WA) := HC
        have HSb1 := HSb
        gi_wp2
        refine region_round_held (S := fun W' => KeepsS (fun k => S k ∨ k = sb) WA W') l (by kernel_rfl) (by kernel_rfl) (lets_then (lets_block lets_roundK)) (KeepsS.of_below (Below.refl WA.heap.size WA).drew (fun k q => by rcases q with q | rfl; exact Nat.lt_of_lt_of_le (HC1.out.sl k q) HC1.out.kp.1; exact row_lt HSb1.out.1)) (fun hHeld => ?_)
        obtain ⟨Ur2u0, eW⟩ : ∃ X, X = WA.drew := ⟨_, rfl⟩
        have hb : Below WA.heap.size WA Ur2u0 := by rw [eW]; exact (Below.refl _ _).drew
        replace HC : Hid (RnS w W2 S (B2 rb (.int .i64 0) 3 ob (.int .i64 0) 32) Ur2u0) := HC.out.below hb
        replace HSb : Hid (SbX W2 sb x Ur2u0) := HSb.out.below hb
        replace HKf : Hid (KeepsFrom W2.heap.size W Ur2u0) := HKf.out.trans (keepsFrom_below hb)
        replace HKp : Hid (KpS S W2.heap.size W Ur2u0) := HKp.out.trans (KpS.of_below hb (fun k q => Nat.lt_of_lt_of_le (HC1.out.sl k q) HC1.out.kp.1))
        rw [← eW] at hHeld ⊢
        clear eW hb
        refine tkW 1 (some 26) (v := ?_) ?_ hHeld ?_
        rotate_left
        · (intro ww _; go_simp; try with_reducible rfl)
        refine tkW 2 (some 27) (v := ?_) ?_ hHeld ?_
        rotate_left
        · (intro ww hSw; (try dsimp only at hSw); obtain ⟨z0, z1, z2, z3⟩ := row4 ((hSw.2 sb (.inr rfl)).trans HSb1.out.1); go_simp; try with_reducible rfl)
        refine wpAnyH_ready (rs := [0]) (by kernel_rfl) (by simp) ?_
        refine AllReadyH.cons (o := ⟨some 25, _, _, _, _, _⟩) rfl (fun K hK => ?_) AllReadyH.nil
        go_simp
        refine (spotsOf_any S a w.heap.size _ (HVa.out.2.turn HC.out.kp.1 (fun k q l => ⟨q, HC.out.kp.2 k q⟩) (HC.out.kp.2 _ HVa.out.1)) Hra.out).mono ?_
        rintro e Ur2u1 ⟨mb, rfl, hm, hmb, hb⟩
        have hkp : KeepsS (fun k => S k ∨ k = sb) WA Ur2u1 := hHeld.trans (KeepsS.of_below hb (fun j q => by rcases q with q | rfl; exact Nat.lt_of_lt_of_le (HC.out.sl j q) HC.out.kp.1; exact row_lt HSb.out.1))
        have HM : Hid (MpS Ur2u1 mb (flatS Ur2u0 a (0, 0) 0 w.heap.size 0)) := hm
        replace HKf := hide9 (HKf.out.trans (keepsFrom_below hb))
        replace HKp := hide9 (HKp.out.trans (KpS.of_below hb (fun k q => Nat.lt_of_lt_of_le (HC.out.sl k q) HC.out.kp.1)))
        have HSm : Hid (flatS Ur2u0 a (0, 0) 0 w.heap.size 0 = flatS W2 a (0, 0) 0 w.heap.size 0) := flatS_kept HVa.out.2 HC.out.kp HVa.out.1 (0, 0) 0
        replace HC := hide9 (HC.out.below hb)
        replace HSb := hide9 (HSb.out.below hb)
        clear hm hmb hb
        (try go_wp2_with fail)
        refine hK.out _ _ (hkp) (fun hHeld2 => ?_)
        clear hK K hHeld
        have hHeld := hHeld2
        clear hHeld2
        (try simp only [Act.put, List.setIfInBounds_toArray, List.set_cons_zero, List.set_cons_succ])
        clear hkp
        refine wpAnyH_ready (rs := [3]) (by kernel_rfl) (by simp) ?_
        refine AllReadyH.cons (o := ⟨some 28, _, _, _, _, _⟩) rfl (fun K hK => ?_) AllReadyH.nil
        go_simp
        refine (shifted_any S _ mb x.b x.o x.t _ HM.out (HXv.out.1.turn HC.out.kp.1 (fun k q l => ⟨q, HC.out.kp.2 k q⟩) (HC.out.kp.2 _ HXv.out.2)) Hkl.out).mono ?_
        rintro e Ur2u2 ⟨ub, L, rfl, hmL, hnL, hL, _, hb⟩
        have hkp : KeepsS (fun k => S k ∨ k = sb) WA Ur2u2 := hHeld.trans (KeepsS.of_below hb (fun j q => by rcases q with q | rfl; exact Nat.lt_of_lt_of_le (HC.out.sl j q) HC.out.kp.1; exact row_lt HSb.out.1))
        have HLn : Hid (shfD a b s = ((L.length : Int), 0)) := Hsf.out L.length (len_mem hnL Hnd.out (fun s => by rw [hL s, HSm.out, Hshd.out]))
        have HML := hide9 hmL
        replace HKf := hide9 (HKf.out.trans (keepsFrom_below hb))
        replace HKp := hide9 (HKp.out.trans (KpS.of_below hb (fun k q => Nat.lt_of_lt_of_le (HC.out.sl k q) HC.out.kp.1)))
        replace HC := hide9 (HC.out.below hb)
        replace HSb := hide9 (HSb.out.below hb)
        clear hmL hnL hL hb
        (try go_wp2_with fail)
        refine hK.out _ _ (hkp) (fun hHeld2 => ?_)
        clear hK K hHeld
        have hHeld := hHeld2
        clear hHeld2
        (try simp only [Act.put, List.setIfInBounds_toArray, List.set_cons_zero, List.set_cons_succ])
        clear hkp
        refine wpAnyH_ready (rs := [4]) (by kernel_rfl) (by simp) ?_
        refine AllReadyH.cons (o := ⟨some 29, _, _, _, _, _⟩) rfl (fun K hK => ?_) AllReadyH.nil
        obtain ⟨es, cl, hes, hsz⟩ := map_len HML.out
        have hln := run_len_map (P := Try.prog) (w := Ur2u2) 63 3 ub es cl (by rfl) hes
        rw [hsz] at hln
        go_simp
        refine hK.out _ _ (hHeld) (fun hHeld2 => ?_)
        clear hK K hHeld
        have hHeld := hHeld2
        clear hHeld2
        (try simp only [Act.put, List.setIfInBounds_toArray, List.set_cons_zero, List.set_cons_succ])
        clear hln hes hsz
        refine wpAnyH_ready (rs := [5]) (by kernel_rfl) (by simp) ?_
        refine AllReadyH.cons (o := ⟨none, _, _, _, _, _⟩) rfl (fun K hK => ?_) AllReadyH.nil
        have q0 := HC.out.cell (B2.at1 _ _ _ _ _ _)
        have q1 := HC.out.free (B2.at1 _ _ _ _ _ _)
        have hkn3 := rnS_kp HC.out (B2.at1 _ _ _ _ _ _) (.int .i64 (L.length : Int))
        have hC9 := HC.out.set (B2.at1 _ _ _ _ _ _) (.int .i64 (L.length : Int))
        rw [B2.set1] at hC9
        have hkp : KeepsS (fun k => S k ∨ k = sb) WA (Ur2u2.setCell ⟨rb, 0, none⟩ (.int .i64 (L.length : Int))) := hHeld.trans ⟨hkn3.1, fun j q => by rcases q with q | rfl; exact hkn3.2 j (.inl q); exact hkn3.2 _ (.inr ⟨HSb.out.2, _, _, _, HSb.out.1, .inr rfl⟩)⟩
        replace HKf := hide9 (HKf.out.trans (rnS_kf HC.out (B2.at1 _ _ _ _ _ _) (.int .i64 (L.length : Int))))
        replace HKp := hide9 (HKp.out.trans hkn3)
        replace HSb := hide9 (HSb.out.kp hkn3)
        replace HC := hide9 hC9
        clear hkn3 hC9
        go_simp
        refine hK.out _ _ (hkp) (fun hHeld2 => ?_)
        clear hK K hHeld
        have hHeld := hHeld2
        clear hHeld2
        (try simp only [Act.put, List.setIfInBounds_toArray, List.set_cons_zero, List.set_cons_succ])
        clear q0 q1 hkp
        refine wpAnyH_ready (rs := [6]) (by kernel_rfl) (by simp) ?_
        refine AllReadyH.cons (o := ⟨none, _, _, _, _, _⟩) rfl (fun K hK => ?_) AllReadyH.nil
        have q0 := HC.out.cell (B2.at2 Hne.out.1 _ _ _ _)
        have q1 := HC.out.free (B2.at2 Hne.out.1 _ _ _ _)
        have hkn3 := rnS_kp HC.out (B2.at2 Hne.out.1 _ _ _ _) (.int .i64 0)
        have hC9 := HC.out.set (B2.at2 Hne.out.1 _ _ _ _) (.int .i64 0)
        rw [B2.set2 Hne.out.1] at hC9
        have hkp := hHeld.trans (show KeepsS (fun k => S k ∨ k = sb) _ _ from ⟨hkn3.1, fun j q => by rcases q with q | rfl; exact hkn3.2 j (.inl q); exact hkn3.2 _ (.inr ⟨HSb.out.2, _, _, _, HSb.out.1, .inr rfl⟩)⟩)
        replace HKf := hide9 (HKf.out.trans (rnS_kf HC.out (B2.at2 Hne.out.1 _ _ _ _) (.int .i64 0)))
        replace HKp := hide9 (HKp.out.trans hkn3)
        replace HC := hide9 hC9
        clear hkn3 hC9 HSb
        go_simp
        refine hK.out _ _ (hkp) (fun hHeld2 => ?_)
        clear hK K hHeld
        have hHeld := hHeld2
        clear hHeld2
        (try simp only [Act.put, List.setIfInBounds_toArray, List.set_cons_zero, List.set_cons_succ])
        clear q0 q1 hkp
        refine wpAnyH_done (by kernel_rfl) ?_ _
        clear hHeld
        gi_wp2
        exact ⟨HKf.out, HKp.out, rfl, L.length, HLn.out, HC.out⟩
    case done =>
      rintro Dd W hDd ⟨hA, hfn⟩ hDf
      rw [List.take_length] at hfn
      have HA := hide9 hA
      have Hfn := hide9 hfn
      have HDf := hide9 hDf
      clear hA hfn hDf
      have x0 := HA.out.cell (B2.at1 _ _ _ _ _ _)
      have x1 := HA.out.cell (B2.at2 Hne.out.1 _ _ _ _)
      have x2 := HA.out.free (B2.at1 _ _ _ _ _ _)
      have x3 := HA.out.free (B2.at2 Hne.out.1 _ _ _ _)
      have hne := Hne.out.1
      have hne2 := Hne.out.2
      gi_wp2
      skip
      have hR2 := HA.out.set (B2.at1 _ _ _ _ _ _) (.int .i64 0)
      rw [B2.set1] at hR2
      have hR3 := hR2.set (B2.at2 hne _ _ _ _) (.int .i64 4)
      rw [B2.set2 hne] at hR3
      have hk1 := (rnS_kf HA.out (B2.at1 _ _ _ _ _ _) (.int .i64 0)).trans (rnS_kf hR2 (B2.at2 hne _ _ _ _) (.int .i64 4))
      have hDg := hk1.same Dd _ hDd HDf.out rfl
      refine ⟨by simp, .inl ⟨_, _, rfl, run_takeDeferred hDg, ?_⟩⟩
      have hE := hR3.grown (grownBy_putObj' _ Dd (.deferred none)) (fun r e => by cases e; exact ⟨hDd, _, hDg, rfl⟩)
      exact ⟨_, results_ie rfl _ _ _ _ _ _ rfl rfl (hE.cell (B2.at1 _ _ _ _ _ _)) (hE.cell (B2.at2 Hne.out.1 _ _ _ _)), (by unfold shfD; have h1 : hasT b s = false := hasT_no (w := W2) (B := bb) (fun y hy e => by have h9 := Hfn.out; rw [List.find?_eq_none, HXs.out] at h9; exact h9 y hy (by simpa using e)); rw [Hwy.out, h1]; simp), hE.bel⟩
    case stop =>
      rintro D c k W hD hk ⟨rfl, n, hn9, hA⟩ hDf
      have HA := hide9 hA
      have HN9 := hide9 hn9
      have HDf := hide9 hDf
      clear hA hn9 hDf
      gi_wp2
      refine ⟨by simp, .inl ⟨_, _, rfl, run_takeDeferred HDf.out, ?_⟩⟩
      have hE := HA.out.grown (grownBy_putObj' W D (.deferred none)) (fun r e => by cases e; exact ⟨hD, _, HDf.out, rfl⟩)
      exact ⟨_, results_ie rfl _ _ _ _ _ _ rfl rfl (hE.cell (B2.at1 _ _ _ _ _ _)) (hE.cell (B2.at2 Hne.out.1 _ _ _ _)), (by rw [HN9.out]), hE.bel⟩
  · have Hy : Hid (cy ≠ 0) := hy
    have hR : RnS w w1 (fun k => k < w.heap.size) (B2 rb (.int .i64 0) 3 ob (.int .i64 0) 32) w1 := RnS.mk2 HO3.out HO4.out HL.out (fun k q => Nat.lt_of_lt_of_le q (by have := Hs1.out; omega)) (fun (q : rb < w.heap.size) => by have := HN3.out; omega) (fun (q : ob < w.heap.size) => by have := HN4.out; omega) (by have := HN3.out; omega) (by have := HN4.out; omega)
    have hne : rb ≠ ob := (by have := HN3.out; have := HN4.out; omega)
    have hR2 := hR.set (B2.at1 _ _ _ _ _ _) (.int .i64 0)
    rw [B2.set1] at hR2
    have hR3 := hR2.set (B2.at2 hne _ _ _ _) (.int .i64 cy)
    rw [B2.set2 hne] at hR3
    have HR3 := hide9 hR3
    have x0 := hR.cell (B2.at1 _ _ _ _ _ _)
    have x1 := hR.cell (B2.at2 hne _ _ _ _)
    have x2 := hR.free (B2.at1 _ _ _ _ _ _)
    have x3 := hR.free (B2.at2 hne _ _ _ _)
    have Hne : Hid (rb ≠ ob ∧ ob ≠ rb) := ⟨hne, hne.symm⟩
    clear hR hR2 hR3
    have hne2 := Hne.out.2
    gi_wp2
    exact ⟨_, results_ie rfl _ _ _ _ _ _ rfl rfl (HR3.out.cell (B2.at1 _ _ _ _ _ _)) (HR3.out.cell (B2.at2 Hne.out.1 _ _ _ _)), (by unfold shfD; rw [← Hcy.out, if_pos Hy.out]), HR3.out.bel⟩

theorem shifts_any (G : Nat → Prop) (a b : VT) (s : St) (va vb : Value) (w : World) (ha : VIs G w va a) (hb : VIs G w vb b) (hsa : a.sz ≤ 1048576) (hba : BnA a) (hsb : b.sz ≤ 1048576) (hbb : BnA b) :
    Calls Try.prog 10 #[va, vb, .agg #[.int .i64 s.1, .int .i64 s.2]] w fun e w' => e = .returned (.tuple #[.int .i64 (shfD a b s).1, .int .i64 (shfD a b s).2]) ∧ Below w.heap.size w w' := callsIn_wide.1 (shifts_in 6 (Nat.le_refl _) G a b s va vb w ha hb hsa hba hsb hbb)

end Go.Proofs.Ythhnglpkfcmjiab

namespace Go.Proofs.Ythhnglpkfcmjiab
open Go.RowKit Go.Shelf
set_option linter.unusedVariables false
set_option linter.unusedSimpArgs false

def isShf (K : List St) (p : Pa) : Bool := decide (p.kd = 5) && hasS K p.k
/-- How many steps shift one of these. -/
def cntS (K : List St) (l : List Pa) : Nat := (l.filter (isShf K)).length
theorem cntS_take {K : List St} {D : List Pa} {i : Nat} (h : i < D.length) : cntS K (D.take (i + 1)) = cntS K (D.take i) + (if isShf K D[i] = true then 1 else 0) := by
  unfold cntS
  rw [List.take_succ_eq_append_getElem h, List.filter_append, List.length_append]
  cases hp : isShf K D[i] <;> simp [hp]
theorem cntS_le (K : List St) (l : List Pa) : cntS K l ≤ l.length := by unfold cntS; exact List.length_filter_le ..
theorem plL_has {D : List Sd} {L : List St} {q : St} : ∀ (l : List VT) (s : St) {y : VT}, y ∈ l → ∃ s', ∀ p ∈ plK D L q s' y, p ∈ plL D L q s l
  | [], _, y, h => by simp at h
  | x :: r, s, y, h => by
    rw [plL]
    rcases List.mem_cons.1 h with rfl | h
    · exact ⟨s, fun p hp => List.mem_append_left _ hp⟩
    · obtain ⟨s', hs⟩ := plL_has r x.k h
      exact ⟨s', fun p hp => List.mem_append_right _ (hs p hp)⟩
theorem stL_one {D : List Sd} {p : St} {x : VT} {z : St × Int} (h : stL D p [x] = [z]) : ∃ y, getP skU D x.k = some y ∧ y.a = p := by
  unfold stL at h
  cases hg : getP skU D x.k with
  | none => simp [hg] at h
  | some y =>
    by_cases e : y.a = p
    · exact ⟨y, rfl, e⟩
    · simp [hg, e] at h
theorem hasS_mem {K : List St} {s : St} : hasS K s = true ↔ s ∈ K := by
  unfold hasS
  rw [List.any_eq_true]
  exact ⟨fun ⟨x, hx, e⟩ => by have : x = s := by simpa using e
                              exact this ▸ hx, fun h => ⟨s, h, by simp⟩⟩
theorem stK_mem {a b : VT} {ks : List VT} {s : St} (h : s ∈ stK a b ks) : ∃ y ∈ ks, y.k = s ∧ stdB a b s = true := by
  unfold stK at h
  obtain ⟨h1, h2⟩ := List.mem_filter.1 h
  obtain ⟨y, hy, e⟩ := List.mem_map.1 h1
  exact ⟨y, hy, e, h2⟩
section
variable {w : World} {a b : VT} {Ba Bb : Nat}
theorem shD_stK {n : VT} (hlen : (plD a b (wasT a n.k) n.ks).length = (stK a b n.ks).length) {s : St} (h : s ∈ shD a b n) : s ∈ stK a b n.ks := by
  unfold shD at h
  obtain ⟨p, hp, rfl⟩ := List.mem_map.1 h
  obtain ⟨i, ei, hi⟩ := oth_at _ _ _ p hp
  subst ei
  have hi2 : i < (stK a b n.ks).length := by omega
  simp only [Int.toNat_natCast, List.getD_eq_getElem?_getD, List.getElem?_eq_getElem hi2, Option.getD_some]
  exact List.getElem_mem hi2
theorem few_cnt (hna : ((flT a).map VT.k).Nodup) (hnb : ((flT b).map VT.k).Nodup) (hk : a.k = b.k) {x : Sd} (hx : x ∈ flatS w b (0, 0) 0 Bb 0) : cntS (stK a b x.t.ks) (ofL (flatS w a (0, 0) 0 Ba 0) (flatS w b (0, 0) 0 Bb 0)) = (shD a b x.t).length := by
  have hxt := sd_flT hx
  have hlen := plD_len hna hnb hk hxt
  have h1 : (((ofL (flatS w a (0, 0) 0 Ba 0) (flatS w b (0, 0) 0 Bb 0)).filter (isShf (stK a b x.t.ks))).map Pa.k).Nodup := by
    refine List.Nodup.sublist ?_ (ofL_once (w := w) (a := a) (Ba := Ba) (Bb := Bb) hnb)
    refine List.Sublist.map _ ?_
    have e : ∀ l : List Pa, l.filter (isShf (stK a b x.t.ks)) = (l.filter isPl).filter (isShf (stK a b x.t.ks)) := fun l => by
      rw [List.filter_filter]
      refine List.filter_congr fun p _ => ?_
      unfold isShf isPl
      by_cases h5 : p.kd = 5 <;> simp [h5]
    rw [e]
    exact List.filter_sublist
  have h2 := shD_nodup hna hnb hk hxt
  have h3 := len_mem h1 h2 fun s => by
    constructor
    · intro h
      obtain ⟨p, hp, rfl⟩ := List.mem_map.1 h
      obtain ⟨hp, hs⟩ := List.mem_filter.1 hp
      unfold isShf at hs
      simp only [Bool.and_eq_true, decide_eq_true_eq] at hs
      obtain ⟨h5, hs⟩ := hs
      rw [hasS_mem] at hs
      obtain ⟨y, hy, ey, hst⟩ := stK_mem hs
      have hpx := par_kid hnb hxt hy
      unfold ofL at hp
      rcases List.mem_append.1 hp with h | h
      · exfalso
        unfold lvL at h
        rcases List.mem_append.1 h with h | h
        · unfold eaL at h
          obtain ⟨z, _, rfl⟩ := List.mem_map.1 h
          exact absurd h5 (by simp [pK])
        · unfold eaL at h
          obtain ⟨z, _, rfl⟩ := List.mem_map.1 h
          exact absurd h5 (by simp [pK])
      · obtain ⟨n, hn, h⟩ := List.mem_flatMap.1 h
        unfold ofS at h
        rcases List.mem_append.1 h with h | h
        · rcases wrL_kd h with e | e | e | e <;> (rw [e] at h5; exact absurd h5 (by decide))
        · obtain ⟨z, hz, s', h⟩ := plL_mem _ _ h
          obtain ⟨hpk, hc⟩ := plK_sh h
          rcases hc with ⟨_, hm⟩ | ⟨q, _⟩
          · have hpn := par_kid hnb (sd_flT hn) hz
            rw [← hpk, ← ey, hpx] at hpn
            injection hpn with hpn _
            have e1 : n = x := sd_uniq (flat_nodup hnb) hn hx hpn.symm
            subst e1
            rw [shL_doc hna hnb hk hx, ← hpk] at hm
            exact hm
          · exact absurd h5 q
    · intro h
      have hs := shD_stK hlen h
      obtain ⟨y, hy, ey, hst⟩ := stK_mem hs
      subst ey
      rcases std_kid (w := w) (Ba := Ba) hna hnb hk hx hy with ⟨e, _⟩ | ⟨i, _, _, e⟩
      · rw [hst] at e; cases e
      · obtain ⟨z, hg, hz⟩ := stL_one e
        obtain ⟨s', hp⟩ := plL_has (D := flatS w a (0, 0) 0 Ba 0) (L := shL (flatS w a (0, 0) 0 Ba 0) x.t) (q := x.t.k) x.t.ks (0, 0) hy
        have hm : y.k ∈ shL (flatS w a (0, 0) 0 Ba 0) x.t := by rw [shL_doc hna hnb hk hx]; exact h
        refine List.mem_map.2 ⟨pH y.k s', List.mem_filter.2 ⟨?_, ?_⟩, rfl⟩
        · unfold ofL
          refine List.mem_append_right _ (List.mem_flatMap.2 ⟨x, hx, ?_⟩)
          unfold ofS
          refine List.mem_append_right _ (hp _ ?_)
          unfold plK
          rw [hg]
          simp only [if_pos hz, if_pos hm, List.mem_singleton]
        · unfold isShf
          rw [show (pH y.k s').k = y.k from rfl, hasS_mem.2 hs]
          rfl
  rw [List.length_map] at h3
  exact h3
theorem few_len {n : VT} (hlen : (plD a b (wasT a n.k) n.ks).length = (stK a b n.ks).length) : (shD a b n).length + (risL (plD a b (wasT a n.k) n.ks)).length = (stK a b n.ks).length := by
  have h1 := oth_sum (plD a b (wasT a n.k) n.ks)
  have h2 := (ris_ris (plD a b (wasT a n.k) n.ks)).2
  unfold shD
  rw [List.length_map]
  omega
theorem few_any {n : VT} (hlen : (plD a b (wasT a n.k) n.ks).length = (stK a b n.ks).length) {p : List Int} (h : isB (plD a b (wasT a n.k) n.ks) p = true) : (shD a b n).length + p.length ≤ (stK a b n.ks).length := by
  have h1 := few_len hlen
  have h2 := (risF_of_isB h).long
  have h3 := (ris_ris (plD a b (wasT a n.k) n.ks)).2
  omega
end

end Go.Proofs.Ythhnglpkfcmjiab

namespace Go.Proofs.Ythhnglpkfcmjiab
open Go.RowKit Go.Shelf
set_option linter.unusedVariables false
set_option linter.unusedSimpArgs false

attribute [local go_sem] Oper.semAt_some

/-- What stands while the nodes are gone through: both trees, the row of steps, the row of nodes, the places handed in. -/
structure EfS (w : World) (a b : VT) (CA CB : Array Value) (ab bb : Nat) (la : Option Addr) (D : List Pa) (al : Option Addr) (cl : Nat) (E : List (VT × Value × Value)) (vp : Value) (P : List Int) (W : World) : Prop where
  r1 : W.heap[ab]? = some (.cells CA 27)
  r2 : W.heap[bb]? = some (.cells CB 27)
  va : VIs (fun k => k < w.heap.size) W (.agg CA) a
  vb : VIs (fun k => k < w.heap.size) W (.agg CB) b
  ol : D = [] ∨ ∃ lg, la = some ⟨lg, 0, none⟩ ∧ (lg < W.heap.size ∧ ∀ i (h : i < D.length) (j : Nat) (u : Value), (paCells D[i])[j]? = some u → W.cell? ⟨lg, i * 9 + j, none⟩ = some u)
  ls : OwnVn 0 W (.slice al E.length cl) E
  fs : ∀ x ∈ E, FdIs (fun k => k < w.heap.size) W x.2.1 x.2.2 x.1.at_ x.1.ks
  ip : IsI W vp P
  bel : Below w.heap.size w W
section
variable {w W W' : World} {a b : VT} {CA CB : Array Value} {ab bb cl : Nat} {la al : Option Addr} {D : List Pa} {E : List (VT × Value × Value)} {vp : Value} {P : List Int}
theorem EfS.below (h : EfS w a b CA CB ab bb la D al cl E vp P W) (hb : Below W.heap.size W W') : EfS w a b CA CB ab bb la D al cl E vp P W' := ⟨(hb.block _ (row_lt h.r1)).trans h.r1, (hb.block _ (row_lt h.r2)).trans h.r2, h.va.below hb, h.vb.below hb, h.ol.imp id fun ⟨lg, h0, h2, h3⟩ => ⟨lg, h0, Nat.lt_of_lt_of_le h2 hb.size, fun i hi j u q => (World.cell?_of_block (hb.block _ h2)).trans (h3 i hi j u q)⟩, OwnE.below h.ls hb, fun x hx => (h.fs x hx).below hb, h.ip.below hb, h.bel.trans (hb.mono h.bel.size)⟩
end
theorem row_ef {B : Nat} {W : World} {v : Value} {D : List Pa} (h : OwnPa B W v D) : ∃ (la : Option Addr) (lc : Nat), v = .slice la D.length lc ∧ (D = [] ∨ ∃ lg, la = some ⟨lg, 0, none⟩ ∧ lg < W.heap.size ∧ ∀ i (h : i < D.length) (j : Nat) (u : Value), (paCells D[i])[j]? = some u → W.cell? ⟨lg, i * 9 + j, none⟩ = some u) := by
  obtain ⟨la, lc, e⟩ := OwnE.form h
  subst e
  refine ⟨la, lc, rfl, ?_⟩
  by_cases hD : D = []
  · exact .inl hD
  · right
    have h0 : 0 < D.length := by cases D with | nil => exact absurd rfl hD | cons _ _ => simp
    obtain ⟨g, cp, e1, _, _, _⟩ := OwnE.cells pzLen h h0
    injection e1 with e1 _ _
    subst e1
    refine ⟨g, rfl, (OwnE.lt h g rfl).2, fun i hi j u hj => ?_⟩
    obtain ⟨g2, cp2, e2, _, hc, _⟩ := OwnE.cells pzLen h hi
    injection e2 with e2 _ _
    injection e2 with e2
    injection e2 with e2 _ _
    subst e2
    exact hc j u hj
theorem ofL_lenf {a b : VT} (X : World) (Ba Bb : Nat) (hf : ((flT a).map VT.k).Nodup ∧ (a.sz ≤ 8192 ∧ b.sz ≤ 8192) ∧ (∀ x ∈ flT a, x.at_.length ≤ 4096) ∧ (∀ x ∈ flT b, x.at_.length ≤ 4096 ∧ x.ks.length ≤ 8192)) : (ofL (flatS X a (0, 0) 0 Ba 0) (flatS X b (0, 0) 0 Bb 0)).length ≤ 1048576000 := by
  obtain ⟨_, ⟨h1, h2⟩, h3, h4⟩ := hf
  have hA : ∀ y ∈ flatS X a (0, 0) 0 Ba 0, y.t.at_.length ≤ 4096 := fun y hy => h3 _ (by rw [← flatS_t X a (0, 0) 0 Ba 0]; exact List.mem_map.2 ⟨y, hy, rfl⟩)
  have hB : ∀ y ∈ flatS X b (0, 0) 0 Bb 0, y.t.at_.length ≤ 4096 ∧ y.t.ks.length ≤ 8192 := fun y hy => h4 _ (by rw [← flatS_t X b (0, 0) 0 Bb 0]; exact List.mem_map.2 ⟨y, hy, rfl⟩)
  have h5 := ofP_len hA _ hB
  have h6 := lvL_len (flatS X a (0, 0) 0 Ba 0) (flatS X b (0, 0) 0 Bb 0)
  rw [flatS_len] at h5 h6
  unfold ofL
  rw [List.length_append]
  omega
/-- What the law asks of a node. -/
structure FewP (a b : VT) (D : List Pa) (P : List Int) (n : VT) : Prop where
  cnt : cntS (stK a b n.ks) D = (shD a b n).length
  len : (shD a b n).length + (risL (plD a b (wasT a n.k) n.ks)).length = (stK a b n.ks).length
  pl : (plD a b (wasT a n.k) n.ks).length = (stK a b n.ks).length
  any : isB (plD a b (wasT a n.k) n.ks) P = true → (shD a b n).length + P.length ≤ (stK a b n.ks).length
  shf : shfD a b n.k = (((shD a b n).length : Int), 0)
theorem few_all {w : World} {a b : VT} {Ba Bb : Nat} (hy : whyD a b = 0) (P : List Int) : ∀ n ∈ flT b, FewP a b (ofL (flatS w a (0, 0) 0 Ba 0) (flatS w b (0, 0) 0 Bb 0)) P n := fun n hn => by
  obtain ⟨g1, g2, g3⟩ := why_right hy
  have h1 := right_nodup g1
  have h2 := right_nodup g2
  have hn2 := hn
  rw [← flatS_t w b (0, 0) 0 Bb 0] at hn2
  obtain ⟨x, hx, rfl⟩ := List.mem_map.1 hn2
  have hl := plD_len h1 h2 g3 hn
  refine ⟨few_cnt h1 h2 g3 hx, few_len hl, hl, few_any hl, ?_⟩
  unfold shfD
  have e1 : hasT b x.t.k = true := hasT_of hx
  have e2 : wasT b x.t.k = x.t := by unfold wasT; rw [fnd_of h2 hn]; rfl
  rw [hy, if_neg (by simp), if_pos e1, e2]

set_option maxRecDepth 100000 in
set_option maxHeartbeats 8000000 in
theorem diffFewest_walk (va : Value) (a : VT) (vb : Value) (b : VT) (vp : Value) (P : List Int) (w : World) (ha : VIs (fun _ => True) w va a) (hba : BnA a) (hsa : a.sz ≤ 1048576) (hb : VIs (fun _ => True) w vb b) (hbb : BnA b) (hsb : b.sz ≤ 1048576) (hp : IsI w vp P) :
    Calls Try.prog 3 #[va, vb, vp] w fun e w' => e = .returned (.bool true) ∧ Below w.heap.size w w' := by
  have HI : Hid (IsI w vp P) := hp
  clear hp
  have Hba := hide9 hba
  have Hbb := hide9 hbb
  replace ha := ha.turn (G' := fun k => k < w.heap.size) (Nat.le_refl _) fun k _ q => ⟨q, rfl⟩
  replace hb := hb.turn (G' := fun k => k < w.heap.size) (Nat.le_refl _) fun k _ q => ⟨q, rfl⟩
  obtain ⟨aa, ca, ak, da, e1, _⟩ := ha.form
  obtain ⟨ba, cb, bk, db, e2, _⟩ := hb.form
  subst e1 e2
  obtain ⟨W0, eW⟩ : ∃ X, X = (w.alloc (.cells #[.int .i64 a.k.1, .int .i64 a.k.2, .string a.tg, .string a.tx, .slice aa a.at_.length ca, .slice ak a.ks.length da] 27)).alloc (.cells #[.int .i64 b.k.1, .int .i64 b.k.2, .string b.tg, .string b.tx, .slice ba b.at_.length cb, .slice bk b.ks.length db] 27) := ⟨_, rfl⟩
  have hb0 : Below w.heap.size w W0 := (by rw [eW]; exact ((Below.refl _ _).alloc (Nat.le_refl _) _).alloc (by simp) _)
  have HR1 : Hid (W0.heap[w.heap.size]? = some (.cells #[.int .i64 a.k.1, .int .i64 a.k.2, .string a.tg, .string a.tx, .slice aa a.at_.length ca, .slice ak a.ks.length da] 27)) := (by show _ = _; rw [eW, Below.heap_alloc _ _ _ (by simp)]; exact heap_alloc_new _ _)
  have HR2 : Hid (W0.heap[w.heap.size + 1]? = some (.cells #[.int .i64 b.k.1, .int .i64 b.k.2, .string b.tg, .string b.tx, .slice ba b.at_.length cb, .slice bk b.ks.length db] 27)) := (by show _ = _; rw [eW]; have h9 := heap_alloc_new (w.alloc (.cells #[.int .i64 a.k.1, .int .i64 a.k.2, .string a.tg, .string a.tx, .slice aa a.at_.length ca, .slice ak a.ks.length da] 27)) (.cells #[.int .i64 b.k.1, .int .i64 b.k.2, .string b.tg, .string b.tx, .slice ba b.at_.length cb, .slice bk b.ks.length db] 27); rw [show (w.alloc (.cells #[.int .i64 a.k.1, .int .i64 a.k.2, .string a.tg, .string a.tx, .slice aa a.at_.length ca, .slice ak a.ks.length da] 27)).heap.size = w.heap.size + 1 by simp] at h9; exact h9)
  have HA : Hid (VIs (fun k => k < w.heap.size) W0 (.agg #[.int .i64 a.k.1, .int .i64 a.k.2, .string a.tg, .string a.tx, .slice aa a.at_.length ca, .slice ak a.ks.length da]) a) := ha.below hb0
  have HB : Hid (VIs (fun k => k < w.heap.size) W0 (.agg #[.int .i64 b.k.1, .int .i64 b.k.2, .string b.tg, .string b.tx, .slice ba b.at_.length cb, .slice bk b.ks.length db]) b) := hb.below hb0
  have HE := hide9 eW
  have HL := hide9 hb0
  clear eW hb0 ha hb
  go_enter Try.func3, Try.ntmps3
  go_upto_region 1 with fail
  rw [← HE.out]
  clear HE
  obtain ⟨y0, y1, y2, y3, y4, y5⟩ := row6d HR1.out
  obtain ⟨z0, z1, z2, z3, z4, z5⟩ := row6d HR2.out
  go_wp2_with fail
  clear y0 y1 y2 y3 y4 y5
  clear z0 z1 z2 z3 z4 z5
  refine (light_any _ _ a b _ _ _ HA.out HB.out hsa hsb).mono ?_
  rintro e w1 ⟨rfl, hb1⟩
  replace HL := hide9 (HL.out.trans (hb1.mono HL.out.size))
  replace HA := hide9 (HA.out.below hb1)
  replace HB := hide9 (HB.out.below hb1)
  replace HR1 := hide9 ((hb1.block _ (row_lt HR1.out)).trans HR1.out)
  replace HR2 := hide9 ((hb1.block _ (row_lt HR2.out)).trans HR2.out)
  clear hb1
  obtain ⟨lt, elt⟩ : ∃ x : Bool, x = (decide (a.sz ≤ 60) && decide (b.sz ≤ 60)) := ⟨_, rfl⟩
  rw [← elt]
  clear elt
  cases lt with
  | false =>
    clear HA HB HR1 HR2
    go_wp2_with fail
    refine (awakeD_any _).mono ?_
    rintro e w9 ⟨rfl, hb9⟩
    have HZ : Hid (Below w.heap.size w w9) := HL.out.trans (hb9.mono HL.out.size)
    clear hb9
    go_wp2
    (try rw [Exit.noGoto_ret])
    go_ret
    exact ⟨rfl, HZ.out⟩
  | true =>
    obtain ⟨y0, y1, y2, y3, y4, y5⟩ := row6d HR1.out
    obtain ⟨z0, z1, z2, z3, z4, z5⟩ := row6d HR2.out
    go_wp2_with fail
    clear y0 y1 y2 y3 y4 y5
    clear z0 z1 z2 z3 z4 z5
    refine (of_any _ a b _ _ _ HA.out HB.out hsa hba hsb hbb).mono ?_
    rintro e w2 ⟨v, c, rfl, hP, hb2⟩
    replace HL := hide9 (HL.out.trans (hb2.mono HL.out.size))
    replace HA := hide9 (HA.out.below hb2)
    replace HB := hide9 (HB.out.below hb2)
    replace HR1 := hide9 ((hb2.block _ (row_lt HR1.out)).trans HR1.out)
    replace HR2 := hide9 ((hb2.block _ (row_lt HR2.out)).trans HR2.out)
    clear hb2
    by_cases hy : whyD a b = 0
    · unfold OfP at hP
      rw [if_pos hy] at hP
      obtain ⟨rfl, X, Ba, Bb, ho⟩ := hP
      have hfe := few_all (w := X) (Ba := Ba) (Bb := Bb) hy P
      have hdl := ofL_lenf X Ba Bb (why_facts hy)
      obtain ⟨D, eD⟩ : ∃ D, D = ofL (flatS X a (0, 0) 0 Ba 0) (flatS X b (0, 0) 0 Bb 0) := ⟨_, rfl⟩
      rw [← eD] at ho hfe hdl
      have HFe := hide9 hfe
      clear hfe eD hy
      obtain ⟨la, lc, el, hol⟩ := row_ef ho
      subst el
      have HDl : Hid (D.length ≤ 1048576000) := hdl
      have hdl9 := HDl.out
      have Hol : Hid (D = [] ∨ ∃ lg, la = some ⟨lg, 0, none⟩ ∧ (lg < w2.heap.size ∧ ∀ i (h : i < D.length) (j : Nat) (u : Value), (paCells D[i])[j]? = some u → w2.cell? ⟨lg, i * 9 + j, none⟩ = some u)) := hol
      clear hol ho hdl
      obtain ⟨z0, z1, z2, z3, z4, z5⟩ := row6d HR2.out
      go_wp2_with fail
      clear z0 z1 z2 z3 z4 z5
      refine (flatN_any w.heap.size b _ _ HL.out.size HB.out hsb).mono ?_
      rintro e w3 ⟨ev, E, rfl, hE, hEm, hEf, hb3⟩
      obtain ⟨al, cl, ee⟩ := OwnE.form hE
      subst ee
      obtain ⟨CA, eCA⟩ : ∃ c : Array Value, c = #[.int .i64 a.k.1, .int .i64 a.k.2, .string a.tg, .string a.tx, .slice aa a.at_.length ca, .slice ak a.ks.length da] := ⟨_, rfl⟩
      obtain ⟨CB, eCB⟩ : ∃ c : Array Value, c = #[.int .i64 b.k.1, .int .i64 b.k.2, .string b.tg, .string b.tx, .slice ba b.at_.length cb, .slice bk b.ks.length db] := ⟨_, rfl⟩
      have HCA := hide9 eCA
      have HCB := hide9 eCB
      obtain ⟨ab, eab⟩ : ∃ n, n = w.heap.size := ⟨_, rfl⟩
      obtain ⟨bb, ebb⟩ : ∃ n, n = w.heap.size + 1 := ⟨_, rfl⟩
      replace HA := hide9 (HA.out.below hb3)
      replace HB := hide9 (HB.out.below hb3)
      replace HR1 := hide9 ((hb3.block _ (row_lt HR1.out)).trans HR1.out)
      replace HR2 := hide9 ((hb3.block _ (row_lt HR2.out)).trans HR2.out)
      have HS : Hid (EfS w a b CA CB ab bb la D al cl E vp P w3) := ⟨by rw [eab, eCA]; exact HR1.out, by rw [ebb, eCB]; exact HR2.out, by rw [eCA]; exact HA.out, by rw [eCB]; exact HB.out, Hol.out.imp id fun ⟨lg, h0, h2, h3⟩ => ⟨lg, h0, Nat.lt_of_lt_of_le h2 hb3.size, fun i hi j u q => (World.cell?_of_block (hb3.block _ h2)).trans (h3 i hi j u q)⟩, OwnE.low hE (Nat.zero_le _), hEf, (HI.out.below (HL.out.mono (Nat.le_refl _))).below hb3, HL.out.trans (hb3.mono HL.out.size)⟩
      have HEm := hide9 hEm
      have hEl9 : E.length ≤ 1048576 := (by have h9 := congrArg List.length hEm; rw [List.length_map, flT_len] at h9; omega)
      have HEb := hide9 (And.intro eab ebb)
      clear Hol hE hEm hEf hb3 eCA eCB eab ebb HA HB HR1 HR2 HL
      rw [← HEb.out.2, ← HEb.out.1]
      go_wp2
      go_loopw [10] (fun iv wr => ∃ i : Nat, iv = .int .i64 (i : Int) ∧ i ≤ E.length ∧ Hid (EfS w a b CA CB ab bb la D al cl E vp P wr)) (fun iv _ => E.length - (intOf iv).toNat)
      case atStart => exact ⟨0, rfl, Nat.zero_le _, HS⟩
      case round =>
        clear HS
        obtain ⟨i, rfl, hi, HS⟩ := hrel
        by_cases hiE : i < E.length
        · obtain ⟨gl, cpl, egl, _, _, _⟩ := OwnE.cells vnC_len HS.out.ls hiE
          injection egl with el1 e91 e92
          subst el1 e92
          clear e91
          obtain ⟨nx, enx⟩ : ∃ y, y = E[i] := ⟨_, rfl⟩
          have hfn := HS.out.fs _ (List.getElem_mem hiE)
          have hnm : E[i].1 ∈ flT b := (by rw [← HEm.out]; exact List.mem_map.2 ⟨_, List.getElem_mem hiE, rfl⟩)
          rw [← enx] at hfn hnm
          obtain ⟨n, nav, nkv⟩ := nx
          obtain ⟨na, nc, e1⟩ := hfn.at_.form
          obtain ⟨nk, nd, e2⟩ := hfn.ks.form
          dsimp only at e1 e2 hfn hnm
          subst e1 e2
          have Hen := hide9 enx
          have HFw := hide9 (HFe.out n hnm)
          have hns : n.sz ≤ 1048576 := Nat.le_trans (flT_sz hnm) hsb
          have hpl : (plD a b (wasT a n.k) n.ks).length ≤ 1048576 := (by rw [HFw.out.pl]; have h1 := stK_len a b n.ks; have h2 := szs_len n.ks; have h3 := n.sz_eq; omega)
          have HNf : Hid (FdIs (fun k => k < w.heap.size) wr (.slice na n.at_.length nc) (.slice nk n.ks.length nd) n.at_ n.ks) := hfn
          have Hns := hide9 hns
          have Hpl := hide9 hpl
          clear hfn hnm enx hns hpl
          obtain ⟨gl2, cpl2, egl2, _, hcl, _⟩ := OwnE.cells vnC_len HS.out.ls hiE
          injection egl2 with egl2 e93 e94
          injection egl2 with egl2
          injection egl2 with egl2 e95 e96
          subst egl2
          clear e93 e94 e95 e96
          have p0 := hcl 0 _ rfl
          have p1 := hcl 1 _ rfl
          have p2 := hcl 2 _ rfl
          have p3 := hcl 3 _ rfl
          have p4 := hcl 4 _ rfl
          have p5 := hcl 5 _ rfl
          rw [← Hen.out] at p0 p1 p2 p3 p4 p5
          have HXc : Hid (gl < wr.heap.size ∧ wr.cell? ⟨gl, i * 6, none⟩ = some (.int .i64 n.k.1) ∧ wr.cell? ⟨gl, i * 6 + 1, none⟩ = some (.int .i64 n.k.2) ∧ wr.cell? ⟨gl, i * 6 + 2, none⟩ = some (.string n.tg) ∧ wr.cell? ⟨gl, i * 6 + 3, none⟩ = some (.string n.tx) ∧ wr.cell? ⟨gl, i * 6 + 4, none⟩ = some (.slice na n.at_.length nc) ∧ wr.cell? ⟨gl, i * 6 + 5, none⟩ = some (.slice nk n.ks.length nd)) := ⟨cell_lt (p := ⟨gl, i * 6 + 1, none⟩) p1, p0, p1, p2, p3, p4, p5⟩
          clear hcl p0 p1 p2 p3 p4 p5
          have k1 : (i : Int) < (E.length : Int) := by omega
          have k0 : (0 : Int) ≤ (i : Int) := by omega
          obtain ⟨KL, eKL⟩ : ∃ l, l = stK a b n.ks := ⟨_, rfl⟩
          obtain ⟨PL, ePL⟩ : ∃ l, l = plD a b (wasT a n.k) n.ks := ⟨_, rfl⟩
          have HKe := hide9 eKL
          have HPe := hide9 ePL
          clear eKL ePL
          go_upto_region 10 with fail
          have HS0 : Hid (EfS w a b CA CB ab bb la D (some ⟨gl, 0, none⟩) cl E vp P wr) := HS
          refine wp_region_held_drew (S := fun W' => Below wr.heap.size wr W') (by kernel_rfl) (Below.refl _ _).drew (fun hHeld => ?_)
          obtain ⟨Up1u0, eW⟩ : ∃ X, X = wr.drew := ⟨_, rfl⟩
          have hb : Below wr.heap.size wr Up1u0 := by rw [eW]; exact (Below.refl _ _).drew
          replace HS : Hid (EfS w a b CA CB ab bb la D (some ⟨gl, 0, none⟩) cl E vp P Up1u0) := HS.out.below hb
          rw [← eW] at hHeld ⊢
          clear eW hb
          refine tkW 0 (some 40) (v := ?_) ?_ hHeld ?_
          rotate_left
          · (intro ww hSw; (try dsimp only at hSw); have hr9 : ww.heap[ab]? = some (.cells #[.int .i64 a.k.1, .int .i64 a.k.2, .string a.tg, .string a.tx, .slice aa a.at_.length ca, .slice ak a.ks.length da] 27) := ((hSw.block _ (row_lt HS0.out.r1)).trans HS0.out.r1).trans (by rw [HCA.out]); obtain ⟨y0, y1, y2, y3, y4, y5⟩ := row6d hr9; go_simp; try with_reducible rfl)
          refine tkW 1 (some 41) (v := ?_) ?_ hHeld ?_
          rotate_left
          · (intro ww hSw; (try dsimp only at hSw); have hr9 : ww.heap[bb]? = some (.cells #[.int .i64 b.k.1, .int .i64 b.k.2, .string b.tg, .string b.tx, .slice ba b.at_.length cb, .slice bk b.ks.length db] 27) := ((hSw.block _ (row_lt HS0.out.r2)).trans HS0.out.r2).trans (by rw [HCB.out]); obtain ⟨y0, y1, y2, y3, y4, y5⟩ := row6d hr9; go_simp; try with_reducible rfl)
          refine tkW 2 (some 42) (v := ?_) ?_ hHeld ?_
          rotate_left
          · (intro ww _; go_simp; try with_reducible rfl)
          refine tkW 3 (some 43) (v := ?_) ?_ hHeld ?_
          rotate_left
          · (intro ww _; go_simp; try with_reducible rfl)
          refine tkW 4 (some 44) (v := ?_) ?_ hHeld ?_
          rotate_left
          · (intro ww hSw; (try dsimp only at hSw); go_simp; try with_reducible rfl)
          refine tkW 5 (some 45) (v := ?_) ?_ hHeld ?_
          rotate_left
          · (intro ww hSw; (try dsimp only at hSw); have q0 := (hSw.cell (p := ⟨gl, i * 6, none⟩) HXc.out.1).trans HXc.out.2.1; have q1 := (hSw.cell (p := ⟨gl, i * 6 + 1, none⟩) HXc.out.1).trans HXc.out.2.2.1; have q2 := (hSw.cell (p := ⟨gl, i * 6 + 2, none⟩) HXc.out.1).trans HXc.out.2.2.2.1; have q3 := (hSw.cell (p := ⟨gl, i * 6 + 3, none⟩) HXc.out.1).trans HXc.out.2.2.2.2.1; have q4 := (hSw.cell (p := ⟨gl, i * 6 + 4, none⟩) HXc.out.1).trans HXc.out.2.2.2.2.2.1; have q5 := (hSw.cell (p := ⟨gl, i * 6 + 5, none⟩) HXc.out.1).trans HXc.out.2.2.2.2.2.2; go_simp; try with_reducible rfl)
          refine wpAnyH_ready (rs := [6]) (by kernel_rfl) (by simp) ?_
          refine AllReadyH.cons (o := ⟨some 46, _, _, _, _, _⟩) rfl (fun K hK => ?_) AllReadyH.nil
          go_simp
          refine (refPlaces_any _ _ _ a b n _ _ _ _ (by rw [← HCA.out]; exact HS.out.va) (by rw [← HCB.out]; exact HS.out.vb) (VIs.of (HNf.out.below hHeld)) hsa hsb Hns.out Hpl.out).mono ?_
          rintro e Up1u1 ⟨kv, pv, rfl, hk, hp, hb⟩
          rw [← HKe.out] at hk
          rw [← HPe.out] at hp
          obtain ⟨ka, kc, e1⟩ := OwnE.form hk
          obtain ⟨pa, pc, e2⟩ := OwnE.form hp
          subst e1 e2
          have HK : Hid (OwnSt 0 Up1u1 (.slice ka KL.length kc) KL) := OwnE.low hk (Nat.zero_le _)
          have hI : OwnI Up1u0.heap.size Up1u1 (.slice pa PL.length pc) PL := (by have h9 := hp; unfold OwnE at h9; rw [flat_int] at h9; exact h9)
          have HPw : Hid (IsI Up1u1 (.slice pa PL.length pc) PL) := hI.isI (Nat.le_trans (by rw [HPe.out]; exact Hpl.out) (by decide))
          have hkp := hHeld.trans (hb.mono hHeld.size)
          replace HS := hide9 (HS.out.below hb)
          clear hk hp hI hb
          (try go_wp2_with fail)
          refine hK.out _ _ (hkp) (fun hHeld2 => ?_)
          clear hK K hHeld
          have hHeld := hHeld2
          clear hHeld2
          (try simp only [Act.put, List.setIfInBounds_toArray, List.set_cons_zero, List.set_cons_succ])
          clear hkp
          refine tkW 7 (some 39) (v := ?_) ?_ hHeld ?_
          rotate_left
          · (intro ww _; go_simp; try with_reducible rfl)
          refine tkW 8 (some 47) (v := ?_) ?_ hHeld ?_
          rotate_left
          · (intro ww _; go_simp; try with_reducible rfl)
          refine tkW 9 (some 48) (v := ?_) ?_ hHeld ?_
          rotate_left
          · (intro ww _; go_simp; try with_reducible rfl)
          refine tkW 10 (some 11) (v := ?_) ?_ hHeld ?_
          rotate_left
          · (intro ww _; go_simp; try with_reducible rfl)
          refine tkW 11 (some 12) (v := ?_) ?_ hHeld ?_
          rotate_left
          · (intro ww _; go_simp; try with_reducible rfl)
          refine wpAnyH_done (by kernel_rfl) ?_ _
          clear hHeld HS0 HXc HNf
          obtain ⟨wA, ewA⟩ : ∃ X, X = Up1u1 := ⟨_, rfl⟩
          rw [← ewA] at HS HK HPw ⊢
          clear ewA
          have HKl : Hid (KL.length ≤ 1048576) := (by show _ ≤ _; rw [HKe.out, ← HFw.out.pl]; exact Hpl.out)
          go_wp2
          go_loopw [13, 14] (fun nv kv wr => ∃ k : Nat, kv = .int .i64 (k : Int) ∧ k ≤ D.length ∧ nv = .int .i64 (cntS KL (D.take k) : Int) ∧ Hid (EfS w a b CA CB ab bb la D (some ⟨gl, 0, none⟩) cl E vp P wr) ∧ Hid (OwnSt 0 wr (.slice ka KL.length kc) KL) ∧ Hid (IsI wr (.slice pa PL.length pc) PL)) (fun _ kv _ => D.length - (intOf kv).toNat)
          case atStart => exact ⟨0, rfl, Nat.zero_le _, rfl, HS, HK, HPw⟩
          case round =>
            clear HS HK HPw
            obtain ⟨k, rfl, hk, rfl, HS, HK, HPw⟩ := hrel
            by_cases hkt : k < D.length
            · obtain ⟨lg, ela, _⟩ := HS.out.ol.resolve_left (fun e => by rw [e] at hkt; simp at hkt)
              subst ela
              obtain ⟨p, ep⟩ : ∃ p, p = D[k] := ⟨_, rfl⟩
              have hct := cntS_take (K := KL) hkt
              rw [← ep] at hct
              have Hct := hide9 hct
              have Hcl : Hid (cntS KL (D.take k) ≤ 1048576000) := (by have h1 := cntS_le KL (D.take k); rw [List.length_take] at h1; have h2 := HDl.out; show _ ≤ _; omega)
              obtain ⟨cn, ecn⟩ : ∃ c, c = cntS KL (D.take k) := ⟨_, rfl⟩
              rw [← ecn] at Hct Hcl ⊢
              have hcl9 := Hcl.out
              obtain ⟨x0, x1, x2⟩ : wr.cell? ⟨lg, k * 9, none⟩ = some (.int .i64 p.kd) ∧ wr.cell? ⟨lg, k * 9 + 1, none⟩ = some (.int .i64 p.k.1) ∧ wr.cell? ⟨lg, k * 9 + 1 + 1, none⟩ = some (.int .i64 p.k.2) := (by obtain ⟨_, hx0, h2, h3⟩ := HS.out.ol.resolve_left (fun e => by rw [e] at hkt; simp at hkt); injection hx0 with hx0; injection hx0 with hx0 _ _; subst hx0; exact ⟨by rw [ep]; exact h3 k hkt 0 _ rfl, by rw [ep]; exact h3 k hkt 1 _ rfl, by rw [ep]; exact h3 k hkt 2 _ rfl⟩)
              have m1 : (k : Int) < (D.length : Int) := by omega
              have m0 : (0 : Int) ≤ (k : Int) := by omega
              clear hct ep ecn
              by_cases h5 : p.kd = 5
              · rw [h5] at x0
                go_wp2_with fail
                clear x0 x1 x2
                refine (refHas_any _ _ KL p.k _ HK.out (Nat.le_trans HKl.out (by decide))).mono ?_
                rintro e w8 ⟨rfl, hb⟩
                replace HS := hide9 (HS.out.below hb)
                replace HK := hide9 (OwnE.below HK.out hb)
                replace HPw := hide9 (HPw.out.below hb)
                obtain ⟨hs9, ehs⟩ : ∃ v : Bool, hasS KL p.k = v := ⟨_, rfl⟩
                rw [ehs]
                have HZ : Hid (isShf KL p = hs9) := (by show _ = _; unfold isShf; rw [decide_eq_true h5, ehs]; simp)
                clear hb ehs h5
                cases hs9 with
                | false =>
                  go_wp2
                  go_roundw
                  case rel => exact ⟨k + 1, by go_num, by omega, (by rw [Hct.out, HZ.out]; simp), HS, HK, HPw⟩
                  case measure => simp [intOf]; omega
                | true =>
                  go_wp2
                  go_roundw
                  case rel => exact ⟨k + 1, by go_num, by omega, (by rw [Hct.out, HZ.out]; simp), HS, HK, HPw⟩
                  case measure => simp [intOf]; omega
              · have HZ : Hid (isShf KL p = false) := (by show _ = _; unfold isShf; rw [decide_eq_false h5]; rfl)
                obtain ⟨kd, ekd⟩ : ∃ x, x = p.kd := ⟨_, rfl⟩
                rw [← ekd] at x0 h5
                clear ekd
                have h5c : (kd == 5) = false := beq_eq_false_iff_ne.2 h5
                go_wp2
                clear x0 x1 x2
                go_roundw
                case rel => exact ⟨k + 1, by go_num, by omega, (by rw [Hct.out, HZ.out]; simp), HS, HK, HPw⟩
                case measure => simp [intOf]; omega
            · have m1 : ¬ (k : Int) < (D.length : Int) := by omega
              have hkD : D.take k = D := List.take_of_length_le (by omega)
              rw [hkD]
              have hcn : cntS KL D = (shD a b n).length := (by rw [HKe.out]; exact HFw.out.cnt)
              rw [hcn]
              obtain ⟨sh, esh⟩ : ∃ c, c = (shD a b n).length := ⟨_, rfl⟩
              rw [← esh]
              have Hsh := hide9 esh
              have Hshf : Hid (shfD a b n.k = ((sh : Int), 0)) := (by rw [esh]; exact HFw.out.shf)
              have Hlen : Hid (sh + (risL PL).length = KL.length) := (by rw [esh, HPe.out, HKe.out]; exact HFw.out.len)
              have Hany : Hid (isB PL P = true → sh + P.length ≤ KL.length) := (by rw [esh, HPe.out, HKe.out]; exact HFw.out.any)
              clear hkD hcn esh
              obtain ⟨gl2, cpl2, egl2, _, hcl, _⟩ := OwnE.cells vnC_len HS.out.ls hiE
              injection egl2 with egl2 e93 e94
              injection egl2 with egl2
              injection egl2 with egl2 e95 e96
              subst egl2
              clear e93 e94 e95 e96
              have p0 := hcl 0 _ rfl
              have p1 := hcl 1 _ rfl
              have p2 := hcl 2 _ rfl
              have p3 := hcl 3 _ rfl
              have p4 := hcl 4 _ rfl
              have p5 := hcl 5 _ rfl
              rw [← Hen.out] at p0 p1 p2 p3 p4 p5
              have HXc : Hid (gl < wr.heap.size ∧ wr.cell? ⟨gl, i * 6, none⟩ = some (.int .i64 n.k.1) ∧ wr.cell? ⟨gl, i * 6 + 1, none⟩ = some (.int .i64 n.k.2) ∧ wr.cell? ⟨gl, i * 6 + 2, none⟩ = some (.string n.tg) ∧ wr.cell? ⟨gl, i * 6 + 3, none⟩ = some (.string n.tx) ∧ wr.cell? ⟨gl, i * 6 + 4, none⟩ = some (.slice na n.at_.length nc) ∧ wr.cell? ⟨gl, i * 6 + 5, none⟩ = some (.slice nk n.ks.length nd)) := ⟨cell_lt (p := ⟨gl, i * 6 + 1, none⟩) p1, p0, p1, p2, p3, p4, p5⟩
              clear hcl p0 p1 p2 p3 p4 p5
              go_upto_region 17 with fail
              have HS0 : Hid (EfS w a b CA CB ab bb la D (some ⟨gl, 0, none⟩) cl E vp P wr) := HS
              refine wp_region_held_drew (S := fun W' => Below wr.heap.size wr W') (by kernel_rfl) (Below.refl _ _).drew (fun hHeld => ?_)
              obtain ⟨Uq2u0, eW⟩ : ∃ X, X = wr.drew := ⟨_, rfl⟩
              have hb : Below wr.heap.size wr Uq2u0 := by rw [eW]; exact (Below.refl _ _).drew
              replace HS : Hid (EfS w a b CA CB ab bb la D (some ⟨gl, 0, none⟩) cl E vp P Uq2u0) := HS.out.below hb
              replace HK : Hid (OwnSt 0 Uq2u0 (.slice ka KL.length kc) KL) := OwnE.below HK.out hb
              replace HPw : Hid (IsI Uq2u0 (.slice pa PL.length pc) PL) := HPw.out.below hb
              rw [← eW] at hHeld ⊢
              clear eW hb
              refine tkW 0 (some 73) (v := ?_) ?_ hHeld ?_
              rotate_left
              · (intro ww hSw; (try dsimp only at hSw); have hr9 : ww.heap[ab]? = some (.cells #[.int .i64 a.k.1, .int .i64 a.k.2, .string a.tg, .string a.tx, .slice aa a.at_.length ca, .slice ak a.ks.length da] 27) := ((hSw.block _ (row_lt HS0.out.r1)).trans HS0.out.r1).trans (by rw [HCA.out]); obtain ⟨y0, y1, y2, y3, y4, y5⟩ := row6d hr9; go_simp; try with_reducible rfl)
              refine tkW 1 (some 74) (v := ?_) ?_ hHeld ?_
              rotate_left
              · (intro ww hSw; (try dsimp only at hSw); have hr9 : ww.heap[bb]? = some (.cells #[.int .i64 b.k.1, .int .i64 b.k.2, .string b.tg, .string b.tx, .slice ba b.at_.length cb, .slice bk b.ks.length db] 27) := ((hSw.block _ (row_lt HS0.out.r2)).trans HS0.out.r2).trans (by rw [HCB.out]); obtain ⟨y0, y1, y2, y3, y4, y5⟩ := row6d hr9; go_simp; try with_reducible rfl)
              refine tkW 2 (some 75) (v := ?_) ?_ hHeld ?_
              rotate_left
              · (intro ww _; go_simp; try with_reducible rfl)
              refine tkW 3 (some 76) (v := ?_) ?_ hHeld ?_
              rotate_left
              · (intro ww _; go_simp; try with_reducible rfl)
              refine tkW 4 (some 77) (v := ?_) ?_ hHeld ?_
              rotate_left
              · (intro ww hSw; (try dsimp only at hSw); go_simp; try with_reducible rfl)
              refine tkW 5 (some 78) (v := ?_) ?_ hHeld ?_
              rotate_left
              · (intro ww _; go_simp; try with_reducible rfl)
              refine tkW 6 (some 79) (v := ?_) ?_ hHeld ?_
              rotate_left
              · (intro ww hSw; (try dsimp only at hSw); have q0 := (hSw.cell (p := ⟨gl, i * 6, none⟩) HXc.out.1).trans HXc.out.2.1; have q1 := (hSw.cell (p := ⟨gl, i * 6 + 1, none⟩) HXc.out.1).trans HXc.out.2.2.1; go_simp; try with_reducible rfl)
              refine wpAnyH_ready (rs := [7]) (by kernel_rfl) (by simp) ?_
              refine AllReadyH.cons (o := ⟨some 80, _, _, _, _, _⟩) rfl (fun K hK => ?_) AllReadyH.nil
              go_simp
              refine (shifts_any _ a b n.k _ _ _ (by rw [← HCA.out]; exact HS.out.va) (by rw [← HCB.out]; exact HS.out.vb) hsa Hba.out hsb Hbb.out).mono ?_
              rintro e Uq2u1 ⟨rfl, hb⟩
              rw [Hshf.out]
              dsimp only
              have hkp := hHeld.trans (hb.mono hHeld.size)
              replace HS := hide9 (HS.out.below hb)
              replace HK := hide9 (OwnE.below HK.out hb)
              replace HPw := hide9 (HPw.out.below hb)
              clear hb
              (try go_wp2_with fail)
              refine hK.out _ _ (hkp) (fun hHeld2 => ?_)
              clear hK K hHeld
              have hHeld := hHeld2
              clear hHeld2
              (try simp only [Act.put, List.setIfInBounds_toArray, List.set_cons_zero, List.set_cons_succ])
              clear hkp
              refine tkW 8 (some 72) (v := ?_) ?_ hHeld ?_
              rotate_left
              · (intro ww _; go_simp; try with_reducible rfl)
              refine tkW 9 (some 81) (v := ?_) ?_ hHeld ?_
              rotate_left
              · (intro ww _; go_simp; try with_reducible rfl)
              refine tkW 10 (some 82) (v := ?_) ?_ hHeld ?_
              rotate_left
              · (intro ww _; go_simp; try with_reducible rfl)
              refine tkW 11 (some 15) (v := ?_) ?_ hHeld ?_
              rotate_left
              · (intro ww _; go_simp; try with_reducible rfl)
              refine tkW 12 (some 16) (v := ?_) ?_ hHeld ?_
              rotate_left
              · (intro ww _; go_simp; try with_reducible rfl)
              refine wpAnyH_done (by kernel_rfl) ?_ _
              clear hHeld HS0 HXc
              have hkl9 := HKl.out
              have hsl9 : sh ≤ KL.length := (by have := Hlen.out; omega)
              go_wp2_with fail
              refine (refRising_any _ PL _ HPw.out).mono ?_
              rintro e w9 ⟨rv, rfl, hr, hb⟩
              obtain ⟨ra, rc, er⟩ := hr.form
              subst er
              replace HS := hide9 (HS.out.below hb)
              replace HK := hide9 (OwnE.below HK.out hb)
              replace HPw := hide9 (HPw.out.below hb)
              have hln : (KL.length : Int) - ((risL PL).length : Int) = (sh : Int) := (by have := Hlen.out; omega)
              have hwr : IntKind.i64.wrap ((KL.length : Int) - ((risL PL).length : Int)) = (sh : Int) := (by rw [hln, IntKind.wrap_i64]; omega)
              clear hr hb
              go_wp2_with fail
              obtain ⟨vpa, vpc, evp⟩ := HS.out.ip.form
              subst evp
              refine (refIs_any _ _ PL P _ HPw.out HS.out.ip).mono ?_
              rintro e w10 ⟨rfl, hb⟩
              obtain ⟨ib, eib⟩ : ∃ v : Bool, isB PL P = v := ⟨_, rfl⟩
              rw [eib]
              replace HS := hide9 (HS.out.below hb)
              clear hb hln hwr HK HPw
              cases ib with
              | false =>
                clear eib
                go_wp2
                go_roundw
                case rel => exact ⟨i + 1, by go_num, by omega, HS⟩
                case measure => simp [intOf]; omega
              | true =>
                have hp9 := Hany.out eib
                have hwr : IntKind.i64.wrap ((KL.length : Int) - (P.length : Int)) = (KL.length : Int) - (P.length : Int) := (by rw [IntKind.wrap_i64]; omega)
                have hnl : ¬ ((KL.length : Int) - (P.length : Int) < (sh : Int)) := (by omega)
                clear eib
                go_wp2
                go_roundw
                case rel => exact ⟨i + 1, by go_num, by omega, HS⟩
                case measure => simp [intOf]; omega
        · have k1 : ¬ (i : Int) < (E.length : Int) := by omega
          have HL : Hid (Below w.heap.size w wr) := HS.out.bel
          clear HS
          go_wp2_with fail
          refine (awakeD_any _).mono ?_
          rintro e w9 ⟨rfl, hb9⟩
          have HZ : Hid (Below w.heap.size w w9) := HL.out.trans (hb9.mono HL.out.size)
          clear hb9
          go_wp2
          (try rw [Exit.noGoto_ret])
          go_ret
          exact ⟨rfl, HZ.out⟩
    · unfold OfP at hP
      rw [if_neg hy] at hP
      obtain ⟨rfl, rfl⟩ := hP
      obtain ⟨cy, ecy⟩ : ∃ x, x = whyD a b := ⟨_, rfl⟩
      rw [← ecy] at hy ⊢
      clear ecy HA HB HR1 HR2
      go_wp2_with fail
      refine (awakeD_any _).mono ?_
      rintro e w9 ⟨rfl, hb9⟩
      have HZ : Hid (Below w.heap.size w w9) := HL.out.trans (hb9.mono HL.out.size)
      clear hb9
      go_wp2
      (try rw [Exit.noGoto_ret])
      go_ret
      exact ⟨rfl, HZ.out⟩

end Go.Proofs.Ythhnglpkfcmjiab

namespace Go.Proofs.Ythhnglpkfcmjiab
open Go.ChangeShapes Go.WideShapes Go.ChangeAt Go.RowKit
set_option linter.unusedVariables false

set_option maxRecDepth 100000 in
theorem diffFewest_lifted (os : Os) (started : os.Started) (H : Type) (enc : TypeId × Value → H) (F : Stop.Interp) :
    ReturnsInHanded {} Try.checked os 3 .any ((Rows.OpenSpec.upto Rows.diffFewestSpec).pre6 enc Try.prog Try.f3 Rows.diffFewestUptoRow.domain false) (((Rows.OpenSpec.upto Rows.diffFewestSpec).at F).post enc Try.prog Try.f3 false true false false) := by
  refine returnsInHanded_of_cond_sized (C := Try.checked) (s := Rows.OpenSpec.upto Rows.diffFewestSpec) (k := Rows.uptoSmall) rfl ownI started (by kernel_rfl) Try.func3
    (OpenSpec.witness (enc := enc) (C := Try.checked) (s := Rows.OpenSpec.upto Rows.diffFewestSpec) (k := Rows.uptoSmall) rfl false ⟨#[], #[.agg #[.int .i64 0, .int .i64 0, .string ByteArray.empty, .string ByteArray.empty, .slice none 0 0, .slice none 0 0], .agg #[.int .i64 0, .int .i64 0, .string ByteArray.empty, .string ByteArray.empty, .slice none 0 0, .slice none 0 0], .slice none 0 0], []⟩ 8 (by kernel_rfl) (by kernel_rfl) (by kernel_rfl)
      (x := ([.agg [.agg [.lit (.int .i64 0), .lit (.int .i64 0)], .lit (.string []), .lit (.string []), .nil, .nil], .agg [.agg [.lit (.int .i64 0), .lit (.int .i64 0)], .lit (.string []), .lit (.string []), .nil, .nil], .nil], [], [])) (by kernel_rfl) rfl (by kernel_rfl)) ?_
  intro W base args ds gs before hval0 hW _ hk hsz0 _
  have hval : ∀ (j : Nat) t v, Try.f3.params[j]? = some t → args[j]? = some v → Value.okWide Try.prog W .any base t v := hval0
  have hW' := hW
  obtain ⟨p, q, hA0, hV, rfl, hfz, hnd⟩ := hW
  have hA : DataW.TrodAll enc Try.prog W 0 (fun _ => true) true Try.f3.params.toList args.toList ds p := hA0
  rw [Try.params3] at hA hval
  obtain ⟨v0, v1, v2, d0, d1, d2, p0, p1, p2, rfl, rfl, rfl, h0, h1, h2⟩ := trodAll_three hA
  obtain ⟨rfl, rfl⟩ := trodVars_none hV
  have hk0 := h0
  have hk1 := h1
  have hk2 := h2
  obtain ⟨D2, hf2, hd2⟩ := open_intsV (hval 2 28 v2 rfl rfl) h2
  have hb : Rows.uptoBulkAll _ ≤ 1048576 := of_decide_eq_true hk
  simp only [List.append_nil, Rows.uptoBulkAll] at hb
  have hsz : (DataW.weightsEach Try.prog [27, 27, 28] [d0, d1, d2]).all (· ≤ reachBytes) = true := hsz0
  have hw0 : ∀ n ∈ d0.weights Try.prog 27, n ≤ reachBytes := fun n hn => by
    have h1 := List.all_eq_true.1 hsz n (DataW.weights_mem_each (j := 0) rfl rfl n hn)
    simpa using h1
  obtain ⟨D0, is0, bn0, bk0⟩ := open_nodeV (hval 0 27 v0 rfl rfl) h0 hw0
  have hlt0 : ∀ x ∈ p0, x.block < W.heap.size := fun x hx => by simpa using hW'.lt x (by simp [hx])
  have hw1 : ∀ n ∈ d1.weights Try.prog 27, n ≤ reachBytes := fun n hn => by
    have h1 := List.all_eq_true.1 hsz n (DataW.weights_mem_each (j := 1) rfl rfl n hn)
    simpa using h1
  obtain ⟨D1, is1, bn1, bk1⟩ := open_nodeV (hval 1 27 v1 rfl rfl) h1 hw1
  have hlt1 : ∀ x ∈ p1, x.block < W.heap.size := fun x hx => by simpa using hW'.lt x (by simp [hx])
  have len2 : D2.length ≤ 17592186044416 := by
    rcases hd2 with ⟨_, rfl⟩ | ⟨els, sp, e, he⟩
    · simp
    · subst e
      have h1 := sized_slice hsz (j := 2) (t := 28) rfl rfl Try.underlying28
      have h2 : reachBytes ≤ 140737488355328 := by decide
      rw [bytesInt] at h1
      omega
  have is2 : IsI W v2 D2 := by obtain ⟨a, cap, e, h1, h2⟩ := hf2; exact ⟨a, cap, e, h1, len2, h2⟩
  have hlt2 : ∀ x ∈ p2, x.block < W.heap.size := fun x hx => by simpa using hW'.lt x (by simp [hx])
  clear hA0 hval0
  refine (diffFewest_walk v0 D0 v1 D1 v2 D2 W is0 (fun x hx => bn0 0 x hx) (by omega) is1 (fun x hx => bn1 0 x hx) (by omega) is2).mono fun e W' ⟨he, bel⟩ => ?_
  subst he
  exact ⟨_, rfl, _, _, _, [], _, [], hW', trodAll_mk1 (shut_bool Try.underlying4 _), trodAll_mk3 (Below.trod laidOutI (by kernel_rfl) (of_decide_eq_true (by kernel_rfl)) hk0 bel hlt0) (Below.trod laidOutI (by kernel_rfl) (of_decide_eq_true (by kernel_rfl)) hk1 bel hlt1) (Below.trod laidOutI (by kernel_rfl) (of_decide_eq_true (by kernel_rfl)) hk2 bel hlt2), rfl, bel.frame _, fun h => by cases h⟩

theorem diffFewest_holds : Rows.DiffFewestUptoSaid :=
  OpenClaim.holds_of_cond 3 Try.f3 rfl rfl rfl rfl rfl rfl rfl ⟨rfl, rfl, rfl, rfl, rfl⟩ rfl rfl rfl rfl rfl (by kernel_rfl) Try.func3 (by kernel_rfl)
    (of_decide_eq_true (by kernel_rfl)) (by unfold Func.isWrapper; first | (rw [if_pos (by decide +kernel)]; kernel_rfl) | (rw [if_neg (by decide +kernel)]; exact ⟨rfl, rfl⟩))
    (fun os started H enc _ F => diffFewest_lifted os started H enc F)
#print axioms diffFewest_holds
end Go.Proofs.Ythhnglpkfcmjiab
